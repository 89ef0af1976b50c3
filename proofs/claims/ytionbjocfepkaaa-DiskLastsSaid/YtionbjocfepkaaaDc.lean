/-
  CONTRACTS OF PACKAGE disk: operate and alter whole, handed whatever closure; Arm and Fail.
-/
import Derived.Test.YtionbjocfepkaaaDb
namespace Go.Proofs.Ytionbjocfepkaaa
set_option linter.unusedVariables false
open Go.RowKit Go.WideShapes Go.ChangeShapes

theorem enters_op (a b c : Value) (w : World) : (callFunc 59 #[a, b, c]).run Try.prog w = .ok (.enter 59 #[a, b, c]) w := by kernel_rfl
theorem enters_al (a b : Value) (w : World) : (callFunc 56 #[a, b]).run Try.prog w = .ok (.enter 56 #[a, b]) w := by kernel_rfl

section
variable {w : World} {g : Nat} {s o : Value} {f a : Bool × Int} {dd : Bool} {ops : Int}

theorem operate_nil (b : Bool) (k : Nat) (caps : Array Value) (w : World) :
    Calls Try.prog 43 #[.pointer none, .bool b, .func (.func k) #[] caps] w fun e w' => e = .returned (.int .i64 1) ∧ Below w.heap.size w w' := by
  have hb := (box3 w (.pointer none) (.bool b) (.func (.func k) #[] caps) 24 4 63).1
  go_enter Try.func43, Try.ntmps43
  go_wp2_with (go_at_call 46; refine (powered_nil _ _).mono ?_; rintro e w' ⟨rfl, rfl⟩)
  go_ret
  exact ⟨rfl, hb⟩
theorem operate_dead (b : Bool) (k : Nat) (caps : Array Value) (hd : Db w g s o f a true ops) :
    Calls Try.prog 43 #[rp g, .bool b, .func (.func k) #[] caps] w fun e w' => e = .returned (.int .i64 9) ∧ Below w.heap.size w w' := by
  have hb := (box3 w (rp g) (.bool b) (.func (.func k) #[] caps) 24 4 63).1
  have h6 := (hd.below hb hd.lt).c6
  have H6 := Lib.hid h6
  clear h6
  go_enter Try.func43, Try.ntmps43
  go_wp2_with (go_at_call 46; refine (powered_dead _ H6.out).mono ?_; rintro e w' ⟨rfl, rfl⟩)
  go_ret
  exact ⟨rfl, hb⟩

/-- Operate, of a disk with power: whatever Q the closure's end gives. -/
theorem operate_by (b : Bool) (k : Nat) (caps : Array Value) (Q : Int → World → Prop) (hd : Db w g s o f a false ops)
    (h : ∀ w3, Below w.heap.size w w3 → w.heap.size + 1 + 1 < w3.heap.size → w3.cell? ⟨w.heap.size, 0, none⟩ = some (rp g) → w3.cell? ⟨w.heap.size + 1, 0, none⟩ = some (.bool b) → w3.cell? ⟨w.heap.size + 1 + 1, 0, none⟩ = some (.func (.func k) #[] caps) →
      Calls Try.prog 59 #[rp (w.heap.size + 1), rp w.heap.size, rp (w.heap.size + 1 + 1)] w3 fun e w' => ∃ x : Int, e = .returned (.int .i64 x) ∧ Q x w') :
    Calls Try.prog 43 #[rp g, .bool b, .func (.func k) #[] caps] w fun e w' => ∃ x : Int, e = .returned (.int .i64 x) ∧ Q x w' := by
  obtain ⟨hb, hc0, hc1, hc2⟩ := box3 w (rp g) (.bool b) (.func (.func k) #[] caps) 24 4 63
  have h6 := (hd.below hb hd.lt).c6
  have hh := powered_do _ _ Q h6 (enters_op _ _ _) (h _ hb (by simp) hc0 hc1 hc2)
  have HH := Lib.hid hh
  clear hh h6 h hc0 hc1 hc2 hb
  go_enter Try.func43, Try.ntmps43
  go_wp2_with (go_at_call 46; refine (HH.out).mono ?_; rintro e w' ⟨x, rfl, hx⟩)
  go_ret
  exact ⟨x, rfl, hx⟩

theorem operate_no (k : Nat) (caps : Array Value) (hd : Db w g s o f a false ops) :
    Calls Try.prog 43 #[rp g, .bool false, .func (.func k) #[] caps] w fun e w' => e = .returned (.int .i64 2) ∧ Below w.heap.size w w' :=
  (operate_by false k caps (fun x w' => x = 2 ∧ Below w.heap.size w w') hd fun w3 hb _ _ h1 _ => (opr1_no _ _ h1).mono fun e w' ⟨he, hw⟩ => ⟨2, he, rfl, hw ▸ hb⟩).mono fun e w' ⟨x, he, hx, hb⟩ => ⟨hx ▸ he, hb⟩
theorem operate_fault (k : Nat) (caps : Array Value) (hd : Db w g s o f a false ops) (ha : dueB a = true) :
    Calls Try.prog 43 #[rp g, .bool true, .func (.func k) #[] caps] w fun e w' => e = .returned (.int .i64 8) ∧ ∃ w1, Below w.heap.size w w1 ∧ w' = (w1.setCell ⟨g, 4, none⟩ (.bool false)).setCell ⟨g, 5, none⟩ (.int .i64 0) :=
  (operate_by true k caps (fun x w' => x = 8 ∧ ∃ w1, Below w.heap.size w w1 ∧ w' = (w1.setCell ⟨g, 4, none⟩ (.bool false)).setCell ⟨g, 5, none⟩ (.int .i64 0)) hd fun w3 hb hz h0 h1 h2 =>
    (opr1_fault _ h1 h0 (hd.below hb hd.lt) ha).mono fun e w' ⟨he, w1, hb1, hw⟩ => ⟨8, he, rfl, w1, hb.trans (hb1.mono hb.size), hw⟩).mono fun e w' ⟨x, he, hx, hb⟩ => ⟨hx ▸ he, hb⟩
theorem operate_do (k : Nat) (caps : Array Value) (S : Nat → Prop) (Qd : Int → World → Prop) (hd : Db w g s o f a false ops) (ha : dueB a = false) (hfa : FitC a) (hops : 0 ≤ ops ∧ ops ≤ 4611686018427387904) (hS : ∀ b, S b → b < w.heap.size)
    (hk : ∀ w : World, (callFunc k caps).run Try.prog w = .ok (.enter k caps) w)
    (hdo : ∀ w1, Below w.heap.size w w1 → Calls Try.prog k caps w1 fun e w2 => ∃ x : Int, e = .returned (.int .i64 x) ∧ Mv S w1 w2 ∧ (∃ s o f dd, Db w2 g s o f a dd ops) ∧ Qd x w2) :
    Calls Try.prog 43 #[rp g, .bool true, .func (.func k) #[] caps] w fun e w' => ∃ x : Int, e = .returned (.int .i64 x) ∧ OpPost Qd g a ops x w' :=
  operate_by true k caps (OpPost Qd g a ops) hd fun w3 hb hz h0 h1 h2 =>
    opr1_do k caps S Qd h1 h0 h2 (hd.below hb hd.lt) ha hfa hops (fun h => by have := hS _ h; omega) (by have := hd.lt; omega) hk fun w1 hb1 => hdo w1 (hb.trans (hb1.mono hb.size))

/-- What stands behind alter's closure. -/
def AlPost (Qd : World → Prop) (w : World) (g : Nat) (f : Bool × Int) (x : Int) (w' : World) : Prop :=
  (x = 9 ∧ dueB f = true ∧ ∃ w1, Below w.heap.size w w1 ∧ w' = w1.setCell ⟨g, 6, none⟩ (.bool true)) ∨ (x = 0 ∧ dueB f = false ∧ ∃ w2, Qd w2 ∧ w' = passW w2 g 2 f)

theorem al1_fuse {bd : Nat} (v : Value) (h1 : w.cell? ⟨bd, 0, none⟩ = some (rp g)) (hd : Db w g s o f a dd ops) (hf : dueB f = true) :
    Calls Try.prog 56 #[rp bd, v] w fun e w' => e = .returned (.int .i64 9) ∧ ∃ w1, Below w.heap.size w w1 ∧ w' = w1.setCell ⟨g, 6, none⟩ (.bool true) := by
  have c4 := hd.c2
  have c5 := hd.c3
  have hbd := block_lt_of_cell h1
  simp only at hbd
  have HD := Lib.hid hd
  have hg := hd.lt
  clear hd
  go_enter Try.func56, Try.ntmps56
  go_wp2_with (go_at_call 57; refine (due_any f _).mono ?_; rintro e w1 ⟨rfl, hb1⟩; rw [hf]; have d1 := (hb1.cell (p := ⟨bd, 0, none⟩) hbd).trans h1; have d2 := (HD.out.below hb1 hg).c6; have d3 := (HD.out.below hb1 hg).fz 6)
  go_ret
  exact ⟨rfl, w1, hb1, rfl⟩
theorem al1_do {bd bf : Nat} (k : Nat) (caps : Array Value) (S : Nat → Prop) (Qd : World → Prop)
    (h1 : w.cell? ⟨bd, 0, none⟩ = some (rp g)) (h2 : w.cell? ⟨bf, 0, none⟩ = some (.func (.func k) #[] caps)) (hd : Db w g s o f a dd ops) (hf : dueB f = false) (hff : FitC f)
    (hS : ¬ S bd)
    (hk : ∀ w : World, (callFunc k caps).run Try.prog w = .ok (.enter k caps) w)
    (hdo : ∀ w1, Below w.heap.size w w1 → Calls Try.prog k caps w1 fun e w2 => e = .returned (.tuple #[]) ∧ Mv S w1 w2 ∧ (∃ s o, Db w2 g s o f a dd ops) ∧ Qd w2) :
    Calls Try.prog 56 #[rp bd, rp bf] w fun e w' => e = .returned (.int .i64 0) ∧ ∃ w2, Qd w2 ∧ w' = passW w2 g 2 f := by
  have c4 := hd.c2
  have c5 := hd.c3
  have hbd := block_lt_of_cell h1
  have hbf := block_lt_of_cell h2
  simp only at hbd hbf
  have HD := Lib.hid hd
  have hg := hd.lt
  have HDO := Lib.hid hdo
  clear hd hdo
  go_enter Try.func56, Try.ntmps56
  go_wp2_with (go_at_call 57; refine (due_any f _).mono ?_; rintro e w1 ⟨rfl, hb1⟩; rw [hf]; have d1 := (hb1.cell (p := ⟨bd, 0, none⟩) hbd).trans h1; have d2 := (hb1.cell (p := ⟨bf, 0, none⟩) hbf).trans h2)
  refine (HDO.out w1 hb1).mono ?_
  rintro e w2 ⟨rfl, hm, ⟨s2, o2, hd2⟩, hq⟩
  have e1 := hm.cell d1 hS
  have e4 := hd2.c2
  have e5 := hd2.c3
  have e9 := hd2.fz 3
  go_wp2_with (go_at_call 58; refine (pass_any f 2 e4 e5 e9 hff.pass).mono ?_; rintro e w3 ⟨rfl, hw3⟩; subst hw3)
  go_ret
  exact ⟨rfl, w2, hq, rfl⟩

theorem alter_nil (b : Bool) (k : Nat) (caps : Array Value) (w : World) :
    Calls Try.prog 40 #[.pointer none, .bool b, .func (.func k) #[] caps] w fun e w' => e = .returned (.int .i64 1) ∧ Below w.heap.size w w' := by
  have hb := (box2 w (.pointer none) (.func (.func k) #[] caps) 24 1).1
  go_enter Try.func40, Try.ntmps40
  go_wp2_with (go_at_call 43; refine (operate_nil _ _ _ _).mono ?_; rintro e w' ⟨rfl, hb1⟩)
  go_ret
  exact ⟨rfl, hb.trans (hb1.mono hb.size)⟩
/-- Alter, whatever operate comes to. -/
theorem alter_by (b : Bool) (k : Nat) (caps : Array Value) (R : Int → World → Prop)
    (h : ∀ w2, Below w.heap.size w w2 → w.heap.size + 1 < w2.heap.size → w2.cell? ⟨w.heap.size, 0, none⟩ = some (rp g) → w2.cell? ⟨w.heap.size + 1, 0, none⟩ = some (.func (.func k) #[] caps) →
      Calls Try.prog 43 #[rp g, .bool b, .func (.func 56) #[] #[rp w.heap.size, rp (w.heap.size + 1)]] w2 fun e w' => ∃ x : Int, e = .returned (.int .i64 x) ∧ R x w') :
    Calls Try.prog 40 #[rp g, .bool b, .func (.func k) #[] caps] w fun e w' => ∃ x : Int, e = .returned (.int .i64 x) ∧ R x w' := by
  obtain ⟨hb, hc0, hc1⟩ := box2 w (rp g) (.func (.func k) #[] caps) 24 1
  have hh := h _ hb (by simp) hc0 hc1
  have HH := Lib.hid hh
  clear hh h hc0 hc1 hb
  go_enter Try.func40, Try.ntmps40
  go_wp2_with (go_at_call 43; refine (HH.out).mono ?_; rintro e w' ⟨x, rfl, hx⟩)
  go_ret
  exact ⟨x, rfl, hx⟩
end
end Go.Proofs.Ytionbjocfepkaaa
