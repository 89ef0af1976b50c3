/-
  CONTRACTS OF PACKAGE disk: powered, operate, alter, handed whatever closure; Arm and Fail.
-/
import Derived.Test.YtionbjocfepkaaaDa
import Derived.Deep.DeepCutAuto
import Derived.Deep.CutBlock
import Derived.Deep.RegionWith
namespace Go.Proofs.Ytionbjocfepkaaa
set_option linter.unusedVariables false
open Go.RowKit Go.WideShapes Go.ChangeShapes

theorem cell_alloc_old {w : World} {o : Obj} {p : Addr} (h : p.block < w.heap.size) : (w.alloc o).cell? p = w.cell? p := World.cell?_of_block (Below.heap_alloc w o p.block h)
theorem box1 (w : World) (v1 : Value) (t1 : TypeId) :
    Below w.heap.size w (w.alloc (.cells #[v1] t1)) ∧ (w.alloc (.cells #[v1] t1)).cell? ⟨w.heap.size, 0, none⟩ = some v1 :=
  ⟨(Below.refl _ _).alloc (Nat.le_refl _) _, Bl.cell (Bl.new w t1 [v1]) 0⟩
theorem box2 (w : World) (v1 v2 : Value) (t1 t2 : TypeId) :
    Below w.heap.size w ((w.alloc (.cells #[v1] t1)).alloc (.cells #[v2] t2)) ∧ ((w.alloc (.cells #[v1] t1)).alloc (.cells #[v2] t2)).cell? ⟨w.heap.size, 0, none⟩ = some v1 ∧ ((w.alloc (.cells #[v1] t1)).alloc (.cells #[v2] t2)).cell? ⟨w.heap.size + 1, 0, none⟩ = some v2 := by
  obtain ⟨h1, h2⟩ := box1 w v1 t1
  obtain ⟨h3, h4⟩ := box1 (w.alloc (.cells #[v1] t1)) v2 t2
  refine ⟨h1.trans (h3.mono (by simp)), (cell_alloc_old (by simp)).trans h2, ?_⟩
  rw [← h4]; congr 2; simp
theorem box3 (w : World) (v1 v2 v3 : Value) (t1 t2 t3 : TypeId) :
    Below w.heap.size w (((w.alloc (.cells #[v1] t1)).alloc (.cells #[v2] t2)).alloc (.cells #[v3] t3)) ∧ (((w.alloc (.cells #[v1] t1)).alloc (.cells #[v2] t2)).alloc (.cells #[v3] t3)).cell? ⟨w.heap.size, 0, none⟩ = some v1 ∧
      (((w.alloc (.cells #[v1] t1)).alloc (.cells #[v2] t2)).alloc (.cells #[v3] t3)).cell? ⟨w.heap.size + 1, 0, none⟩ = some v2 ∧ (((w.alloc (.cells #[v1] t1)).alloc (.cells #[v2] t2)).alloc (.cells #[v3] t3)).cell? ⟨w.heap.size + 1 + 1, 0, none⟩ = some v3 := by
  obtain ⟨h1, h2, h2'⟩ := box2 w v1 v2 t1 t2
  obtain ⟨h3, h4⟩ := box1 ((w.alloc (.cells #[v1] t1)).alloc (.cells #[v2] t2)) v3 t3
  refine ⟨h1.trans (h3.mono (by simp; omega)), (cell_alloc_old (by simp; omega)).trans h2, (cell_alloc_old (by simp)).trans h2', ?_⟩
  rw [← h4]; congr 2; simp

section
variable {w w' : World} {g : Nat} {s o : Value} {f a : Bool × Int} {dd : Bool} {ops : Int}
theorem Db.pass2 (h : Db w g s o f a dd ops) : Db (passW w g 2 f) g s o (passed f) a dd ops := by
  obtain ⟨on, l⟩ := f
  cases on
  · exact h
  · have := Bl.set_ h 3 (.int .i64 (l - 1))
    exact this
theorem Db.pass4 (h : Db w g s o f a dd ops) : Db (passW w g 4 a) g s o f (passed a) dd ops := by
  obtain ⟨on, l⟩ := a
  cases on
  · exact h
  · have := Bl.set_ h 5 (.int .i64 (l - 1))
    exact this
theorem Db.set0 (h : Db w g s o f a dd ops) (x : Value) : Db (w.setCell ⟨g, 0, none⟩ x) g x o f a dd ops := Bl.set_ h 0 x
theorem Db.set1 (h : Db w g s o f a dd ops) (x : Value) : Db (w.setCell ⟨g, 1, none⟩ x) g s x f a dd ops := Bl.set_ h 1 x
theorem Db.set23 (h : Db w g s o f a dd ops) (x : Bool × Int) : Db ((w.setCell ⟨g, 2, none⟩ (.bool x.1)).setCell ⟨g, 3, none⟩ (.int .i64 x.2)) g s o x a dd ops := Bl.set_ (Bl.set_ h 2 (.bool x.1)) 3 (.int .i64 x.2)
theorem Db.set45 (h : Db w g s o f a dd ops) (x : Bool × Int) : Db ((w.setCell ⟨g, 4, none⟩ (.bool x.1)).setCell ⟨g, 5, none⟩ (.int .i64 x.2)) g s o f x dd ops := Bl.set_ (Bl.set_ h 4 (.bool x.1)) 5 (.int .i64 x.2)
theorem Db.set6 (h : Db w g s o f a dd ops) (x : Bool) : Db (w.setCell ⟨g, 6, none⟩ (.bool x)) g s o f a x ops := Bl.set_ h 6 (.bool x)
theorem Db.set7 (h : Db w g s o f a dd ops) (x : Int) : Db (w.setCell ⟨g, 7, none⟩ (.int .i64 x)) g s o f a dd x := Bl.set_ h 7 (.int .i64 x)
theorem Db.below {B : Nat} (h : Db w g s o f a dd ops) (hb : Below B w w') (hg : g < B) : Db w' g s o f a dd ops := h.keep (hb.block g hg)
theorem passW_far (w : World) (g k : Nat) (f : Bool × Int) (p : Addr) (hp : p.block ≠ g) : (passW w g k f).cell? p = w.cell? p := by
  unfold passW
  split
  · exact World.cell?_of_block (Below.heap_setCell w _ _ _ hp)
  · rfl
theorem Mv.passW {S : Nat → Prop} {b : World} (h : Mv S b w) (hg : S g ∨ b.heap.size ≤ g) (k : Nat) (f : Bool × Int) : Mv S b (passW w g k f) := by
  unfold Go.Proofs.Ytionbjocfepkaaa.passW
  split
  · exact h.set_ hg _
  · exact h
end

/-- No countdown wraps. -/
def FitC (f : Bool × Int) : Prop := -9223372036854775808 ≤ f.2 ∧ f.2 ≤ 9223372036854775807 ∧ (f.1 = true → 0 ≤ f.2)
theorem FitC.pass {f : Bool × Int} (h : FitC f) : f.1 = true → -9223372036854775807 ≤ f.2 ∧ f.2 ≤ 9223372036854775807 := fun e => ⟨by have := h.2.2 e; omega, h.2.1⟩

/-- What stands behind operate's closure: it was done with x. -/
def OpPost (Qd : Int → World → Prop) (g : Nat) (a : Bool × Int) (ops : Int) (x : Int) (w' : World) : Prop :=
  ∃ w2, Qd x w2 ∧ ((x = 0 ∧ w' = (passW w2 g 4 a).setCell ⟨g, 7, none⟩ (.int .i64 (ops + 1))) ∨ (x ≠ 0 ∧ w' = w2))

theorem opr1_no {w : World} {bt : Nat} (v1 v2 : Value) (h0 : w.cell? ⟨bt, 0, none⟩ = some (.bool false)) :
    Calls Try.prog 59 #[rp bt, v1, v2] w fun e w' => e = .returned (.int .i64 2) ∧ w = w' := by
  go_enter Try.func59, Try.ntmps59
  go_wp2
  go_ret
  exact ⟨rfl, rfl⟩
theorem opr1_fault {w : World} {bt bd g : Nat} (v2 : Value) {s o : Value} {f a : Bool × Int} {dd : Bool} {ops : Int} (h0 : w.cell? ⟨bt, 0, none⟩ = some (.bool true)) (h1 : w.cell? ⟨bd, 0, none⟩ = some (rp g)) (hd : Db w g s o f a dd ops) (ha : dueB a = true) :
    Calls Try.prog 59 #[rp bt, rp bd, v2] w fun e w' => e = .returned (.int .i64 8) ∧ ∃ w1, Below w.heap.size w w1 ∧ w' = (w1.setCell ⟨g, 4, none⟩ (.bool false)).setCell ⟨g, 5, none⟩ (.int .i64 0) := by
  have c4 := hd.c4
  have c5 := hd.c5
  have hbd := block_lt_of_cell h1
  simp only at hbd
  have HD := Lib.hid hd
  have hg := hd.lt
  clear hd
  go_enter Try.func59, Try.ntmps59
  go_wp2_with (go_at_call 57; refine (due_any a _).mono ?_; rintro e w1 ⟨rfl, hb1⟩; rw [ha]; have d1 := (hb1.cell (p := ⟨bd, 0, none⟩) hbd).trans h1; have d2 := (HD.out.below hb1 hg).c4; have d3 := (HD.out.below hb1 hg).c5; have d4 := (HD.out.below hb1 hg).fz 4; have d5 := (HD.out.below hb1 hg).fz 5)
  go_ret
  exact ⟨rfl, w1, hb1, rfl⟩

theorem opr1_do {w : World} {bt bd bf g : Nat} (k : Nat) (caps : Array Value) {s o : Value} {f a : Bool × Int} {dd : Bool} {ops : Int} (S : Nat → Prop) (Qd : Int → World → Prop)
    (h0 : w.cell? ⟨bt, 0, none⟩ = some (.bool true)) (h1 : w.cell? ⟨bd, 0, none⟩ = some (rp g)) (h2 : w.cell? ⟨bf, 0, none⟩ = some (.func (.func k) #[] caps)) (hd : Db w g s o f a dd ops) (ha : dueB a = false) (hfa : FitC a)
    (hops : 0 ≤ ops ∧ ops ≤ 4611686018427387904) (hS : ¬ S bd) (hgd : bd ≠ g)
    (hk : ∀ w : World, (callFunc k caps).run Try.prog w = .ok (.enter k caps) w)
    (hdo : ∀ w1, Below w.heap.size w w1 → Calls Try.prog k caps w1 fun e w2 => ∃ x : Int, e = .returned (.int .i64 x) ∧ Mv S w1 w2 ∧ (∃ s o f dd, Db w2 g s o f a dd ops) ∧ Qd x w2) :
    Calls Try.prog 59 #[rp bt, rp bd, rp bf] w fun e w' => ∃ x : Int, e = .returned (.int .i64 x) ∧ OpPost Qd g a ops x w' := by
  have c4 := hd.c4
  have c5 := hd.c5
  have hbd := block_lt_of_cell h1
  have hbf := block_lt_of_cell h2
  simp only at hbd hbf
  have HD := Lib.hid hd
  have hg := hd.lt
  have HDO := Lib.hid hdo
  clear hd hdo
  obtain ⟨ho1, ho2⟩ := hops
  go_enter Try.func59, Try.ntmps59
  go_wp2_with (go_at_call 57; refine (due_any a _).mono ?_; rintro e w1 ⟨rfl, hb1⟩; rw [ha]; have d1 := (hb1.cell (p := ⟨bd, 0, none⟩) hbd).trans h1; have d2 := (hb1.cell (p := ⟨bf, 0, none⟩) hbf).trans h2)
  refine (HDO.out w1 hb1).mono ?_
  rintro e w2 ⟨x, rfl, hm, ⟨s2, o2, f2, dd2, hd2⟩, hq⟩
  have e1 := hm.cell d1 hS
  have e4 := hd2.c4
  have e5 := hd2.c5
  have e7 := hd2.c7
  have e8 := hd2.fz 7
  have e9 := hd2.fz 5
  have p7 := hd2.pass4.c7
  have p8 := hd2.pass4.fz 7
  have p1 : (passW w2 g 4 a).cell? ⟨bd, 0, none⟩ = some (rp g) := (passW_far w2 g 4 a _ hgd).trans e1
  cases hx : x == 0
  · have hx' : (x != 0) = true := by simpa using hx
    go_wp2
    go_ret
    exact ⟨x, rfl, w2, hq, .inr ⟨by simpa using hx, rfl⟩⟩
  · have hx' : (x != 0) = false := by simpa using hx
    have hx0 : x = 0 := by simpa using hx
    have HX := Lib.hid hx0
    clear hx0
    go_wp2_with (go_at_call 58; refine (pass_any a 4 e4 e5 e9 hfa.pass).mono ?_; rintro e w3 ⟨rfl, hw3⟩; subst hw3)
    go_ret
    exact ⟨0, rfl, w2, by have := HX.out; subst this; exact hq, .inl ⟨rfl, rfl⟩⟩
end Go.Proofs.Ytionbjocfepkaaa
