/-
  CONTRACTS OF PACKAGE disk: alter whole; Arm and Fail.
-/
import Derived.Test.YtionbjocfepkaaaDc
namespace Go.Proofs.Ytionbjocfepkaaa
set_option linter.unusedVariables false
open Go.RowKit Go.WideShapes Go.ChangeShapes

section
variable {w : World} {g : Nat} {s o : Value} {f a : Bool × Int} {dd : Bool} {ops : Int}
theorem alter_dead (b : Bool) (k : Nat) (caps : Array Value) (hd : Db w g s o f a true ops) :
    Calls Try.prog 40 #[rp g, .bool b, .func (.func k) #[] caps] w fun e w' => e = .returned (.int .i64 9) ∧ Below w.heap.size w w' :=
  (alter_by b k caps (fun x w' => x = 9 ∧ Below w.heap.size w w') fun w2 hb _ _ _ => (operate_dead b _ _ (hd.below hb hd.lt)).mono fun e w' ⟨he, hb1⟩ => ⟨9, he, rfl, hb.trans (hb1.mono hb.size)⟩).mono fun e w' ⟨x, he, hx, hb⟩ => ⟨hx ▸ he, hb⟩
theorem alter_no (k : Nat) (caps : Array Value) (hd : Db w g s o f a false ops) :
    Calls Try.prog 40 #[rp g, .bool false, .func (.func k) #[] caps] w fun e w' => e = .returned (.int .i64 2) ∧ Below w.heap.size w w' :=
  (alter_by false k caps (fun x w' => x = 2 ∧ Below w.heap.size w w') fun w2 hb _ _ _ => (operate_no _ _ (hd.below hb hd.lt)).mono fun e w' ⟨he, hb1⟩ => ⟨2, he, rfl, hb.trans (hb1.mono hb.size)⟩).mono fun e w' ⟨x, he, hx, hb⟩ => ⟨hx ▸ he, hb⟩
theorem alter_fault (k : Nat) (caps : Array Value) (hd : Db w g s o f a false ops) (ha : dueB a = true) :
    Calls Try.prog 40 #[rp g, .bool true, .func (.func k) #[] caps] w fun e w' => e = .returned (.int .i64 8) ∧ ∃ w1, Below w.heap.size w w1 ∧ w' = (w1.setCell ⟨g, 4, none⟩ (.bool false)).setCell ⟨g, 5, none⟩ (.int .i64 0) :=
  (alter_by true k caps (fun x w' => x = 8 ∧ ∃ w1, Below w.heap.size w w1 ∧ w' = (w1.setCell ⟨g, 4, none⟩ (.bool false)).setCell ⟨g, 5, none⟩ (.int .i64 0)) fun w2 hb _ _ _ =>
    (operate_fault _ _ (hd.below hb hd.lt) ha).mono fun e w' ⟨he, w1, hb1, hw⟩ => ⟨8, he, rfl, w1, hb.trans (hb1.mono hb.size), hw⟩).mono fun e w' ⟨x, he, hx, hb⟩ => ⟨hx ▸ he, hb⟩
theorem alter_fuse (k : Nat) (caps : Array Value) (hd : Db w g s o f a false ops) (ha : dueB a = false) (hf : dueB f = true) (hfa : FitC a) (hops : 0 ≤ ops ∧ ops ≤ 4611686018427387904) :
    Calls Try.prog 40 #[rp g, .bool true, .func (.func k) #[] caps] w fun e w' => e = .returned (.int .i64 9) ∧ ∃ w1, Below w.heap.size w w1 ∧ w' = w1.setCell ⟨g, 6, none⟩ (.bool true) :=
  (alter_by true k caps (fun x w' => x = 9 ∧ ∃ w1, Below w.heap.size w w1 ∧ w' = w1.setCell ⟨g, 6, none⟩ (.bool true)) fun w2 hb hz h0 h1 =>
    (operate_do _ _ (fun b => b = g) (fun x w' => x = 9 ∧ ∃ w1, Below w2.heap.size w2 w1 ∧ w' = w1.setCell ⟨g, 6, none⟩ (.bool true)) (hd.below hb hd.lt) ha hfa hops (fun b e => by subst e; have := hd.lt; have := hb.size; omega) (enters_al _ _) fun w3 hb3 =>
      (al1_fuse _ ((hb3.cell (p := ⟨w.heap.size, 0, none⟩) (by simp only; omega)).trans h0) ((hd.below hb hd.lt).below hb3 (by have := hd.lt; have := hb.size; omega)) hf).mono fun e w' ⟨he, w1, hb1, hw⟩ => ⟨9, he, by
        subst hw; exact (Mv.of_below hb1 (fun b => b = g)).set_ (p := ⟨g, 6, none⟩) (.inl rfl) _, ⟨_, _, _, _, by
        subst hw; exact (((hd.below hb hd.lt).below hb3 (by have := hd.lt; have := hb.size; omega)).below hb1 (by have := hd.lt; have := hb.size; have := hb3.size; omega)).set6 true⟩, rfl, w1, hb3.trans (hb1.mono hb3.size), hw⟩).mono fun e w' ⟨x, he, w4, ⟨hx, w1, hb1, hw⟩, h4⟩ => ⟨x, he, hx, w1, hb.trans (hb1.mono hb.size), by
          rcases h4 with ⟨h5, _⟩ | ⟨_, h5⟩
          · omega
          · exact h5.trans hw⟩).mono fun e w' ⟨x, he, hx, hb⟩ => ⟨hx ▸ he, hb⟩
theorem alter_do (k : Nat) (caps : Array Value) (S : Nat → Prop) (Qd : World → Prop) (hd : Db w g s o f a false ops) (ha : dueB a = false) (hf : dueB f = false) (hfa : FitC a) (hff : FitC f) (hops : 0 ≤ ops ∧ ops ≤ 4611686018427387904)
    (hS : ∀ b, S b → b < w.heap.size) (hSg : S g)
    (hk : ∀ w : World, (callFunc k caps).run Try.prog w = .ok (.enter k caps) w)
    (hdo : ∀ w1, Below w.heap.size w w1 → Calls Try.prog k caps w1 fun e w2 => e = .returned (.tuple #[]) ∧ Mv S w1 w2 ∧ (∃ s o, Db w2 g s o f a false ops) ∧ Qd w2) :
    Calls Try.prog 40 #[rp g, .bool true, .func (.func k) #[] caps] w fun e w' => e = .returned (.int .i64 0) ∧ ∃ w2, Qd w2 ∧ w' = (passW (passW w2 g 2 f) g 4 a).setCell ⟨g, 7, none⟩ (.int .i64 (ops + 1)) :=
  (alter_by true k caps (fun x w' => x = 0 ∧ ∃ w2, Qd w2 ∧ w' = (passW (passW w2 g 2 f) g 4 a).setCell ⟨g, 7, none⟩ (.int .i64 (ops + 1))) fun w2 hb hz h0 h1 =>
    (operate_do _ _ S (fun x w' => x = 0 ∧ ∃ w2, Qd w2 ∧ w' = passW w2 g 2 f) (hd.below hb hd.lt) ha hfa hops (fun b e => Nat.lt_of_lt_of_le (hS b e) hb.size) (enters_al _ _) fun w3 hb3 =>
      (al1_do k caps S (fun w' => Mv S w3 w' ∧ (∃ s o, Db w' g s o f a false ops) ∧ Qd w') ((hb3.cell (p := ⟨w.heap.size, 0, none⟩) (by simp only; omega)).trans h0) ((hb3.cell (p := ⟨w.heap.size + 1, 0, none⟩) (by simp only; omega)).trans h1) ((hd.below hb hd.lt).below hb3 (by have := hd.lt; have := hb.size; omega)) hf hff
        (fun h => by have := hS _ h; omega) hk fun w4 hb4 => (hdo w4 ((hb.trans (hb3.mono hb.size)).trans (hb4.mono (by have := hb.size; have := hb3.size; omega)))).mono fun e w5 ⟨he, hm, hx, hq⟩ => ⟨he, hm, hx, (Mv.of_below hb4 S).trans hm, hx, hq⟩).mono fun e w' ⟨he, w5, ⟨hm, ⟨s5, o5, hd5⟩, hq⟩, hw⟩ =>
          ⟨0, he, by subst hw; exact hm.passW (.inl hSg) 2 f, ⟨s5, o5, passed f, false, by subst hw; exact hd5.pass2⟩, rfl, w5, hq, hw⟩).mono fun e w' ⟨x, he, w4, ⟨hx, w5, hq, hw⟩, h4⟩ => ⟨x, he, hx, w5, hq, by
            rcases h4 with ⟨_, h5⟩ | ⟨h5, _⟩
            · exact h5.trans (by rw [hw])
            · omega⟩).mono fun e w' ⟨x, he, hx, hb⟩ => ⟨hx ▸ he, hb⟩

theorem arm1_any (n : Int) {bn bd : Nat} (h0 : w.cell? ⟨bn, 0, none⟩ = some (.int .i64 n)) (h1 : w.cell? ⟨bd, 0, none⟩ = some (rp g)) (hd : Db w g s o f a dd ops) :
    Calls Try.prog 47 #[rp bn, rp bd] w fun e w' => e = .returned (.int .i64 0) ∧ ∃ w1, Below w.heap.size w w1 ∧ w' = (w1.setCell ⟨g, 2, none⟩ (.bool (decide (0 ≤ n)))).setCell ⟨g, 3, none⟩ (.int .i64 n) := by
  have hbn := block_lt_of_cell h0
  have hbd := block_lt_of_cell h1
  simp only at hbn hbd
  have hg := hd.lt
  have HD := Lib.hid hd
  clear hd
  go_enter Try.func47, Try.ntmps47
  go_wp2
  go_region_with (go_at_call 48; refine (after_any n _).mono ?_; rintro e w1 ⟨rfl, hb1⟩; have hb1' : Below w.heap.size w w1 := (Below.refl _ _).drew.trans hb1; clear hb1; have d1 := (hb1'.cell (p := ⟨bd, 0, none⟩) hbd).trans h1; have d2 := (HD.out.below hb1' hg).c2; have d3 := (HD.out.below hb1' hg).c3; have d4 := (HD.out.below hb1' hg).fz 2; have d5 := (HD.out.below hb1' hg).fz 3)
  all_goals go_wp2
  all_goals go_ret
  all_goals exact ⟨rfl, w1, hb1', rfl⟩
theorem enters_arm (a b : Value) (w : World) : (callFunc 47 #[a, b]).run Try.prog w = .ok (.enter 47 #[a, b]) w := by kernel_rfl
theorem arm_nil (n : Int) (w : World) :
    Calls Try.prog 22 #[.pointer none, .int .i64 n] w fun e w' => e = .returned (.int .i64 1) ∧ Below w.heap.size w w' := by
  have hb := (box2 w (.pointer none) (.int .i64 n) 24 3).1
  go_enter Try.func22, Try.ntmps22
  go_wp2_with (go_at_call 46; refine (powered_nil _ _).mono ?_; rintro e w' ⟨rfl, rfl⟩)
  go_ret
  exact ⟨rfl, hb⟩
theorem arm_dead (n : Int) (hd : Db w g s o f a true ops) :
    Calls Try.prog 22 #[rp g, .int .i64 n] w fun e w' => e = .returned (.int .i64 9) ∧ Below w.heap.size w w' := by
  have hb := (box2 w (rp g) (.int .i64 n) 24 3).1
  have h6 := (hd.below hb hd.lt).c6
  have H6 := Lib.hid h6
  clear h6
  go_enter Try.func22, Try.ntmps22
  go_wp2_with (go_at_call 46; refine (powered_dead _ H6.out).mono ?_; rintro e w' ⟨rfl, rfl⟩)
  go_ret
  exact ⟨rfl, hb⟩
theorem arm_do (n : Int) (hd : Db w g s o f a false ops) :
    Calls Try.prog 22 #[rp g, .int .i64 n] w fun e w' => e = .returned (.int .i64 0) ∧ ∃ w1, Below w.heap.size w w1 ∧ w' = (w1.setCell ⟨g, 2, none⟩ (.bool (decide (0 ≤ n)))).setCell ⟨g, 3, none⟩ (.int .i64 n) := by
  obtain ⟨hb, hc0, hc1⟩ := box2 w (rp g) (.int .i64 n) 24 3
  have hd2 := hd.below hb hd.lt
  have hh := powered_do _ _ (fun x w' => x = 0 ∧ ∃ w1, Below w.heap.size w w1 ∧ w' = (w1.setCell ⟨g, 2, none⟩ (.bool (decide (0 ≤ n)))).setCell ⟨g, 3, none⟩ (.int .i64 n)) hd2.c6 (enters_arm _ _)
    ((arm1_any n hc1 hc0 hd2).mono fun e w' ⟨he, w1, hb1, hw⟩ => ⟨0, he, rfl, w1, hb.trans (hb1.mono hb.size), hw⟩)
  have HH := Lib.hid hh
  clear hh hc0 hc1 hb hd2
  go_enter Try.func22, Try.ntmps22
  go_wp2_with (go_at_call 46; refine (HH.out).mono ?_; rintro e w' ⟨x, rfl, hx, hw⟩)
  go_ret
  exact ⟨rfl, hw⟩

theorem fail1_any (n : Int) {bn bd : Nat} (h0 : w.cell? ⟨bn, 0, none⟩ = some (.int .i64 n)) (h1 : w.cell? ⟨bd, 0, none⟩ = some (rp g)) (hd : Db w g s o f a dd ops) :
    Calls Try.prog 51 #[rp bn, rp bd] w fun e w' => e = .returned (.int .i64 0) ∧ ∃ w1, Below w.heap.size w w1 ∧ w' = (w1.setCell ⟨g, 4, none⟩ (.bool (decide (0 ≤ n)))).setCell ⟨g, 5, none⟩ (.int .i64 n) := by
  have hbn := block_lt_of_cell h0
  have hbd := block_lt_of_cell h1
  simp only at hbn hbd
  have hg := hd.lt
  have HD := Lib.hid hd
  clear hd
  go_enter Try.func51, Try.ntmps51
  go_wp2
  go_region_with (go_at_call 48; refine (after_any n _).mono ?_; rintro e w1 ⟨rfl, hb1⟩; have hb1' : Below w.heap.size w w1 := (Below.refl _ _).drew.trans hb1; clear hb1; have d1 := (hb1'.cell (p := ⟨bd, 0, none⟩) hbd).trans h1; have d2 := (HD.out.below hb1' hg).c4; have d3 := (HD.out.below hb1' hg).c5; have d4 := (HD.out.below hb1' hg).fz 4; have d5 := (HD.out.below hb1' hg).fz 5)
  all_goals go_wp2
  all_goals go_ret
  all_goals exact ⟨rfl, w1, hb1', rfl⟩
theorem enters_fail (a b : Value) (w : World) : (callFunc 51 #[a, b]).run Try.prog w = .ok (.enter 51 #[a, b]) w := by kernel_rfl
theorem fail_nil (n : Int) (w : World) :
    Calls Try.prog 26 #[.pointer none, .int .i64 n] w fun e w' => e = .returned (.int .i64 1) ∧ Below w.heap.size w w' := by
  have hb := (box2 w (.pointer none) (.int .i64 n) 24 3).1
  go_enter Try.func26, Try.ntmps26
  go_wp2_with (go_at_call 46; refine (powered_nil _ _).mono ?_; rintro e w' ⟨rfl, rfl⟩)
  go_ret
  exact ⟨rfl, hb⟩
theorem fail_dead (n : Int) (hd : Db w g s o f a true ops) :
    Calls Try.prog 26 #[rp g, .int .i64 n] w fun e w' => e = .returned (.int .i64 9) ∧ Below w.heap.size w w' := by
  have hb := (box2 w (rp g) (.int .i64 n) 24 3).1
  have h6 := (hd.below hb hd.lt).c6
  have H6 := Lib.hid h6
  clear h6
  go_enter Try.func26, Try.ntmps26
  go_wp2_with (go_at_call 46; refine (powered_dead _ H6.out).mono ?_; rintro e w' ⟨rfl, rfl⟩)
  go_ret
  exact ⟨rfl, hb⟩
theorem fail_do (n : Int) (hd : Db w g s o f a false ops) :
    Calls Try.prog 26 #[rp g, .int .i64 n] w fun e w' => e = .returned (.int .i64 0) ∧ ∃ w1, Below w.heap.size w w1 ∧ w' = (w1.setCell ⟨g, 4, none⟩ (.bool (decide (0 ≤ n)))).setCell ⟨g, 5, none⟩ (.int .i64 n) := by
  obtain ⟨hb, hc0, hc1⟩ := box2 w (rp g) (.int .i64 n) 24 3
  have hd2 := hd.below hb hd.lt
  have hh := powered_do _ _ (fun x w' => x = 0 ∧ ∃ w1, Below w.heap.size w w1 ∧ w' = (w1.setCell ⟨g, 4, none⟩ (.bool (decide (0 ≤ n)))).setCell ⟨g, 5, none⟩ (.int .i64 n)) hd2.c6 (enters_fail _ _)
    ((fail1_any n hc1 hc0 hd2).mono fun e w' ⟨he, w1, hb1, hw⟩ => ⟨0, he, rfl, w1, hb.trans (hb1.mono hb.size), hw⟩)
  have HH := Lib.hid hh
  clear hh hc0 hc1 hb hd2
  go_enter Try.func26, Try.ntmps26
  go_wp2_with (go_at_call 46; refine (HH.out).mono ?_; rintro e w' ⟨x, rfl, hx, hw⟩)
  go_ret
  exact ⟨rfl, hw⟩
end
end Go.Proofs.Ytionbjocfepkaaa
