/-
  COMMANDS: Check.
-/
import Derived.Test.YthionkcnmkhopaaEc
namespace Go.Proofs.Ythionkcnmkhopaa
set_option linter.unusedVariables false
set_option linter.unusedSimpArgs false
open Go.RowKit Go.WideShapes Go.ChangeShapes Go.Deep
attribute [local irreducible] wpQuiet

/-- The box of an argument, as far as a call is. -/
structure Kc (w : World) (x : Cf) (W : World) : Prop where
  b : Below w.heap.size w W
  l : Lies W w.heap.size 69 x.cells
theorem Kc.step {w W W' : World} {x : Cf} (h : Kc w x W) (hb : Below W.heap.size W W') : Kc w x W' := ⟨h.b.trans (hb.mono h.b.size), h.l.below hb h.l.lt⟩
theorem Kc.new (w : World) (x : Cf) : ∃ w1, w.alloc (.cells x.cells.toArray 27) = w1 ∧ Hid (Kc w x w1) := by
  obtain ⟨w1, h, b, s, l⟩ := boxed_cf w x
  exact ⟨w1, h, ⟨b, l⟩⟩
/-- Whether a command may be. -/
def okF (x : Cf) (n : Nat) : Bool := askedW x && isFilledB (fieldsW x.kind) (filledW x n) && nameW x.branch && decide (n ≤ 800)
theorem okF_eq {x : Cf} {n : Nat} {q1 q2 q3 q4 : Bool} (h1 : askedW x = q1) (h2 : isFilledB (fieldsW x.kind) (filledW x n) = q2) (h3 : nameW x.branch = q3) (h4 : decide (n ≤ 800) = q4) : okF x n = (q1 && q2 && q3 && q4) := by
  unfold okF
  rw [h1, h2, h3, h4]
set_option maxHeartbeats 2000000 in
set_option maxRecDepth 100000 in
theorem Check_any (w : World) (x : Cf) (A : Option Addr) (n c : Nat) (hdv : x.dv = .slice A n c) (hn : n ≤ 140737488355328) (hk : -9223372036854775808 ≤ x.kind ∧ x.kind ≤ 9223372036854775807) :
    Calls Try.prog 11 #[cfV x] w fun e w' => e = .returned (.int .i64 (if okF x n then 0 else 210)) ∧ Below w.heap.size w w' := by
  obtain ⟨w1, hw1, K1⟩ := Kc.new w x
  have HW := Lib.hid hw1
  clear hw1
  obtain ⟨q1, h1⟩ : ∃ q, askedW x = q := ⟨_, rfl⟩
  obtain ⟨q2, h2⟩ : ∃ q, isFilledB (fieldsW x.kind) (filledW x n) = q := ⟨_, rfl⟩
  obtain ⟨q3, h3⟩ : ∃ q, nameW x.branch = q := ⟨_, rfl⟩
  obtain ⟨q4, h4⟩ : ∃ q, decide (n ≤ 800) = q := ⟨_, rfl⟩
  obtain ⟨r, hr⟩ : ∃ r : Int, (if okF x n then 0 else 210) = r := ⟨_, rfl⟩
  have HF : Hid (r = if (q1 && q2 && q3 && q4) then 0 else 210) := Lib.hid (by rw [← hr, okF_eq h1 h2 h3 h4])
  rw [hr]
  clear hr
  have CA := fun w => isAsked_any w x
  have CB := fun w => isFilled_any w x A n c hdv hn hk
  have CN := isName_any x.branch
  rw [h1] at CA
  rw [h2] at CB
  rw [h3] at CN
  replace CA := Lib.hid CA
  replace CB := Lib.hid CB
  replace CN := Lib.hid CN
  have HDV := Lib.hid hdv
  clear h1 h2 h3 hdv
  have d : decide ((800 : Int) < (n : Int)) = !q4 := by rw [← h4]; cases hq : decide (n ≤ 800) <;> simp at hq ⊢ <;> omega
  have HD := Lib.hid d
  clear h4 d
  have R1 := Lib.hid K1.out.l.rg
  cases q1
  · go_enter Try.func11, Try.ntmps11
    go_upto_region 1 with fail
    rw [HW.out]
    go_wp2_with (first
      | ((with_reducible refine ldc (.tmp 1) ?_ ?_ w.heap.size 0 x ?_ R3.out ?_); rfl; (first | rfl | go_simp); rfl)
      | ((with_reducible refine ldc (.tmp 1) ?_ ?_ w.heap.size 0 x ?_ R2.out ?_); rfl; (first | rfl | go_simp); rfl)
      | ((with_reducible refine ldc (.tmp 1) ?_ ?_ w.heap.size 0 x ?_ R1.out ?_); rfl; (first | rfl | go_simp); rfl)
      | (go_at_call 19; refine (CA.out _).mono ?_; rintro e w2 ⟨rfl, hb2⟩; have K2 := Lib.hid (K1.out.step hb2); have R2 := Lib.hid K2.out.l.rg; clear hb2)
      | (go_at_call 20; refine (CB.out _).mono ?_; rintro e w3 ⟨rfl, hb3⟩; have K3 := Lib.hid (K2.out.step hb3); have R3 := Lib.hid K3.out.l.rg; obtain ⟨_, _, _, c3, _, _, _⟩ := cf_lies K3.out.l; clear hb3)
      | (go_at_call 21; refine (CN.out _).mono ?_; rintro e w4 ⟨rfl, hb4⟩; have K4 := Lib.hid (K3.out.step hb4); clear c3; obtain ⟨_, _, _, _, _, _, c6⟩ := cf_lies K4.out.l; rw [HDV.out] at c6; have dd := HD.out; clear hb4)
      | fail)
    go_ret
    exact ⟨by rw [HF.out]; rfl, K2.out.b⟩
  cases q2
  · go_enter Try.func11, Try.ntmps11
    go_upto_region 1 with fail
    rw [HW.out]
    go_wp2_with (first
      | ((with_reducible refine ldc (.tmp 1) ?_ ?_ w.heap.size 0 x ?_ R3.out ?_); rfl; (first | rfl | go_simp); rfl)
      | ((with_reducible refine ldc (.tmp 1) ?_ ?_ w.heap.size 0 x ?_ R2.out ?_); rfl; (first | rfl | go_simp); rfl)
      | ((with_reducible refine ldc (.tmp 1) ?_ ?_ w.heap.size 0 x ?_ R1.out ?_); rfl; (first | rfl | go_simp); rfl)
      | (go_at_call 19; refine (CA.out _).mono ?_; rintro e w2 ⟨rfl, hb2⟩; have K2 := Lib.hid (K1.out.step hb2); have R2 := Lib.hid K2.out.l.rg; clear hb2)
      | (go_at_call 20; refine (CB.out _).mono ?_; rintro e w3 ⟨rfl, hb3⟩; have K3 := Lib.hid (K2.out.step hb3); have R3 := Lib.hid K3.out.l.rg; obtain ⟨_, _, _, c3, _, _, _⟩ := cf_lies K3.out.l; clear hb3)
      | (go_at_call 21; refine (CN.out _).mono ?_; rintro e w4 ⟨rfl, hb4⟩; have K4 := Lib.hid (K3.out.step hb4); clear c3; obtain ⟨_, _, _, _, _, _, c6⟩ := cf_lies K4.out.l; rw [HDV.out] at c6; have dd := HD.out; clear hb4)
      | fail)
    go_ret
    exact ⟨by rw [HF.out]; rfl, K3.out.b⟩
  cases q3
  · go_enter Try.func11, Try.ntmps11
    go_upto_region 1 with fail
    rw [HW.out]
    go_wp2_with (first
      | ((with_reducible refine ldc (.tmp 1) ?_ ?_ w.heap.size 0 x ?_ R3.out ?_); rfl; (first | rfl | go_simp); rfl)
      | ((with_reducible refine ldc (.tmp 1) ?_ ?_ w.heap.size 0 x ?_ R2.out ?_); rfl; (first | rfl | go_simp); rfl)
      | ((with_reducible refine ldc (.tmp 1) ?_ ?_ w.heap.size 0 x ?_ R1.out ?_); rfl; (first | rfl | go_simp); rfl)
      | (go_at_call 19; refine (CA.out _).mono ?_; rintro e w2 ⟨rfl, hb2⟩; have K2 := Lib.hid (K1.out.step hb2); have R2 := Lib.hid K2.out.l.rg; clear hb2)
      | (go_at_call 20; refine (CB.out _).mono ?_; rintro e w3 ⟨rfl, hb3⟩; have K3 := Lib.hid (K2.out.step hb3); have R3 := Lib.hid K3.out.l.rg; obtain ⟨_, _, _, c3, _, _, _⟩ := cf_lies K3.out.l; clear hb3)
      | (go_at_call 21; refine (CN.out _).mono ?_; rintro e w4 ⟨rfl, hb4⟩; have K4 := Lib.hid (K3.out.step hb4); clear c3; obtain ⟨_, _, _, _, _, _, c6⟩ := cf_lies K4.out.l; rw [HDV.out] at c6; have dd := HD.out; clear hb4)
      | fail)
    go_ret
    exact ⟨by rw [HF.out]; rfl, K4.out.b⟩
  cases q4
  · go_enter Try.func11, Try.ntmps11
    go_upto_region 1 with fail
    rw [HW.out]
    go_wp2_with (first
      | ((with_reducible refine ldc (.tmp 1) ?_ ?_ w.heap.size 0 x ?_ R3.out ?_); rfl; (first | rfl | go_simp); rfl)
      | ((with_reducible refine ldc (.tmp 1) ?_ ?_ w.heap.size 0 x ?_ R2.out ?_); rfl; (first | rfl | go_simp); rfl)
      | ((with_reducible refine ldc (.tmp 1) ?_ ?_ w.heap.size 0 x ?_ R1.out ?_); rfl; (first | rfl | go_simp); rfl)
      | (go_at_call 19; refine (CA.out _).mono ?_; rintro e w2 ⟨rfl, hb2⟩; have K2 := Lib.hid (K1.out.step hb2); have R2 := Lib.hid K2.out.l.rg; clear hb2)
      | (go_at_call 20; refine (CB.out _).mono ?_; rintro e w3 ⟨rfl, hb3⟩; have K3 := Lib.hid (K2.out.step hb3); have R3 := Lib.hid K3.out.l.rg; obtain ⟨_, _, _, c3, _, _, _⟩ := cf_lies K3.out.l; clear hb3)
      | (go_at_call 21; refine (CN.out _).mono ?_; rintro e w4 ⟨rfl, hb4⟩; have K4 := Lib.hid (K3.out.step hb4); clear c3; obtain ⟨_, _, _, _, _, _, c6⟩ := cf_lies K4.out.l; rw [HDV.out] at c6; have dd := HD.out; clear hb4)
      | fail)
    go_ret
    exact ⟨by rw [HF.out]; rfl, K4.out.b⟩
  go_enter Try.func11, Try.ntmps11
  go_upto_region 1 with fail
  rw [HW.out]
  go_wp2_with (first
      | ((with_reducible refine ldc (.tmp 1) ?_ ?_ w.heap.size 0 x ?_ R3.out ?_); rfl; (first | rfl | go_simp); rfl)
      | ((with_reducible refine ldc (.tmp 1) ?_ ?_ w.heap.size 0 x ?_ R2.out ?_); rfl; (first | rfl | go_simp); rfl)
      | ((with_reducible refine ldc (.tmp 1) ?_ ?_ w.heap.size 0 x ?_ R1.out ?_); rfl; (first | rfl | go_simp); rfl)
      | (go_at_call 19; refine (CA.out _).mono ?_; rintro e w2 ⟨rfl, hb2⟩; have K2 := Lib.hid (K1.out.step hb2); have R2 := Lib.hid K2.out.l.rg; clear hb2)
      | (go_at_call 20; refine (CB.out _).mono ?_; rintro e w3 ⟨rfl, hb3⟩; have K3 := Lib.hid (K2.out.step hb3); have R3 := Lib.hid K3.out.l.rg; obtain ⟨_, _, _, c3, _, _, _⟩ := cf_lies K3.out.l; clear hb3)
      | (go_at_call 21; refine (CN.out _).mono ?_; rintro e w4 ⟨rfl, hb4⟩; have K4 := Lib.hid (K3.out.step hb4); clear c3; obtain ⟨_, _, _, _, _, _, c6⟩ := cf_lies K4.out.l; rw [HDV.out] at c6; have dd := HD.out; clear hb4)
      | fail)
  go_ret
  exact ⟨by rw [HF.out]; rfl, K4.out.b⟩
end Go.Proofs.Ythionkcnmkhopaa
