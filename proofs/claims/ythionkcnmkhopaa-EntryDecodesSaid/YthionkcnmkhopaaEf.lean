/-
  COMMANDS: Encode; Same, and the reference's.
-/
import Derived.Test.YthionkcnmkhopaaEe
namespace Go.Proofs.Ythionkcnmkhopaa
set_option linter.unusedVariables false
set_option linter.unusedSimpArgs false
open Go.RowKit Go.WideShapes Go.ChangeShapes Go.Deep
attribute [local irreducible] wpQuiet

theorem okF_small {x : Cf} {n : Nat} (h : okF x n = true) : (0 ≤ x.kind ∧ x.kind < 256) ∧ (0 ≤ x.client ∧ x.client < 256) ∧ x.branch.size < 256 ∧ n < 65536 := by
  unfold okF askedW nameW isFilledB at h
  simp only [Bool.and_eq_true, decide_eq_true_eq, Bool.not_eq_true', beq_eq_false_iff_ne] at h
  obtain ⟨⟨⟨⟨⟨h1, h2⟩, h3⟩, h4, h5⟩, h6, h7⟩, h8⟩ := h
  have hk : 0 ≤ x.kind ∧ x.kind < 256 := by
    unfold fieldsW at h4
    split at h4
    · omega
    · split at h4
      · omega
      · split at h4
        · omega
        · split at h4
          · omega
          · exact absurd rfl h4
  exact ⟨hk, by omega, by omega, by omega⟩
set_option maxHeartbeats 4000000 in
set_option maxRecDepth 100000 in
theorem Encode_any (w : World) (x : Cf) (A : Option Addr) (n c : Nat) (d : List UInt8) (hdv : x.dv = .slice A n c) (hs : SlB w w.heap.size A n c d) (hk : -9223372036854775808 ≤ x.kind ∧ x.kind ≤ 9223372036854775807) (hq : x.seq < 4294967296) (hn : n ≤ 140737488355328) :
    Calls Try.prog 9 #[cfV x] w fun e w' => (∃ A' m c', e = .returned (.tuple #[.slice A' m c', .int .i64 (if okF x n then 0 else 210)]) ∧ OwnB w' w.heap.size A' m c' (if okF x n then layC x d else [])) ∧ Below w.heap.size w w' := by
  obtain ⟨w1, hw1, K1⟩ := Kc.new w x
  have HW := Lib.hid hw1
  clear hw1
  have R1 := Lib.hid K1.out.l.rg
  have CC := Lib.hid (Check_any w1 x A n c hdv hn hk)
  by_cases hok : okF x n = true
  · obtain ⟨k1, k2, k3, k4⟩ := okF_small hok
    rw [if_pos hok, if_pos hok]
    rw [if_pos hok] at CC
    have CL : Hid (∀ W, Kc w x W → Calls Try.prog 18 #[cfV x] W fun e w' => (∃ A' m c', e = .returned (.slice A' m c') ∧ OwnB w' W.heap.size A' m c' (layC x d)) ∧ Below W.heap.size W w') := Lib.hid fun W hW =>
      laid_any W x A n c d hdv ((hs.below hW.b).more hW.b.size) k1 k2 hq k3 k4
    clear hdv hs k1 k2 k3 k4 hok
    go_enter Try.func9, Try.ntmps9
    go_upto_region 1 with fail
    rw [HW.out]
    clear HW
    go_wp2_with (first
      | ((with_reducible refine ldc (.tmp 1) ?_ ?_ w.heap.size 0 x ?_ R2.out ?_); rfl; (first | rfl | go_simp); rfl)
      | ((with_reducible refine ldc (.tmp 1) ?_ ?_ w.heap.size 0 x ?_ R1.out ?_); rfl; (first | rfl | go_simp); rfl)
      | (go_at_call 11; refine CC.out.mono ?_; rintro e w2 ⟨rfl, hb2⟩; have K2 := Lib.hid (K1.out.step hb2); have R2 := Lib.hid K2.out.l.rg; clear hb2)
      | (go_at_call 18; refine (CL.out w2 K2.out).mono ?_; rintro e w3 ⟨⟨A3, m3, c3, rfl, ho3⟩, hb3⟩; have HO := Lib.hid ho3; have K3 := Lib.hid (K2.out.step hb3); clear ho3 hb3)
      | fail)
    go_ret2
    exact ⟨⟨A3, m3, c3, rfl, HO.out.base_ K2.out.b.size⟩, K3.out.b⟩
  · rw [if_neg hok, if_neg hok]
    rw [if_neg hok] at CC
    clear hok
    go_enter Try.func9, Try.ntmps9
    go_upto_region 1 with fail
    rw [HW.out]
    clear HW
    go_wp2_with (first
      | ((with_reducible refine ldc (.tmp 1) ?_ ?_ w.heap.size 0 x ?_ R1.out ?_); rfl; (first | rfl | go_simp); rfl)
      | (go_at_call 11; refine CC.out.mono ?_; rintro e w2 ⟨rfl, hb2⟩; have K2 := Lib.hid (K1.out.step hb2); clear hb2)
      | fail)
    go_ret2
    exact ⟨⟨none, 0, 0, rfl, ⟨rfl, .inl ⟨rfl, rfl⟩⟩⟩, K2.out.b⟩
/-- Whether two commands are the same, field by field. -/
noncomputable def sameF (x y : Cf) (d d' : List UInt8) : Bool := x.kind == y.kind && x.client == y.client && (x.seq : Int) == (y.seq : Int) && x.branch.toList == y.branch.toList && x.old.b == y.old.b && x.new.b == y.new.b && d == d'
theorem sameF_eq {x y : Cf} {d d' : List UInt8} {q0 q1 q2 q3 q4 q5 q6 : Bool} (h0 : (x.kind == y.kind) = q0) (h1 : (x.client == y.client) = q1) (h2 : ((x.seq : Int) == (y.seq : Int)) = q2) (h3 : (x.branch.toList == y.branch.toList) = q3) (h4 : (x.old.b == y.old.b) = q4) (h5 : (x.new.b == y.new.b) = q5) (h6 : (d == d') = q6) :
    sameF x y d d' = (q0 && q1 && q2 && q3 && q4 && q5 && q6) := by
  unfold sameF
  rw [h0, h1, h2, h3, h4, h5, h6]
set_option maxHeartbeats 4000000 in
set_option maxRecDepth 100000 in
theorem Same_any {w : World} {x y : Cf} {A A' : Option Addr} {n c n' c' : Nat} {d d' : List UInt8} (hx : x.dv = .slice A n c) (hy : y.dv = .slice A' n' c') (h : SlB w w.heap.size A n c d) (h' : SlB w w.heap.size A' n' c' d') :
    Calls Try.prog 8 #[cfV x, cfV y] w fun e w' => e = .returned (.bool (sameF x y d d')) ∧ Below w.heap.size w w' := by
  obtain ⟨w2, hw2⟩ : ∃ w2, (w.alloc (.cells x.cells.toArray 27)).alloc (.cells y.cells.toArray 27) = w2 := ⟨_, rfl⟩
  have B2 : Hid (Below w.heap.size w w2) := Lib.hid (by rw [← hw2]; exact ((Below.refl _ _).alloc (Nat.le_refl _) _).alloc (by simp) _)
  have X0 : Hid (Lies w2 w.heap.size 69 x.cells) := Lib.hid (by
    rw [← hw2]
    have := (Lies.new w x.cells 27).alloc (.cells y.cells.toArray 27)
    rwa [cf_sz] at this)
  have X1 : Hid (Lies w2 (w.heap.size + 1) 69 y.cells) := Lib.hid (by
    rw [← hw2]
    have := Lies.new (w.alloc (.cells x.cells.toArray 27)) y.cells 27
    rwa [World.size_alloc, cf_sz] at this)
  have HW := Lib.hid hw2
  obtain ⟨q0, h0⟩ : ∃ q, (x.kind == y.kind) = q := ⟨_, rfl⟩
  obtain ⟨q1, h1⟩ : ∃ q, (x.client == y.client) = q := ⟨_, rfl⟩
  obtain ⟨q2, h2⟩ : ∃ q, ((x.seq : Int) == (y.seq : Int)) = q := ⟨_, rfl⟩
  obtain ⟨q3, h3⟩ : ∃ q, (x.branch.toList == y.branch.toList) = q := ⟨_, rfl⟩
  obtain ⟨q4, h4⟩ : ∃ q, (x.old.b == y.old.b) = q := ⟨_, rfl⟩
  obtain ⟨q5, h5⟩ : ∃ q, (x.new.b == y.new.b) = q := ⟨_, rfl⟩
  obtain ⟨q6, h6⟩ : ∃ q, (d == d') = q := ⟨_, rfl⟩
  have HF := Lib.hid (sameF_eq h0 h1 h2 h3 h4 h5 h6)
  have E4 : Hid (∀ w, (Op.equalIn 10000 24 (.agg (bvs x.old.b).toArray) (.agg (bvs y.old.b).toArray)).run Try.prog w = .ok q4 w) := Lib.hid (by rw [← h4]; exact eq_id x.old y.old)
  have E5 : Hid (∀ w, (Op.equalIn 10000 24 (.agg (bvs x.new.b).toArray) (.agg (bvs y.new.b).toArray)).run Try.prog w = .ok q5 w) := Lib.hid (by rw [← h5]; exact eq_id x.new y.new)
  have CQ : Hid (Calls Try.prog 17 #[.slice A n c, .slice A' n' c'] w2 fun e w' => e = .returned (.bool q6) ∧ Below w2.heap.size w2 w') := Lib.hid ((equal_is ((h.below B2.out).more B2.out.size) ((h'.below B2.out).more B2.out.size) q6 h6).mono fun e w' hh => ⟨hh.1, by rw [← hh.2]; exact Below.refl _ _⟩)
  clear hw2 h h' h4 h5 h6
  obtain ⟨sq, hsq⟩ : ∃ q, sameF x y d d' = q := ⟨_, rfl⟩
  rw [hsq] at HF ⊢
  clear hsq
  obtain ⟨a0, a1, a2, a3, R4, R5, a6⟩ := cf_lies X0.out
  obtain ⟨b0, b1, b2, b3, T4, T5, b6⟩ := cf_lies X1.out
  rw [hx] at a6
  rw [hy] at b6
  replace R4 := Lib.hid R4
  replace R5 := Lib.hid R5
  replace T4 := Lib.hid T4
  replace T5 := Lib.hid T5
  clear hx hy
  cases q0
  · go_enter Try.func8, Try.ntmps8
    go_upto_region 1 with fail
    rw [HW.out]
    have e4 := E4.out
    have e5 := E5.out
    go_wp2_with fail
    go_ret
    exact ⟨by rw [HF.out]; rfl, B2.out⟩
  cases q1
  · go_enter Try.func8, Try.ntmps8
    go_upto_region 1 with fail
    rw [HW.out]
    have e4 := E4.out
    have e5 := E5.out
    go_wp2_with fail
    go_ret
    exact ⟨by rw [HF.out]; rfl, B2.out⟩
  cases q2
  · go_enter Try.func8, Try.ntmps8
    go_upto_region 1 with fail
    rw [HW.out]
    have e4 := E4.out
    have e5 := E5.out
    go_wp2_with fail
    go_ret
    exact ⟨by rw [HF.out]; rfl, B2.out⟩
  cases q3
  · go_enter Try.func8, Try.ntmps8
    go_upto_region 1 with fail
    rw [HW.out]
    have e4 := E4.out
    have e5 := E5.out
    go_wp2_with fail
    go_ret
    exact ⟨by rw [HF.out]; rfl, B2.out⟩
  cases q4
  · go_enter Try.func8, Try.ntmps8
    go_upto_region 1 with fail
    rw [HW.out]
    have e4 := E4.out
    have e5 := E5.out
    go_wp2_with (first
          | ((with_reducible refine ldi (.tmp 32) ?_ ?_ w.heap.size 4 x.old ?_ R4.out ?_); (rfl); (first | rfl | go_simp); (first | rfl | go_simp))
          | ((with_reducible refine ldi (.tmp 34) ?_ ?_ (w.heap.size + 1) 4 y.old ?_ T4.out ?_); (rfl); (first | rfl | go_simp); (first | rfl | go_simp))
          | ((with_reducible refine ldi (.tmp 39) ?_ ?_ w.heap.size 36 x.new ?_ R5.out ?_); (rfl); (first | rfl | go_simp); (first | rfl | go_simp))
          | ((with_reducible refine ldi (.tmp 41) ?_ ?_ (w.heap.size + 1) 36 y.new ?_ T5.out ?_); (rfl); (first | rfl | go_simp); (first | rfl | go_simp))
          | (go_at_call 17; refine CQ.out.mono ?_; rintro e w3 ⟨rfl, hb3⟩; have B3 := Lib.hid (B2.out.trans (hb3.mono B2.out.size)); clear hb3)
          | fail)
    go_ret
    exact ⟨by rw [HF.out]; rfl, B2.out⟩
  cases q5
  · go_enter Try.func8, Try.ntmps8
    go_upto_region 1 with fail
    rw [HW.out]
    have e4 := E4.out
    have e5 := E5.out
    go_wp2_with (first
          | ((with_reducible refine ldi (.tmp 32) ?_ ?_ w.heap.size 4 x.old ?_ R4.out ?_); (rfl); (first | rfl | go_simp); (first | rfl | go_simp))
          | ((with_reducible refine ldi (.tmp 34) ?_ ?_ (w.heap.size + 1) 4 y.old ?_ T4.out ?_); (rfl); (first | rfl | go_simp); (first | rfl | go_simp))
          | ((with_reducible refine ldi (.tmp 39) ?_ ?_ w.heap.size 36 x.new ?_ R5.out ?_); (rfl); (first | rfl | go_simp); (first | rfl | go_simp))
          | ((with_reducible refine ldi (.tmp 41) ?_ ?_ (w.heap.size + 1) 36 y.new ?_ T5.out ?_); (rfl); (first | rfl | go_simp); (first | rfl | go_simp))
          | (go_at_call 17; refine CQ.out.mono ?_; rintro e w3 ⟨rfl, hb3⟩; have B3 := Lib.hid (B2.out.trans (hb3.mono B2.out.size)); clear hb3)
          | fail)
    go_ret
    exact ⟨by rw [HF.out]; rfl, B2.out⟩
  go_enter Try.func8, Try.ntmps8
  go_upto_region 1 with fail
  rw [HW.out]
  have e4 := E4.out
  have e5 := E5.out
  go_wp2_with (first
        | ((with_reducible refine ldi (.tmp 32) ?_ ?_ w.heap.size 4 x.old ?_ R4.out ?_); (rfl); (first | rfl | go_simp); (first | rfl | go_simp))
        | ((with_reducible refine ldi (.tmp 34) ?_ ?_ (w.heap.size + 1) 4 y.old ?_ T4.out ?_); (rfl); (first | rfl | go_simp); (first | rfl | go_simp))
        | ((with_reducible refine ldi (.tmp 39) ?_ ?_ w.heap.size 36 x.new ?_ R5.out ?_); (rfl); (first | rfl | go_simp); (first | rfl | go_simp))
        | ((with_reducible refine ldi (.tmp 41) ?_ ?_ (w.heap.size + 1) 36 y.new ?_ T5.out ?_); (rfl); (first | rfl | go_simp); (first | rfl | go_simp))
        | (go_at_call 17; refine CQ.out.mono ?_; rintro e w3 ⟨rfl, hb3⟩; have B3 := Lib.hid (B2.out.trans (hb3.mono B2.out.size)); clear hb3)
        | fail)
  go_ret
  exact ⟨by rw [HF.out]; rfl, B3.out⟩
set_option maxHeartbeats 4000000 in
set_option maxRecDepth 100000 in
theorem refSame_any {w : World} {x y : Cf} {A A' : Option Addr} {n c n' c' : Nat} {d d' : List UInt8} (hx : x.dv = .slice A n c) (hy : y.dv = .slice A' n' c') (h : SlB w w.heap.size A n c d) (h' : SlB w w.heap.size A' n' c' d') :
    Calls Try.prog 16 #[cfV x, cfV y] w fun e w' => e = .returned (.bool (sameF x y d d')) ∧ Below w.heap.size w w' := by
  obtain ⟨w2, hw2⟩ : ∃ w2, (w.alloc (.cells x.cells.toArray 27)).alloc (.cells y.cells.toArray 27) = w2 := ⟨_, rfl⟩
  have B2 : Hid (Below w.heap.size w w2) := Lib.hid (by rw [← hw2]; exact ((Below.refl _ _).alloc (Nat.le_refl _) _).alloc (by simp) _)
  have X0 : Hid (Lies w2 w.heap.size 69 x.cells) := Lib.hid (by
    rw [← hw2]
    have := (Lies.new w x.cells 27).alloc (.cells y.cells.toArray 27)
    rwa [cf_sz] at this)
  have X1 : Hid (Lies w2 (w.heap.size + 1) 69 y.cells) := Lib.hid (by
    rw [← hw2]
    have := Lies.new (w.alloc (.cells x.cells.toArray 27)) y.cells 27
    rwa [World.size_alloc, cf_sz] at this)
  have HW := Lib.hid hw2
  obtain ⟨q0, h0⟩ : ∃ q, (x.kind == y.kind) = q := ⟨_, rfl⟩
  obtain ⟨q1, h1⟩ : ∃ q, (x.client == y.client) = q := ⟨_, rfl⟩
  obtain ⟨q2, h2⟩ : ∃ q, ((x.seq : Int) == (y.seq : Int)) = q := ⟨_, rfl⟩
  obtain ⟨q3, h3⟩ : ∃ q, (x.branch.toList == y.branch.toList) = q := ⟨_, rfl⟩
  obtain ⟨q4, h4⟩ : ∃ q, (x.old.b == y.old.b) = q := ⟨_, rfl⟩
  obtain ⟨q5, h5⟩ : ∃ q, (x.new.b == y.new.b) = q := ⟨_, rfl⟩
  obtain ⟨q6, h6⟩ : ∃ q, (d == d') = q := ⟨_, rfl⟩
  have HF := Lib.hid (sameF_eq h0 h1 h2 h3 h4 h5 h6)
  have E4 : Hid (∀ w, (Op.equalIn 10000 24 (.agg (bvs x.old.b).toArray) (.agg (bvs y.old.b).toArray)).run Try.prog w = .ok q4 w) := Lib.hid (by rw [← h4]; exact eq_id x.old y.old)
  have E5 : Hid (∀ w, (Op.equalIn 10000 24 (.agg (bvs x.new.b).toArray) (.agg (bvs y.new.b).toArray)).run Try.prog w = .ok q5 w) := Lib.hid (by rw [← h5]; exact eq_id x.new y.new)
  have CQ : Hid (Calls Try.prog 12 #[.slice A n c, .slice A' n' c'] w2 fun e w' => e = .returned (.bool q6) ∧ Below w2.heap.size w2 w') := Lib.hid ((same_is ((h.below B2.out).more B2.out.size) ((h'.below B2.out).more B2.out.size) q6 h6).mono fun e w' ⟨hh, k, hk⟩ => ⟨hh, by rw [hk]; exact below_drewN (Below.refl _ _) k⟩)
  clear hw2 h h' h4 h5 h6
  obtain ⟨sq, hsq⟩ : ∃ q, sameF x y d d' = q := ⟨_, rfl⟩
  rw [hsq] at HF ⊢
  clear hsq
  obtain ⟨a0, a1, a2, a3, R4, R5, a6⟩ := cf_lies X0.out
  obtain ⟨b0, b1, b2, b3, T4, T5, b6⟩ := cf_lies X1.out
  rw [hx] at a6
  rw [hy] at b6
  replace R4 := Lib.hid R4
  replace R5 := Lib.hid R5
  replace T4 := Lib.hid T4
  replace T5 := Lib.hid T5
  clear hx hy
  cases q0
  · go_enter Try.func16, Try.ntmps16
    go_upto_region 1 with fail
    rw [HW.out]
    have e4 := E4.out
    have e5 := E5.out
    go_wp2_with fail
    go_ret
    exact ⟨by rw [HF.out]; rfl, B2.out⟩
  cases q1
  · go_enter Try.func16, Try.ntmps16
    go_upto_region 1 with fail
    rw [HW.out]
    have e4 := E4.out
    have e5 := E5.out
    go_wp2_with fail
    go_ret
    exact ⟨by rw [HF.out]; rfl, B2.out⟩
  cases q2
  · go_enter Try.func16, Try.ntmps16
    go_upto_region 1 with fail
    rw [HW.out]
    have e4 := E4.out
    have e5 := E5.out
    go_wp2_with fail
    go_ret
    exact ⟨by rw [HF.out]; rfl, B2.out⟩
  cases q3
  · go_enter Try.func16, Try.ntmps16
    go_upto_region 1 with fail
    rw [HW.out]
    have e4 := E4.out
    have e5 := E5.out
    go_wp2_with fail
    go_ret
    exact ⟨by rw [HF.out]; rfl, B2.out⟩
  cases q4
  · go_enter Try.func16, Try.ntmps16
    go_upto_region 1 with fail
    rw [HW.out]
    have e4 := E4.out
    have e5 := E5.out
    go_wp2_with (first
          | ((with_reducible refine ldi (.tmp 32) ?_ ?_ w.heap.size 4 x.old ?_ R4.out ?_); (rfl); (first | rfl | go_simp); (first | rfl | go_simp))
          | ((with_reducible refine ldi (.tmp 34) ?_ ?_ (w.heap.size + 1) 4 y.old ?_ T4.out ?_); (rfl); (first | rfl | go_simp); (first | rfl | go_simp))
          | ((with_reducible refine ldi (.tmp 39) ?_ ?_ w.heap.size 36 x.new ?_ R5.out ?_); (rfl); (first | rfl | go_simp); (first | rfl | go_simp))
          | ((with_reducible refine ldi (.tmp 41) ?_ ?_ (w.heap.size + 1) 36 y.new ?_ T5.out ?_); (rfl); (first | rfl | go_simp); (first | rfl | go_simp))
          | (go_at_call 12; refine CQ.out.mono ?_; rintro e w3 ⟨rfl, hb3⟩; have B3 := Lib.hid (B2.out.trans (hb3.mono B2.out.size)); clear hb3)
          | fail)
    go_ret
    exact ⟨by rw [HF.out]; rfl, B2.out⟩
  cases q5
  · go_enter Try.func16, Try.ntmps16
    go_upto_region 1 with fail
    rw [HW.out]
    have e4 := E4.out
    have e5 := E5.out
    go_wp2_with (first
          | ((with_reducible refine ldi (.tmp 32) ?_ ?_ w.heap.size 4 x.old ?_ R4.out ?_); (rfl); (first | rfl | go_simp); (first | rfl | go_simp))
          | ((with_reducible refine ldi (.tmp 34) ?_ ?_ (w.heap.size + 1) 4 y.old ?_ T4.out ?_); (rfl); (first | rfl | go_simp); (first | rfl | go_simp))
          | ((with_reducible refine ldi (.tmp 39) ?_ ?_ w.heap.size 36 x.new ?_ R5.out ?_); (rfl); (first | rfl | go_simp); (first | rfl | go_simp))
          | ((with_reducible refine ldi (.tmp 41) ?_ ?_ (w.heap.size + 1) 36 y.new ?_ T5.out ?_); (rfl); (first | rfl | go_simp); (first | rfl | go_simp))
          | (go_at_call 12; refine CQ.out.mono ?_; rintro e w3 ⟨rfl, hb3⟩; have B3 := Lib.hid (B2.out.trans (hb3.mono B2.out.size)); clear hb3)
          | fail)
    go_ret
    exact ⟨by rw [HF.out]; rfl, B2.out⟩
  go_enter Try.func16, Try.ntmps16
  go_upto_region 1 with fail
  rw [HW.out]
  have e4 := E4.out
  have e5 := E5.out
  go_wp2_with (first
        | ((with_reducible refine ldi (.tmp 32) ?_ ?_ w.heap.size 4 x.old ?_ R4.out ?_); (rfl); (first | rfl | go_simp); (first | rfl | go_simp))
        | ((with_reducible refine ldi (.tmp 34) ?_ ?_ (w.heap.size + 1) 4 y.old ?_ T4.out ?_); (rfl); (first | rfl | go_simp); (first | rfl | go_simp))
        | ((with_reducible refine ldi (.tmp 39) ?_ ?_ w.heap.size 36 x.new ?_ R5.out ?_); (rfl); (first | rfl | go_simp); (first | rfl | go_simp))
        | ((with_reducible refine ldi (.tmp 41) ?_ ?_ (w.heap.size + 1) 36 y.new ?_ T5.out ?_); (rfl); (first | rfl | go_simp); (first | rfl | go_simp))
        | (go_at_call 12; refine CQ.out.mono ?_; rintro e w3 ⟨rfl, hb3⟩; have B3 := Lib.hid (B2.out.trans (hb3.mono B2.out.size)); clear hb3)
        | fail)
  go_ret
  exact ⟨by rw [HF.out]; rfl, B3.out⟩
end Go.Proofs.Ythionkcnmkhopaa
