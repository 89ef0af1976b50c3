/-
  STAGE 7's STATEMENTS: three maps that came in; whether they may be.
-/
import Derived.Deep.Strs
import Derived.Test.YtgpakahmccafdaaMr
import Derived.Test.YtgpakahmccafdaaPy
import Derived.Test.YtgpakahmccafdaaRu
namespace Go.Proofs.Ytgpakahmccafdaa
set_option linter.unusedVariables false
set_option linter.unusedSimpArgs false
open Go.RowKit Go.WideShapes Go.ChangeShapes Go.Deep

theorem size_three {cs : Array Value} (h : cs.size = 3) : ∃ c0 c1 c2, cs = #[c0, c1, c2] := by
  obtain ⟨ls⟩ := cs
  match ls, h with
  | [a, b, c], _ => exact ⟨a, b, c, rfl⟩
set_option maxRecDepth 100000 in
/-- Three maps that came in. -/
theorem three_arg {H : Type} {enc : TypeId × Value → H} {W : World} {r : Reach} {b0 : Nat} {v : Value} {d : DataW H} {p : List MemPlace} (hv : Value.okWide Try.prog W r b0 26 v) (h : DataW.Trod enc Try.prog W 0 (fun _ => true) true 26 v d p) :
    ∃ A1 n1 c1 l1 A2 n2 c2 l2 A3 n3 c3 l3, v = .agg #[.slice A1 n1 c1, .slice A2 n2 c2, .slice A3 n3 c3] ∧ SqR W W.heap.size A1 n1 c1 l1 ∧ SqR W W.heap.size A2 n2 c2 l2 ∧ SqR W W.heap.size A3 n3 c3 l3 := by
  obtain ⟨cs, rfl, hsz⟩ := okWide_struct Try.underlying26 hv
  have hC : Try.prog.cellsOf 26 = 3 := by kernel_rfl
  obtain ⟨c0, c1, c2, rfl⟩ := size_three (hsz.trans hC)
  obtain ⟨fuel, hf⟩ := h
  obtain ⟨y0, y1, y2, n, _, _, h0, h1, h2⟩ := trod_struct3 Try.underlying26 hf
  have k0 : Try.prog.cellsOf 24 = 1 := by kernel_rfl
  have k1 : Try.prog.cellsOf 22 = 1 := by kernel_rfl
  simp only [Value.cells, k0, List.drop_zero, List.take_succ_cons, List.take_zero, List.drop_succ_cons] at h0 h1 h2
  obtain ⟨z0, m0, _, _, g0⟩ := trod_struct1 Try.underlying24 h0
  obtain ⟨z1, m1, _, _, g1⟩ := trod_struct1 Try.underlying24 h1
  obtain ⟨z2, m2, _, _, g2⟩ := trod_struct1 Try.underlying24 h2
  simp only [k1, List.drop_zero, List.take_succ_cons, List.take_zero] at g0 g1 g2
  obtain ⟨A1, n1, d1, l1, rfl, s1⟩ := rows_arg g0
  obtain ⟨A2, n2, d2, l2, rfl, s2⟩ := rows_arg g1
  obtain ⟨A3, n3, d3, l3, rfl, s3⟩ := rows_arg g2
  exact ⟨A1, n1, d1, l1, A2, n2, d2, l2, A3, n3, d3, l3, rfl, s1, s2, s3⟩

theorem merge_len {lb lo lt : List Rw} {e : List Ch} (h : mergeE lb lo lt e = 0) : (mergedW lb lo lt e).length ≤ 32 := by
  unfold mergeE at h
  split at h
  · split at h
    · split at h
      · unfold mergedE at h
        split at h
        · cases h
        · omega
      · cases h
    · cases h
  · cases h
theorem mergeX_len (lb lo lt : List Rw) (e : List Ch) : (if mergeE lb lo lt e = 0 then mergedW lb lo lt e else []).length ≤ 32 := by
  by_cases h : mergeE lb lo lt e = 0
  · rw [if_pos h]; exact merge_len h
  · rw [if_neg h]; simp

set_option maxRecDepth 100000 in
set_option maxHeartbeats 4000000 in
theorem right_any {w : World} {A1 : Option Addr} {n1 c1 : Nat} {l1 : List Rw} (h1 : SqR w w.heap.size A1 n1 c1 l1) (hm1 : n1 ≤ 1000 ∧ ∀ r ∈ l1, r.p.size ≤ 500) {A2 : Option Addr} {n2 c2 : Nat} {l2 : List Rw} (h2 : SqR w w.heap.size A2 n2 c2 l2) (hm2 : n2 ≤ 1000 ∧ ∀ r ∈ l2, r.p.size ≤ 500) {A3 : Option Addr} {n3 c3 : Nat} {l3 : List Rw} (h3 : SqR w w.heap.size A3 n3 c3 l3) (hm3 : n3 ≤ 1000 ∧ ∀ r ∈ l3, r.p.size ≤ 500) :
    Calls Try.prog 14 #[.agg #[.slice A1 n1 c1, .slice A2 n2 c2, .slice A3 n3 c3]] w fun e w' => e = .returned (.bool (rightR l1 && (rightR l2 && rightR l3))) ∧ Below w.heap.size w w' := by
  obtain ⟨w0, hw0⟩ : ∃ w0, w.alloc (.cells #[.slice A1 n1 c1, .slice A2 n2 c2, .slice A3 n3 c3] 26) = w0 := ⟨_, rfl⟩
  have B0 : Hid (Below w.heap.size w w0) := Lib.hid (by rw [← hw0]; exact (Below.refl _ _).alloc (Nat.le_refl _) _)
  have X0 : Hid (Lies w0 w.heap.size 3 [.slice A1 n1 c1, .slice A2 n2 c2, .slice A3 n3 c3]) := Lib.hid (by rw [← hw0]; exact Lies.new w [.slice A1 n1 c1, .slice A2 n2 c2, .slice A3 n3 c3] 26)
  have HS1 : Hid (∀ W, Below w0.heap.size w0 W → SqR W W.heap.size A1 n1 c1 l1) := Lib.hid fun W hW => (h1.below (B0.out.trans (hW.mono B0.out.size))).more (Nat.le_trans B0.out.size hW.size)
  have HS2 : Hid (∀ W, Below w0.heap.size w0 W → SqR W W.heap.size A2 n2 c2 l2) := Lib.hid fun W hW => (h2.below (B0.out.trans (hW.mono B0.out.size))).more (Nat.le_trans B0.out.size hW.size)
  have HS3 : Hid (∀ W, Below w0.heap.size w0 W → SqR W W.heap.size A3 n3 c3 l3) := Lib.hid fun W hW => (h3.below (B0.out.trans (hW.mono B0.out.size))).more (Nat.le_trans B0.out.size hW.size)
  have HQ : Hid (∀ W, Below w0.heap.size w0 W → W.cell? ⟨w.heap.size, 0, none⟩ = some (.slice A1 n1 c1) ∧ W.cell? ⟨w.heap.size, 1, none⟩ = some (.slice A2 n2 c2) ∧ W.cell? ⟨w.heap.size, 2, none⟩ = some (.slice A3 n3 c3)) := Lib.hid fun W hW =>
    ⟨(X0.out.below hW X0.out.lt).cell (j := 0) rfl, (X0.out.below hW X0.out.lt).cell (j := 1) rfl, (X0.out.below hW X0.out.lt).cell (j := 2) rfl⟩
  have HA := Lib.hid (refRight_any (HS1.out _ (Below.refl _ _)) (show n1 ≤ 1000000 by omega) (fun r hr => by have := hm1.2 r hr; omega))
  have HB := Lib.hid (fun W (hW : Below w0.heap.size w0 W) => refRight_any (HS2.out W hW) (show n2 ≤ 1000000 by omega) (fun r hr => by have := hm2.2 r hr; omega))
  have HC := Lib.hid (fun W (hW : Below w0.heap.size w0 W) => refRight_any (HS3.out W hW) (show n3 ≤ 1000000 by omega) (fun r hr => by have := hm3.2 r hr; omega))
  obtain ⟨ra, hra⟩ : ∃ r, rightR l1 = r := ⟨_, rfl⟩
  obtain ⟨rb, hrb⟩ : ∃ r, rightR l2 = r := ⟨_, rfl⟩
  obtain ⟨rc, hrc⟩ : ∃ r, rightR l3 = r := ⟨_, rfl⟩
  rw [hra] at HA ⊢
  rw [hrb] at HB ⊢
  rw [hrc] at HC ⊢
  have HW := Lib.hid hw0
  clear hw0 h1 h2 h3 hra hrb hrc
  go_enter Try.func14, Try.ntmps14
  go_upto_region 1 with fail
  rw [HW.out]
  clear HW
  obtain ⟨q0, q1, q2⟩ := HQ.out _ (Below.refl _ _)
  go_wp2_with fail
  refine HA.out.mono ?_
  rintro e w1 ⟨rfl, hb1⟩
  have G1 := Lib.hid hb1
  clear hb1 q0 q1 q2
  cases ra
  · go_wp2_with fail
    go_ret
    exact ⟨rfl, B0.out.trans (G1.out.mono B0.out.size)⟩
  obtain ⟨q0, q1, q2⟩ := HQ.out _ G1.out
  go_wp2_with fail
  refine (HB.out _ G1.out).mono ?_
  rintro e w2 ⟨rfl, hb2⟩
  have G2 := Lib.hid (G1.out.trans (hb2.mono G1.out.size))
  clear hb2 q0 q1 q2
  cases rb
  · go_wp2_with fail
    go_ret
    exact ⟨rfl, B0.out.trans (G2.out.mono B0.out.size)⟩
  obtain ⟨q0, q1, q2⟩ := HQ.out _ G2.out
  go_wp2_with fail
  refine (HC.out _ G2.out).mono ?_
  rintro e w3 ⟨rfl, hb3⟩
  have G3 := Lib.hid (G2.out.trans (hb3.mono G2.out.size))
  clear hb3 q0 q1 q2
  go_wp2_with fail
  go_ret
  exact ⟨by simp, B0.out.trans (G3.out.mono B0.out.size)⟩
end Go.Proofs.Ytgpakahmccafdaa
