/-
  PROVED HERE: the merge of whatever maps is the document's, or it is refused: at every three maps and every edit.
-/
import Derived.Test.YtkdmlffnkomdhaaFd
import Derived.Test.YtkdmlffnkomdhaaMt
import Derived.Test.YtkdmlffnkomdhaaMk
import Derived.Test.YtkdmlffnkomdhaaYc
import Derived.Test.YtkdmlffnkomdhaaRw
import Derived.Test.YtkdmlffnkomdhaaSr
import Derived.Test.YtkdmlffnkomdhaaRows
import Derived.ProofKit
import Derived.OpenShut
import Derived.ChangeOld
import Derived.Carry
namespace Go.Proofs.Ytkdmlffnkomdhaa.mergeMerges
open Go.ChangeShapes Go.WideShapes Go.ChangeAt Go.RowKit
set_option linter.unusedVariables false
set_option linter.unusedSimpArgs false
open Go.Deep
attribute [local irreducible] wpQuiet

set_option maxRecDepth 100000 in
set_option maxHeartbeats 2000000 in
theorem no_any {w : World} {M6 M7 : Nat} {A : Option Addr} {n c : Nat} {ek : Int} (h7 : w.cell? ⟨M7, 0, none⟩ = some (.int .i64 ek)) (h6 : w.cell? ⟨M6, 0, none⟩ = some (.slice A n c)) (k : Int) :
    Calls Try.prog 20 #[.int .i64 k, .pointer (some ⟨M7, 0, none⟩), .pointer (some ⟨M6, 0, none⟩)] w fun e w' => e = .returned (.bool (decide (ek = k) && decide (n = 0))) ∧ w = w' := by
  go_enter Try.func20, Try.ntmps20
  by_cases hk : ek = k
  · subst hk
    have d1 : (ek == ek) = true := by simp
    by_cases hn : n = 0
    · subst hn
      have d2 : (((0 : Nat) : Int) == (0 : Int)) = true := rfl
      go_wp2_with fail
      go_ret
      exact ⟨by simp, rfl⟩
    · have d2 : ((n : Int) == (0 : Int)) = false := by simp; omega
      have d3 : decide (n = 0) = false := by simp; omega
      go_wp2_with fail
      go_ret
      exact ⟨by simp [hn], rfl⟩
  · have d1 : (ek == k) = false := by simpa using hk
    have d3 : decide (ek = k) = false := by simpa using hk
    go_wp2_with fail
    go_ret
    exact ⟨by simp [hk], rfl⟩
set_option maxRecDepth 100000 in
set_option maxHeartbeats 8000000 in
theorem walk (A1 : Option Addr) (n1 c1 : Nat) (l1 : List Rw) (A2 : Option Addr) (n2 c2 : Nat) (l2 : List Rw) (A3 : Option Addr) (n3 c3 : Nat) (l3 : List Rw) (A' : Option Addr) (n' c' : Nat) (l4 : List Ch) (w : World) (h1 : SqR w w.heap.size A1 n1 c1 l1) (h2 : SqR w w.heap.size A2 n2 c2 l2) (h3 : SqR w w.heap.size A3 n3 c3 l3) (h4 : SqC w w.heap.size A' n' c' l4) :
    Calls Try.prog 4 #[.agg #[.slice A1 n1 c1, .slice A2 n2 c2, .slice A3 n3 c3], .agg #[.slice A' n' c']] w fun e w' => e = .returned (.bool true) ∧ Below w.heap.size w w' := by
  obtain ⟨w0, hw0⟩ : ∃ w0, (w.alloc (.cells #[.slice A1 n1 c1, .slice A2 n2 c2, .slice A3 n3 c3] 26)).alloc (.cells #[.slice A' n' c'] 36) = w0 := ⟨_, rfl⟩
  have B0 : Hid (Below w.heap.size w w0) := Lib.hid (by rw [← hw0]; exact ((Below.refl _ _).alloc (Nat.le_refl _) _).alloc (by simp) _)
  have X0 : Hid (Lies w0 w.heap.size 3 [.slice A1 n1 c1, .slice A2 n2 c2, .slice A3 n3 c3]) := Lib.hid (by rw [← hw0]; exact (Lies.new w [.slice A1 n1 c1, .slice A2 n2 c2, .slice A3 n3 c3] 26).alloc _)
  have X1 : Hid (Lies w0 (w.heap.size + 1) 1 [.slice A' n' c']) := Lib.hid (by
    rw [← hw0]
    have h := Lies.new (w.alloc (.cells #[.slice A1 n1 c1, .slice A2 n2 c2, .slice A3 n3 c3] 26)) [.slice A' n' c'] 36
    rwa [World.size_alloc] at h)
  have HS1 : Hid (∀ W, Below w0.heap.size w0 W → SqR W W.heap.size A1 n1 c1 l1) := Lib.hid fun W hW => (h1.below (B0.out.trans (hW.mono B0.out.size))).more (Nat.le_trans B0.out.size hW.size)
  have HS2 : Hid (∀ W, Below w0.heap.size w0 W → SqR W W.heap.size A2 n2 c2 l2) := Lib.hid fun W hW => (h2.below (B0.out.trans (hW.mono B0.out.size))).more (Nat.le_trans B0.out.size hW.size)
  have HS3 : Hid (∀ W, Below w0.heap.size w0 W → SqR W W.heap.size A3 n3 c3 l3) := Lib.hid fun W hW => (h3.below (B0.out.trans (hW.mono B0.out.size))).more (Nat.le_trans B0.out.size hW.size)
  have HS4 : Hid (∀ W, Below w0.heap.size w0 W → SqC W W.heap.size A' n' c' l4) := Lib.hid fun W hW => (h4.below (B0.out.trans (hW.mono B0.out.size))).more (Nat.le_trans B0.out.size hW.size)
  have HQ : Hid (∀ W, Below w0.heap.size w0 W → W.cell? ⟨w.heap.size, 0, none⟩ = some (.slice A1 n1 c1) ∧ W.cell? ⟨w.heap.size, 1, none⟩ = some (.slice A2 n2 c2) ∧ W.cell? ⟨w.heap.size, 2, none⟩ = some (.slice A3 n3 c3) ∧ W.cell? ⟨w.heap.size + 1, 0, none⟩ = some (.slice A' n' c')) := Lib.hid fun W hW =>
    ⟨(X0.out.below hW X0.out.lt).cell (j := 0) rfl, (X0.out.below hW X0.out.lt).cell (j := 1) rfl, (X0.out.below hW X0.out.lt).cell (j := 2) rfl, (X1.out.below hW X1.out.lt).cell (j := 0) rfl⟩
  have HW := Lib.hid hw0
  clear hw0 h1 h2 h3 h4 X0 X1
  go_enter Try.func4, Try.ntmps4
  go_upto_region 1 with fail
  rw [HW.out]
  clear HW
  go_wp2_with fail
  refine (wakes_any w0).mono ?_
  rintro e wa ⟨rfl, hb1⟩
  have G1 := Lib.hid hb1
  clear hb1
  obtain ⟨q0, q1, q2, q3⟩ := HQ.out _ G1.out
  go_wp2_with fail
  obtain ⟨wb, hw2⟩ : ∃ wb, wa.alloc (.cells #[.slice A1 n1 c1, .slice A2 n2 c2, .slice A3 n3 c3] 24) = wb := ⟨_, rfl⟩
  rw [hw2]
  have C2 : Hid (Below wa.heap.size wa wb) := Lib.hid (by rw [← hw2]; exact (Below.refl _ _).alloc (Nat.le_refl _) _)
  have G2 := Lib.hid (G1.out.trans (C2.out.mono G1.out.size))
  have HL := larges_any (w := wb) (A := some ⟨wa.heap.size, 0, none⟩) (n := 3) (c := 3) (ms := [⟨A1, n1, c1, l1⟩, ⟨A2, n2, c2, l2⟩, ⟨A3, n3, c3, l3⟩]) ⟨rfl, Nat.le_refl _, by unfold maxLen; omega, (fun e => by cases e), mp_sz, fun _ => ⟨wa.heap.size, 0, rfl, by rw [← hw2]; simp, by rw [← hw2]; exact (Lies.new wa [.slice A1 n1 c1, .slice A2 n2 c2, .slice A3 n3 c3] 24).rg⟩⟩ (mp_all3 (HS1.out _ G2.out) (HS2.out _ G2.out) (HS3.out _ G2.out)) (by omega)
  clear hw2 C2 q0 q1 q2 q3
  refine HL.mono ?_
  rintro e wc ⟨(rfl | ⟨rfl, hm⟩), hb3⟩
  · have G3 := Lib.hid (G2.out.trans (hb3.mono G2.out.size))
    clear hb3 HL
    go_wp2_with fail
    go_ret
    exact ⟨rfl, B0.out.trans (G3.out.mono B0.out.size)⟩
  have Gc := Lib.hid (G2.out.trans (hb3.mono G2.out.size))
  have hn1 : n1 ≤ 1000 ∧ ∀ r ∈ l1, r.p.size ≤ 500 := by have := hm ⟨A1, n1, c1, l1⟩ (by simp); exact ⟨by have := this.1; simp at this; omega, this.2⟩
  have hn2 : n2 ≤ 1000 ∧ ∀ r ∈ l2, r.p.size ≤ 500 := by have := hm ⟨A2, n2, c2, l2⟩ (by simp); exact ⟨by have := this.1; simp at this; omega, this.2⟩
  have hn3 : n3 ≤ 1000 ∧ ∀ r ∈ l3, r.p.size ≤ 500 := by have := hm ⟨A3, n3, c3, l3⟩ (by simp); exact ⟨by have := this.1; simp at this; omega, this.2⟩
  clear hb3 HL hm G2
  obtain ⟨q0, q1, q2, q3⟩ := HQ.out _ Gc.out
  go_wp2_with fail
  refine (largeE_any (HS4.out _ Gc.out)).mono ?_
  rintro e wd ⟨(rfl | ⟨rfl, hn4, hp4⟩), hb4⟩
  · have G4 := Lib.hid (Gc.out.trans (hb4.mono Gc.out.size))
    clear hb4 q0 q1 q2 q3
    go_wp2_with fail
    go_ret
    exact ⟨rfl, B0.out.trans (G4.out.mono B0.out.size)⟩
  have G3 := Lib.hid (Gc.out.trans (hb4.mono Gc.out.size))
  clear hb4 q0 q1 q2 q3
  have HN1 := Lib.hid hn1.1
  have HN2 := Lib.hid hn2.1
  have HN3 := Lib.hid hn3.1
  have HN4 := Lib.hid (show n' ≤ 1000 by omega)
  have HRT := Lib.hid (fun W (hW : Below w0.heap.size w0 W) => right_any (HS1.out W hW) hn1 (HS2.out W hW) hn2 (HS3.out W hW) hn3)
  have HRE := Lib.hid (fun W (hW : Below w0.heap.size w0 W) => refRightE_any (HS4.out W hW) (show n' ≤ 1000000 by omega) (fun r hr => by have := hp4 r hr; omega))
  have HRC := Lib.hid (fun W (hW : Below w0.heap.size w0 W) => refConflicts_any (HS1.out W hW) hn1.1 (HS2.out W hW) hn2.1 (HS3.out W hW) hn3.1)
  have HRM := Lib.hid (fun W (hW : Below w0.heap.size w0 W) => refMerge_any (HS1.out W hW) hn1.1 (HS2.out W hW) hn2.1 (HS3.out W hW) hn3.1 (HS4.out W hW) HN4.out)
  clear hn1 hn2 hn3 hn4 hp4 Gc
  obtain ⟨rq, hrq⟩ : ∃ rq, (rightR l1 && (rightR l2 && rightR l3)) = rq := ⟨_, rfl⟩
  obtain ⟨rc, hrc⟩ : ∃ rc, rightC l4 = rc := ⟨_, rfl⟩
  obtain ⟨L, hL⟩ : ∃ L, confW l1 l2 l3 = L := ⟨_, rfl⟩
  obtain ⟨eq, heq⟩ : ∃ eq, eqW L l4 = eq := ⟨_, rfl⟩
  obtain ⟨me, hme⟩ : ∃ me, mergeE l1 l2 l3 l4 = me := ⟨_, rfl⟩
  obtain ⟨X, hX⟩ : ∃ X, (if me = 0 then mergedW l1 l2 l3 l4 else []) = X := ⟨_, rfl⟩
  obtain ⟨Z, hZ⟩ : ∃ Z, (plsW l1 l2 l3).flatMap (refMp l4) = Z := ⟨_, rfl⟩
  have HME : Hid (me = if rq then (if rc then (if eq then (if 32 < (mergedW l1 l2 l3 l4).length then 6 else 0) else 170) else 151) else 150) := Lib.hid (by
    rw [← hme]
    unfold mergeE confE mergedE
    rw [hrq, hrc, hL, heq]
    cases rq <;> simp)
  have HXE := Lib.hid hX
  have HZE : Hid (eq = true → Z = mergedW l1 l2 l3 l4) := Lib.hid (fun h => by rw [← hZ]; exact refM_eq (by rw [hL, heq]; exact h))
  have HLL : Hid (L.length ≤ 3000) := Lib.hid (by
    rw [← hL]
    have h1 := plsW_len l1 l2 l3
    have h2 : (confW l1 l2 l3).length ≤ (plsW l1 l2 l3).length := List.length_filter_le _ _
    have e1 := (HS1.out _ G3.out).len
    have e2 := (HS2.out _ G3.out).len
    have e3 := (HS3.out _ G3.out).len
    have := HN1.out
    have := HN2.out
    have := HN3.out
    omega)
  rw [hrq] at HRT
  rw [hrc] at HRE
  rw [hL] at HRC
  rw [hZ] at HRM
  have HFE := Lib.hid heq
  have HMG : Hid (∀ W (D1 D2 D3 A7 : Option Addr) (d1 d2 d3 c7 : Nat), SqR W W.heap.size D1 n1 d1 l1 → SqR W W.heap.size D2 n2 d2 l2 → SqR W W.heap.size D3 n3 d3 l3 → SqC W W.heap.size A7 n' c7 l4 →
      Calls Try.prog 19 #[.agg #[.slice D1 n1 d1], .agg #[.slice D2 n2 d2], .agg #[.slice D3 n3 d3], .agg #[.slice A7 n' c7]] W fun en w' => (∃ A9 n9 c9, en = .returned (.tuple #[.agg #[.slice A9 n9 c9], .int .i64 me]) ∧ SqR w' w'.heap.size A9 n9 c9 X) ∧ Below W.heap.size W w') := Lib.hid (fun W D1 D2 D3 A7 d1 d2 d3 c7 k1 k2 k3 k4 => by
    have T := Merge_any k1 HN1.out k2 HN2.out k3 HN3.out k4 HN4.out
    rw [hme, hX] at T
    exact T)
  clear hrq hrc hL heq hme hX hZ
  obtain ⟨q0, q1, q2, q3⟩ := HQ.out _ G3.out
  have HCP := Lib.hid (fun W (hW : Below w0.heap.size w0 W) => copied7_any (HS1.out W hW) (show n1 ≤ 1000000 by have := HN1.out; omega) (HS2.out W hW) (show n2 ≤ 1000000 by have := HN2.out; omega) (HS3.out W hW) (show n3 ≤ 1000000 by have := HN3.out; omega))
  go_wp2_with fail
  refine (HCP.out _ G3.out).mono ?_
  rintro e u4 ⟨⟨D1, d1, D2, d2, D3, d3, rfl, hs1, hs2, hs3⟩, hb4⟩
  have R1 := Lib.hid hs1
  have R2 := Lib.hid hs2
  have R3 := Lib.hid hs3
  have F4 := Lib.hid (G3.out.trans (hb4.mono G3.out.size))
  clear hs1 hs2 hs3 hb4 q0 q1 q2 q3 HCP
  go_upto_region 6 with fail
  obtain ⟨w4, hw4⟩ : ∃ w4, u4.alloc (.cells #[.slice D1 n1 d1, .slice D2 n2 d2, .slice D3 n3 d3] 26) = w4 := ⟨_, rfl⟩
  rw [hw4]
  have C4 : Hid (Below u4.heap.size u4 w4) := Lib.hid (by rw [← hw4]; exact (Below.refl _ _).alloc (Nat.le_refl _) _)
  have Y4 : Hid (Lies w4 u4.heap.size 3 [.slice D1 n1 d1, .slice D2 n2 d2, .slice D3 n3 d3]) := Lib.hid (by rw [← hw4]; exact Lies.new u4 [.slice D1 n1 d1, .slice D2 n2 d2, .slice D3 n3 d3] 26)
  obtain ⟨M4, hM4⟩ : ∃ M, u4.heap.size = M := ⟨_, rfl⟩
  have G4 := Lib.hid (F4.out.trans (C4.out.mono F4.out.size))
  have HD1 : Hid (∀ W, Below w4.heap.size w4 W → SqR W W.heap.size D1 n1 d1 l1) := Lib.hid fun W hW => (((R1.out.below C4.out).more C4.out.size).below hW).more hW.size
  have HD2 : Hid (∀ W, Below w4.heap.size w4 W → SqR W W.heap.size D2 n2 d2 l2) := Lib.hid fun W hW => (((R2.out.below C4.out).more C4.out.size).below hW).more hW.size
  have HD3 : Hid (∀ W, Below w4.heap.size w4 W → SqR W W.heap.size D3 n3 d3 l3) := Lib.hid fun W hW => (((R3.out.below C4.out).more C4.out.size).below hW).more hW.size
  rw [hM4] at Y4 ⊢
  have HZ : Hid (∀ W, Below w4.heap.size w4 W → W.cell? ⟨M4, 0, none⟩ = some (.slice D1 n1 d1) ∧ W.cell? ⟨M4, 1, none⟩ = some (.slice D2 n2 d2) ∧ W.cell? ⟨M4, 2, none⟩ = some (.slice D3 n3 d3)) := Lib.hid fun W hW =>
    ⟨(Y4.out.below hW Y4.out.lt).cell (j := 0) rfl, (Y4.out.below hW Y4.out.lt).cell (j := 1) rfl, (Y4.out.below hW Y4.out.lt).cell (j := 2) rfl⟩
  clear hw4 hM4 C4 R1 R2 R3 F4 Y4
  have HQ6 : Hid (∀ W, Below w4.heap.size w4 W → W.cell? ⟨M4, 0, none⟩ = some (.slice D1 n1 d1) ∧ W.cell? ⟨M4, 1, none⟩ = some (.slice D2 n2 d2) ∧ W.cell? ⟨M4, 2, none⟩ = some (.slice D3 n3 d3) ∧ W.cell? ⟨w.heap.size + 1, 0, none⟩ = some (.slice A' n' c')) := Lib.hid fun W hW =>
    ⟨(HZ.out W hW).1, (HZ.out W hW).2.1, (HZ.out W hW).2.2, (HQ.out W (G4.out.trans (hW.mono G4.out.size))).2.2.2⟩
  have HS44 : Hid (∀ W, Below w4.heap.size w4 W → SqC W W.heap.size A' n' c' l4) := Lib.hid fun W hW => HS4.out W (G4.out.trans (hW.mono G4.out.size))
  refine wp_region_noPanic ?_
  refine wp_region_held_drew (S := (fun w' => Below w4.heap.size w4 w')) (by kernel_rfl) (Below.refl w4.heap.size w4).drew (fun _ => ?_)
  refine wpAnyH_take (i := 0) rfl (by kernel_rfl) (by kernel_rfl) (by kernel_rfl) (fun _ _ _ h => h) (.inl ⟨rfl, fun w' hw' => (by obtain ⟨q0, q1, q2, q3⟩ := HQ6.out w' hw'; clear hw'; go_simp; (try rfl))⟩) (Below.refl w4.heap.size w4).drew ?_
  simp only [List.getElem_toArray, List.getElem_cons_zero, List.getElem_cons_succ, Act.put, List.setIfInBounds_toArray, List.set_cons_succ, List.set_cons_zero]
  refine wpAnyH_take (i := 1) rfl (by kernel_rfl) (by kernel_rfl) (by kernel_rfl) (fun _ _ _ h => h) (.inl ⟨rfl, fun w' hw' => (by obtain ⟨q0, q1, q2, q3⟩ := HQ6.out w' hw'; clear hw'; go_simp; (try rfl))⟩) (Below.refl w4.heap.size w4).drew ?_
  simp only [List.getElem_toArray, List.getElem_cons_zero, List.getElem_cons_succ, Act.put, List.setIfInBounds_toArray, List.set_cons_succ, List.set_cons_zero]
  refine wpAnyH_take (i := 2) rfl (by kernel_rfl) (by kernel_rfl) (by kernel_rfl) (fun _ _ _ h => h) (.inl ⟨rfl, fun w' hw' => (by obtain ⟨q0, q1, q2, q3⟩ := HQ6.out w' hw'; clear hw'; go_simp; (try rfl))⟩) (Below.refl w4.heap.size w4).drew ?_
  simp only [List.getElem_toArray, List.getElem_cons_zero, List.getElem_cons_succ, Act.put, List.setIfInBounds_toArray, List.set_cons_succ, List.set_cons_zero]
  refine wpAnyH_take (i := 3) rfl (by kernel_rfl) (by kernel_rfl) (by kernel_rfl) (fun _ _ _ h => h) (.inl ⟨rfl, fun w' hw' => (by obtain ⟨q0, q1, q2, q3⟩ := HQ6.out w' hw'; clear hw'; go_simp; (try rfl))⟩) (Below.refl w4.heap.size w4).drew ?_
  simp only [List.getElem_toArray, List.getElem_cons_zero, List.getElem_cons_succ, Act.put, List.setIfInBounds_toArray, List.set_cons_succ, List.set_cons_zero]
  refine wpAnyH_take (i := 4) rfl (by kernel_rfl) (by kernel_rfl) (by kernel_rfl) (fun _ _ _ h => h) (.inl ⟨rfl, fun w' hw' => (by obtain ⟨q0, q1, q2, q3⟩ := HQ6.out w' hw'; clear hw'; go_simp; (try rfl))⟩) (Below.refl w4.heap.size w4).drew ?_
  simp only [List.getElem_toArray, List.getElem_cons_zero, List.getElem_cons_succ, Act.put, List.setIfInBounds_toArray, List.set_cons_succ, List.set_cons_zero]
  refine wpAnyH_take (i := 5) rfl (by kernel_rfl) (by kernel_rfl) (by kernel_rfl) (fun _ _ _ h => h) (.inl ⟨rfl, fun w' hw' => (by obtain ⟨q0, q1, q2, q3⟩ := HQ6.out w' hw'; clear hw'; go_simp; (try rfl))⟩) (Below.refl w4.heap.size w4).drew ?_
  simp only [List.getElem_toArray, List.getElem_cons_zero, List.getElem_cons_succ, Act.put, List.setIfInBounds_toArray, List.set_cons_succ, List.set_cons_zero]
  refine wpAnyH_take (i := 7) rfl (by kernel_rfl) (by kernel_rfl) (by kernel_rfl) (fun _ _ _ h => h) (.inl ⟨rfl, fun w' hw' => (by obtain ⟨q0, q1, q2, q3⟩ := HQ6.out w' hw'; clear hw'; go_simp; (try rfl))⟩) (Below.refl w4.heap.size w4).drew ?_
  simp only [List.getElem_toArray, List.getElem_cons_zero, List.getElem_cons_succ, Act.put, List.setIfInBounds_toArray, List.set_cons_succ, List.set_cons_zero]
  refine wpAnyH_take (i := 8) rfl (by kernel_rfl) (by kernel_rfl) (by kernel_rfl) (fun _ _ _ h => h) (.inl ⟨rfl, fun w' hw' => (by obtain ⟨q0, q1, q2, q3⟩ := HQ6.out w' hw'; clear hw'; go_simp; (try rfl))⟩) (Below.refl w4.heap.size w4).drew ?_
  simp only [List.getElem_toArray, List.getElem_cons_zero, List.getElem_cons_succ, Act.put, List.setIfInBounds_toArray, List.set_cons_succ, List.set_cons_zero]
  refine wpAnyH_free3 (fun old a0 l0 f l a w' => ∃ (fc0 fc1 fc2 : Bool) (fo0 fo1 : Option Nat) (g0 : Nat) (eA : Option Addr) (ec : Nat) (eC : Option Addr) (eM : Nat) (eD : Nat), f = 2 + (1 * (!fc0).toNat + (2 * (!fc1).toNat + (4 * (!fc2).toNat + (fo0.isNone.toNat + fo1.isNone.toNat)))) ∧ ((fc0 = false ∧ fc1 = false ∧ fc2 = false) ∨ (fc0 = true ∧ fc1 = false ∧ fc2 = false) ∨ (fc0 = true ∧ fc1 = true ∧ fc2 = false) ∨ (fc0 = true ∧ fc1 = true ∧ fc2 = true)) ∧ l = (((((((((l0.setIfInBounds 6 (fc0)).setIfInBounds 9 (fc1)).setIfInBounds 10 (fc1)).setIfInBounds 11 (fc2)).setIfInBounds 12 (fc2)).setIfInBounds 13 (fc2)).setIfInBounds 14 (fc2)).setIfInBounds 15 (fo0.isSome)).setIfInBounds 16 (fo1.isSome)) ∧ a = { tmps := (((((((((a0.tmps.setIfInBounds 33 (cond fc0 (.slice (some ⟨g0, 0, none⟩) 0 0) (old 33))).setIfInBounds 36 (cond fc1 (.slice eA n' ec) (old 36))).setIfInBounds 37 (cond fc1 (.agg #[.slice eA n' ec]) (old 37))).setIfInBounds 38 (cond fc2 (.tuple #[.agg #[.slice eC eM eD], .int .i64 me]) (old 38))).setIfInBounds 26 (cond fc2 (.tuple #[.agg #[.slice eC eM eD], .int .i64 me]) (old 26))).setIfInBounds 39 (cond fc2 (.agg #[.slice eC eM eD]) (old 39))).setIfInBounds 40 (cond fc2 (.int .i64 me) (old 40))).setIfInBounds 6 (ptrO (old 6) fo0)).setIfInBounds 7 (ptrO (old 7) fo1)), defers := a0.defers } ∧ Fw w4 1 [zO [.slice none 0 0] fo0, zO [.int .i64 0] fo1] w' ∧ (fc0 = true → fc1 = false → Blk w' g0 0 ∧ w'.ownsRow w4.heap.size 81 3 (.slice (some ⟨g0, 0, none⟩) 0 0) 0 ([].flatMap Ch.cells)) ∧ (fc1 = true → SqC w' w'.heap.size eA n' ec l4) ∧ (fc2 = true → SqR w' w'.heap.size eC eM eD X) ∧ True) 2 [(6, []), (9, [6]), (11, [9]), (15, []), (16, [])] ?_ ?_ ?_ 9 ?_
  · rintro old f l a wz ⟨fc0, fc1, fc2, fo0, fo1, g0, eA, ec, eC, eM, eD, hf, hch, rfl, -, -⟩
    rcases hch with ⟨rfl, rfl, rfl⟩ | ⟨rfl, rfl, rfl⟩ | ⟨rfl, rfl, rfl⟩ | ⟨rfl, rfl, rfl⟩ <;> rcases fo0 with _ | _ <;> rcases fo1 with _ | _ <;> first | (exfalso; simp at hf; done) | (exfalso; simp at hf; omega) | kernel_rfl
  · rintro old f l a wz IH ⟨fc0, fc1, fc2, fo0, fo1, g0, eA, ec, eC, eM, eD, hf, hch, rfl, rfl, hF, hp0, hp1, hp2, -⟩ jp hjp hn hq
    simp only [List.mem_cons, List.not_mem_nil, or_false] at hjp
    rcases hjp with rfl | rfl | rfl | rfl | rfl
    · have hc : fc0 = false := by clear hch hf hF IH hq; cases fc0 <;> first | rfl | exact absurd (show (false : Bool) = true from hn.symm.trans (by kernel_rfl)) (by decide)
      obtain ⟨rfl, rfl, rfl⟩ : fc0 = false ∧ fc1 = false ∧ fc2 = false := by rcases hch with h9 | h9 | h9 | h9 <;> simp_all
      clear hn hq hch hc
      refine wpOp_of rfl rfl (fun K hK => ?_)
      simp only [List.getElem_toArray, List.getElem_cons_zero, List.getElem_cons_succ, Act.put, List.setIfInBounds_toArray, List.set_cons_succ, List.set_cons_zero, cond_true, cond_false, List.getElem_toArray]
      refine wp_made0 rfl ?_
      have hb : Below wz.heap.size wz (wz.alloc (.cells #[] 81)) := (Below.refl _ _).alloc (Nat.le_refl _) _
      have hF2 := hF.call hb
      have ho := own_made0 wz w4.heap.size hF.below.size
      have hbk := Blk.new wz [] 81
      refine hK _ _ ⟨hF2.below, ?_⟩
      refine IH f _ _ _ (Nat.le_refl _) ⟨true, false, false, fo0, fo1, wz.heap.size, eA, ec, eC, eM, eD, ?_, (.inr (.inl ⟨rfl, rfl, rfl⟩)), ?_, ?_, hF2, (fun _ _ => ⟨hbk, ho⟩), (fun h9 => by cases h9), (fun h9 => by cases h9), trivial⟩
      · simp at hf ⊢; omega
      · kernel_rfl
      · kernel_rfl
    · have hc : fc1 = false := by clear hch hf hF IH hq; cases fc1 <;> first | rfl | exact absurd (show (false : Bool) = true from hn.symm.trans (by kernel_rfl)) (by decide)
      have hc2 : fc0 = true := by clear hch hf hF IH hn; cases fc0 <;> first | rfl | exact absurd (show (true : Bool) = false from hq.symm.trans (by kernel_rfl)) (by decide)
      obtain ⟨rfl, rfl, rfl⟩ : fc0 = true ∧ fc1 = false ∧ fc2 = false := by rcases hch with h9 | h9 | h9 | h9 <;> simp_all
      clear hn hq hch hc
      refine wpOp_of rfl rfl (fun K hK => ?_)
      simp only [List.getElem_toArray, List.getElem_cons_zero, List.getElem_cons_succ, Act.put, List.setIfInBounds_toArray, List.set_cons_succ, List.set_cons_zero, cond_true, cond_false, List.getElem_toArray]
      obtain ⟨i0, hi, hz, hz1, hz2⟩ := info_parts info_chg
      obtain ⟨hblk, hown0⟩ := hp0 rfl rfl
      refine wp_append_sq (.tmp 33) (.tmp 35) 34 rfl w4.heap.size 81 i0 _ _ Try.underlying34 hi hz hz1 hz2 (by simp [Value.cells]) (by omega) (.slice (some ⟨g0, 0, none⟩) 0 0) 0 [] rfl hown0 rfl (HS44.out wz hF.below) (ch_one l4) (by have := HN4.out; omega) (by omega) hF.below.size ?_
      intro v1 wy hown hg
      rw [Nat.zero_add] at hown
      obtain ⟨A9, c9, rfl⟩ := own_shape hown
      rw [List.nil_append] at hown
      have hF2 := hF.grown (g := g0) hg (hown0.lt g0 rfl).1 hblk (by omega)
      clear hi hz hz1 hz2
      obtain ⟨f2, rfl⟩ : ∃ f2, f = f2 + 1 := ⟨f - 1, by simp at hf; omega⟩
      refine hK _ _ ⟨hF2.below, ?_⟩
      rw [show 2 + (f2 + 1) = (2 + f2) + 1 from by omega]
      clear hK
      rcases fo0 with _ | ob0
      · rcases fo1 with _ | ob1
        · simp only [List.getElem_toArray, List.getElem_cons_zero, List.getElem_cons_succ, Act.put, List.setIfInBounds_toArray, List.set_cons_succ, List.set_cons_zero, cond_true, cond_false, List.getElem_toArray, Option.isSome_some, Option.isSome_none]
          refine wpAnyH_take (i := 10) rfl (by kernel_rfl) (by kernel_rfl) (by kernel_rfl) (fun _ _ _ h => h) (.inl ⟨rfl, fun w' hw' => (by clear hw'; go_simp; (try rfl))⟩) hF2.below ?_
          simp only [List.getElem_toArray, List.getElem_cons_zero, List.getElem_cons_succ, Act.put, List.setIfInBounds_toArray, List.set_cons_succ, List.set_cons_zero]
          refine IH f2 _ _ _ (by omega) ?_
          refine ⟨true, true, false, none, none, g0, A9, c9, eC, eM, eD, ?_, (.inr (.inr (.inl ⟨rfl, rfl, rfl⟩))), ?_, ?_, hF2, (fun _ h9 => by cases h9), (fun _ => own_sq hown ch_sz (by omega)), (fun h9 => by cases h9), trivial⟩
          · simp at hf ⊢; omega
          · kernel_rfl
          · kernel_rfl
        · simp only [List.getElem_toArray, List.getElem_cons_zero, List.getElem_cons_succ, Act.put, List.setIfInBounds_toArray, List.set_cons_succ, List.set_cons_zero, cond_true, cond_false, List.getElem_toArray, Option.isSome_some, Option.isSome_none]
          refine wpAnyH_take (i := 10) rfl (by kernel_rfl) (by kernel_rfl) (by kernel_rfl) (fun _ _ _ h => h) (.inl ⟨rfl, fun w' hw' => (by clear hw'; go_simp; (try rfl))⟩) hF2.below ?_
          simp only [List.getElem_toArray, List.getElem_cons_zero, List.getElem_cons_succ, Act.put, List.setIfInBounds_toArray, List.set_cons_succ, List.set_cons_zero]
          refine IH f2 _ _ _ (by omega) ?_
          refine ⟨true, true, false, none, some ob1, g0, A9, c9, eC, eM, eD, ?_, (.inr (.inr (.inl ⟨rfl, rfl, rfl⟩))), ?_, ?_, hF2, (fun _ h9 => by cases h9), (fun _ => own_sq hown ch_sz (by omega)), (fun h9 => by cases h9), trivial⟩
          · simp at hf ⊢; omega
          · kernel_rfl
          · kernel_rfl
      · rcases fo1 with _ | ob1
        · simp only [List.getElem_toArray, List.getElem_cons_zero, List.getElem_cons_succ, Act.put, List.setIfInBounds_toArray, List.set_cons_succ, List.set_cons_zero, cond_true, cond_false, List.getElem_toArray, Option.isSome_some, Option.isSome_none]
          refine wpAnyH_take (i := 10) rfl (by kernel_rfl) (by kernel_rfl) (by kernel_rfl) (fun _ _ _ h => h) (.inl ⟨rfl, fun w' hw' => (by clear hw'; go_simp; (try rfl))⟩) hF2.below ?_
          simp only [List.getElem_toArray, List.getElem_cons_zero, List.getElem_cons_succ, Act.put, List.setIfInBounds_toArray, List.set_cons_succ, List.set_cons_zero]
          refine IH f2 _ _ _ (by omega) ?_
          refine ⟨true, true, false, some ob0, none, g0, A9, c9, eC, eM, eD, ?_, (.inr (.inr (.inl ⟨rfl, rfl, rfl⟩))), ?_, ?_, hF2, (fun _ h9 => by cases h9), (fun _ => own_sq hown ch_sz (by omega)), (fun h9 => by cases h9), trivial⟩
          · simp at hf ⊢; omega
          · kernel_rfl
          · kernel_rfl
        · simp only [List.getElem_toArray, List.getElem_cons_zero, List.getElem_cons_succ, Act.put, List.setIfInBounds_toArray, List.set_cons_succ, List.set_cons_zero, cond_true, cond_false, List.getElem_toArray, Option.isSome_some, Option.isSome_none]
          refine wpAnyH_take (i := 10) rfl (by kernel_rfl) (by kernel_rfl) (by kernel_rfl) (fun _ _ _ h => h) (.inl ⟨rfl, fun w' hw' => (by clear hw'; go_simp; (try rfl))⟩) hF2.below ?_
          simp only [List.getElem_toArray, List.getElem_cons_zero, List.getElem_cons_succ, Act.put, List.setIfInBounds_toArray, List.set_cons_succ, List.set_cons_zero]
          refine IH f2 _ _ _ (by omega) ?_
          refine ⟨true, true, false, some ob0, some ob1, g0, A9, c9, eC, eM, eD, ?_, (.inr (.inr (.inl ⟨rfl, rfl, rfl⟩))), ?_, ?_, hF2, (fun _ h9 => by cases h9), (fun _ => own_sq hown ch_sz (by omega)), (fun h9 => by cases h9), trivial⟩
          · simp at hf ⊢; omega
          · kernel_rfl
          · kernel_rfl
    · have hc : fc2 = false := by clear hch hf hF IH hq; cases fc2 <;> first | rfl | exact absurd (show (false : Bool) = true from hn.symm.trans (by kernel_rfl)) (by decide)
      have hc2 : fc1 = true := by clear hch hf hF IH hn; cases fc1 <;> first | rfl | exact absurd (show (true : Bool) = false from hq.symm.trans (by kernel_rfl)) (by decide)
      obtain ⟨rfl, rfl, rfl⟩ : fc0 = true ∧ fc1 = true ∧ fc2 = false := by rcases hch with h9 | h9 | h9 | h9 <;> simp_all
      clear hn hq hch hc
      refine wpOp_of rfl rfl (fun K hK => ?_)
      simp only [List.getElem_toArray, List.getElem_cons_zero, List.getElem_cons_succ, Act.put, List.setIfInBounds_toArray, List.set_cons_succ, List.set_cons_zero, cond_true, cond_false, List.getElem_toArray]
      refine wp_fn (f := 19) (xs := #[.agg #[.slice D1 n1 d1], .agg #[.slice D2 n2 d2], .agg #[.slice D3 n3 d3], .agg #[.slice eA n' ec]]) (by first | (go_simp; done) | (go_simp; rfl)) ((HMG.out wz _ _ _ _ _ _ _ _ (HD1.out _ hF.below) (HD2.out _ hF.below) (HD3.out _ hF.below) (hp1 rfl)).mono ?_)
      rintro e wy ⟨⟨C9, m9, d9, rfl, hs9⟩, hb⟩
      refine ⟨_, rfl, ?_⟩
      have hF2 := hF.call hb
      obtain ⟨f2, rfl⟩ : ∃ f2, f = f2 + 3 := ⟨f - 3, by simp at hf; omega⟩
      refine hK _ _ ⟨hF2.below, ?_⟩
      rw [show 2 + (f2 + 3) = (2 + f2) + 1 + 1 + 1 from by omega]
      clear hK
      rcases fo0 with _ | ob0
      · rcases fo1 with _ | ob1
        · simp only [List.getElem_toArray, List.getElem_cons_zero, List.getElem_cons_succ, Act.put, List.setIfInBounds_toArray, List.set_cons_succ, List.set_cons_zero, cond_true, cond_false, List.getElem_toArray, Option.isSome_some, Option.isSome_none]
          refine wpAnyH_take (i := 12) rfl (by kernel_rfl) (by kernel_rfl) (by kernel_rfl) (fun _ _ _ h => h) (.inl ⟨rfl, fun w' hw' => (by clear hw'; go_simp; (try rfl))⟩) hF2.below ?_
          simp only [List.getElem_toArray, List.getElem_cons_zero, List.getElem_cons_succ, Act.put, List.setIfInBounds_toArray, List.set_cons_succ, List.set_cons_zero]
          refine wpAnyH_take (i := 13) rfl (by kernel_rfl) (by kernel_rfl) (by kernel_rfl) (fun _ _ _ h => h) (.inl ⟨rfl, fun w' hw' => (by clear hw'; go_simp; (try rfl))⟩) hF2.below ?_
          simp only [List.getElem_toArray, List.getElem_cons_zero, List.getElem_cons_succ, Act.put, List.setIfInBounds_toArray, List.set_cons_succ, List.set_cons_zero]
          refine wpAnyH_take (i := 14) rfl (by kernel_rfl) (by kernel_rfl) (by kernel_rfl) (fun _ _ _ h => h) (.inl ⟨rfl, fun w' hw' => (by clear hw'; go_simp; (try rfl))⟩) hF2.below ?_
          simp only [List.getElem_toArray, List.getElem_cons_zero, List.getElem_cons_succ, Act.put, List.setIfInBounds_toArray, List.set_cons_succ, List.set_cons_zero]
          refine IH f2 _ _ _ (by omega) ?_
          refine ⟨true, true, true, none, none, g0, eA, ec, C9, m9, d9, ?_, (.inr (.inr (.inr (⟨rfl, rfl, rfl⟩)))), ?_, ?_, hF2, (fun _ h9 => by cases h9), (fun _ => (((hp1 rfl)).below hb).more hb.size), (fun _ => hs9), trivial⟩
          · simp at hf ⊢; omega
          · kernel_rfl
          · kernel_rfl
        · simp only [List.getElem_toArray, List.getElem_cons_zero, List.getElem_cons_succ, Act.put, List.setIfInBounds_toArray, List.set_cons_succ, List.set_cons_zero, cond_true, cond_false, List.getElem_toArray, Option.isSome_some, Option.isSome_none]
          refine wpAnyH_take (i := 12) rfl (by kernel_rfl) (by kernel_rfl) (by kernel_rfl) (fun _ _ _ h => h) (.inl ⟨rfl, fun w' hw' => (by clear hw'; go_simp; (try rfl))⟩) hF2.below ?_
          simp only [List.getElem_toArray, List.getElem_cons_zero, List.getElem_cons_succ, Act.put, List.setIfInBounds_toArray, List.set_cons_succ, List.set_cons_zero]
          refine wpAnyH_take (i := 13) rfl (by kernel_rfl) (by kernel_rfl) (by kernel_rfl) (fun _ _ _ h => h) (.inl ⟨rfl, fun w' hw' => (by clear hw'; go_simp; (try rfl))⟩) hF2.below ?_
          simp only [List.getElem_toArray, List.getElem_cons_zero, List.getElem_cons_succ, Act.put, List.setIfInBounds_toArray, List.set_cons_succ, List.set_cons_zero]
          refine wpAnyH_take (i := 14) rfl (by kernel_rfl) (by kernel_rfl) (by kernel_rfl) (fun _ _ _ h => h) (.inl ⟨rfl, fun w' hw' => (by clear hw'; go_simp; (try rfl))⟩) hF2.below ?_
          simp only [List.getElem_toArray, List.getElem_cons_zero, List.getElem_cons_succ, Act.put, List.setIfInBounds_toArray, List.set_cons_succ, List.set_cons_zero]
          refine IH f2 _ _ _ (by omega) ?_
          refine ⟨true, true, true, none, some ob1, g0, eA, ec, C9, m9, d9, ?_, (.inr (.inr (.inr (⟨rfl, rfl, rfl⟩)))), ?_, ?_, hF2, (fun _ h9 => by cases h9), (fun _ => (((hp1 rfl)).below hb).more hb.size), (fun _ => hs9), trivial⟩
          · simp at hf ⊢; omega
          · kernel_rfl
          · kernel_rfl
      · rcases fo1 with _ | ob1
        · simp only [List.getElem_toArray, List.getElem_cons_zero, List.getElem_cons_succ, Act.put, List.setIfInBounds_toArray, List.set_cons_succ, List.set_cons_zero, cond_true, cond_false, List.getElem_toArray, Option.isSome_some, Option.isSome_none]
          refine wpAnyH_take (i := 12) rfl (by kernel_rfl) (by kernel_rfl) (by kernel_rfl) (fun _ _ _ h => h) (.inl ⟨rfl, fun w' hw' => (by clear hw'; go_simp; (try rfl))⟩) hF2.below ?_
          simp only [List.getElem_toArray, List.getElem_cons_zero, List.getElem_cons_succ, Act.put, List.setIfInBounds_toArray, List.set_cons_succ, List.set_cons_zero]
          refine wpAnyH_take (i := 13) rfl (by kernel_rfl) (by kernel_rfl) (by kernel_rfl) (fun _ _ _ h => h) (.inl ⟨rfl, fun w' hw' => (by clear hw'; go_simp; (try rfl))⟩) hF2.below ?_
          simp only [List.getElem_toArray, List.getElem_cons_zero, List.getElem_cons_succ, Act.put, List.setIfInBounds_toArray, List.set_cons_succ, List.set_cons_zero]
          refine wpAnyH_take (i := 14) rfl (by kernel_rfl) (by kernel_rfl) (by kernel_rfl) (fun _ _ _ h => h) (.inl ⟨rfl, fun w' hw' => (by clear hw'; go_simp; (try rfl))⟩) hF2.below ?_
          simp only [List.getElem_toArray, List.getElem_cons_zero, List.getElem_cons_succ, Act.put, List.setIfInBounds_toArray, List.set_cons_succ, List.set_cons_zero]
          refine IH f2 _ _ _ (by omega) ?_
          refine ⟨true, true, true, some ob0, none, g0, eA, ec, C9, m9, d9, ?_, (.inr (.inr (.inr (⟨rfl, rfl, rfl⟩)))), ?_, ?_, hF2, (fun _ h9 => by cases h9), (fun _ => (((hp1 rfl)).below hb).more hb.size), (fun _ => hs9), trivial⟩
          · simp at hf ⊢; omega
          · kernel_rfl
          · kernel_rfl
        · simp only [List.getElem_toArray, List.getElem_cons_zero, List.getElem_cons_succ, Act.put, List.setIfInBounds_toArray, List.set_cons_succ, List.set_cons_zero, cond_true, cond_false, List.getElem_toArray, Option.isSome_some, Option.isSome_none]
          refine wpAnyH_take (i := 12) rfl (by kernel_rfl) (by kernel_rfl) (by kernel_rfl) (fun _ _ _ h => h) (.inl ⟨rfl, fun w' hw' => (by clear hw'; go_simp; (try rfl))⟩) hF2.below ?_
          simp only [List.getElem_toArray, List.getElem_cons_zero, List.getElem_cons_succ, Act.put, List.setIfInBounds_toArray, List.set_cons_succ, List.set_cons_zero]
          refine wpAnyH_take (i := 13) rfl (by kernel_rfl) (by kernel_rfl) (by kernel_rfl) (fun _ _ _ h => h) (.inl ⟨rfl, fun w' hw' => (by clear hw'; go_simp; (try rfl))⟩) hF2.below ?_
          simp only [List.getElem_toArray, List.getElem_cons_zero, List.getElem_cons_succ, Act.put, List.setIfInBounds_toArray, List.set_cons_succ, List.set_cons_zero]
          refine wpAnyH_take (i := 14) rfl (by kernel_rfl) (by kernel_rfl) (by kernel_rfl) (fun _ _ _ h => h) (.inl ⟨rfl, fun w' hw' => (by clear hw'; go_simp; (try rfl))⟩) hF2.below ?_
          simp only [List.getElem_toArray, List.getElem_cons_zero, List.getElem_cons_succ, Act.put, List.setIfInBounds_toArray, List.set_cons_succ, List.set_cons_zero]
          refine IH f2 _ _ _ (by omega) ?_
          refine ⟨true, true, true, some ob0, some ob1, g0, eA, ec, C9, m9, d9, ?_, (.inr (.inr (.inr (⟨rfl, rfl, rfl⟩)))), ?_, ?_, hF2, (fun _ h9 => by cases h9), (fun _ => (((hp1 rfl)).below hb).more hb.size), (fun _ => hs9), trivial⟩
          · simp at hf ⊢; omega
          · kernel_rfl
          · kernel_rfl
    · have hc : fo0 = none := by clear hch hf hF IH hq; cases fo0 <;> first | rfl | exact absurd (show (false : Bool) = true from hn.symm.trans (by kernel_rfl)) (by decide)
      subst hc
      clear hn hq
      refine wpOp_of rfl rfl (fun K hK => ?_)
      simp only [List.getElem_toArray, List.getElem_cons_zero, List.getElem_cons_succ, Act.put, List.setIfInBounds_toArray, List.set_cons_succ, List.set_cons_zero, cond_true, cond_false, List.getElem_toArray]
      refine wp_alloc_as _ rfl _ zero_map ?_
      have hb : Below wz.heap.size wz (wz.alloc (.cells [.slice none 0 0].toArray 24)) := (Below.refl _ _).alloc (Nat.le_refl _) _
      refine hK _ _ ⟨(hF.alloc 0 [.slice none 0 0] 24 rfl).below, IH f _ _ _ (Nat.le_refl _) ⟨fc0, fc1, fc2, some wz.heap.size, fo1, g0, eA, ec, eC, eM, eD, ?_, hch, ?_, ?_, hF.alloc 0 [.slice none 0 0] 24 rfl, (fun h9 h8 => ⟨((hp0 h9 h8)).1.keep (hb.block _ ((hp0 h9 h8)).1.lt), own_below ((hp0 h9 h8)).2 hb⟩), (fun h9 => (((hp1 h9)).below hb).more hb.size), (fun h9 => (((hp2 h9)).below hb).more hb.size), trivial⟩⟩
      · simp at hf ⊢; omega
      · kernel_rfl
      · kernel_rfl
    · have hc : fo1 = none := by clear hch hf hF IH hq; cases fo1 <;> first | rfl | exact absurd (show (false : Bool) = true from hn.symm.trans (by kernel_rfl)) (by decide)
      subst hc
      clear hn hq
      refine wpOp_of rfl rfl (fun K hK => ?_)
      simp only [List.getElem_toArray, List.getElem_cons_zero, List.getElem_cons_succ, Act.put, List.setIfInBounds_toArray, List.set_cons_succ, List.set_cons_zero, cond_true, cond_false, List.getElem_toArray]
      refine wp_alloc_err rfl ?_
      have hb : Below wz.heap.size wz (wz.alloc (.cells [.int .i64 0].toArray 31)) := (Below.refl _ _).alloc (Nat.le_refl _) _
      refine hK _ _ ⟨(hF.alloc 1 [.int .i64 0] 31 rfl).below, IH f _ _ _ (Nat.le_refl _) ⟨fc0, fc1, fc2, fo0, some wz.heap.size, g0, eA, ec, eC, eM, eD, ?_, hch, ?_, ?_, hF.alloc 1 [.int .i64 0] 31 rfl, (fun h9 h8 => ⟨((hp0 h9 h8)).1.keep (hb.block _ ((hp0 h9 h8)).1.lt), own_below ((hp0 h9 h8)).2 hb⟩), (fun h9 => (((hp1 h9)).below hb).more hb.size), (fun h9 => (((hp2 h9)).below hb).more hb.size), trivial⟩⟩
      · simp at hf ⊢; omega
      · kernel_rfl
      · kernel_rfl
  · rintro old l a wz ⟨fc0, fc1, fc2, fo0, fo1, g0, eA, ec, eC, eM, eD, hf, hch, rfl, rfl, hF, hp0, hp1, hp2, -⟩
    obtain rfl := nat0 (c := fc0) (by omega)
    obtain rfl := nat0 (c := fc1) (by omega)
    obtain rfl := nat0 (c := fc2) (by omega)
    obtain ⟨b0, rfl⟩ := opt0 (o := fo0) (by omega)
    obtain ⟨b1, rfl⟩ := opt0 (o := fo1) (by omega)
    simp only [List.getElem_toArray, List.getElem_cons_zero, List.getElem_cons_succ, Act.put, List.setIfInBounds_toArray, List.set_cons_succ, List.set_cons_zero, cond_true, cond_false, List.getElem_toArray, ptrO, Option.isSome_some]
    clear hf hch
    clear hp0
    have hp1 := hp1 rfl
    have hp2 := hp2 rfl
    have F0 : Hid (Fw w4 1 [some (b0, [.slice none 0 0]), some (b1, [.int .i64 0])] wz) := Lib.hid hF
    clear hF
    obtain ⟨wz0, hw0⟩ : ∃ w9, World.setCells wz b0 0 [.slice eC eM eD] = w9 := ⟨_, rfl⟩
    have F1 : Hid (Fw w4 1 [some (b0, [.slice eC eM eD]), some (b1, [.int .i64 0])] wz0) := Lib.hid (by rw [← hw0]; exact F0.out.store 0 b0 rfl [.slice eC eM eD] rfl)
    refine wpAnyH_ready (rs := [17]) (by kernel_rfl) (by simp) (AllReadyH.cons rfl (fun K hK => ?_) AllReadyH.nil)
    rw [if_pos (by rfl)]
    refine wp_store_as _ _ _ rfl b0 0 [.slice eC eM eD] rfl rfl (F0.out.there 0 b0 rfl) (size_map _ _ _) rfl hw0 ?_
    refine hK.out _ _ F1.out.below (fun _ => ?_)
    simp only [List.getElem_toArray, List.getElem_cons_zero, List.getElem_cons_succ, Act.put, List.setIfInBounds_toArray, List.set_cons_succ, List.set_cons_zero]
    obtain ⟨wz1, hw1⟩ : ∃ w9, World.setCells wz0 b1 0 [.int .i64 me] = w9 := ⟨_, rfl⟩
    have F2 : Hid (Fw w4 1 [some (b0, [.slice eC eM eD]), some (b1, [.int .i64 me])] wz1) := Lib.hid (by rw [← hw1]; exact F1.out.store 1 b1 rfl [.int .i64 me] rfl)
    refine wpAnyH_ready (rs := [18]) (by kernel_rfl) (by simp) (AllReadyH.cons rfl (fun K hK => ?_) AllReadyH.nil)
    rw [if_pos (by rfl)]
    refine wp_store_err _ _ rfl b1 _ rfl rfl ((F1.out.fr.bx 1 b1 _ rfl).1.cell (j := 0) rfl) ((F1.out.fr.bx 1 b1 _ rfl).1.frozen (j := 0) (by omega)) hw1 ?_
    refine hK.out _ _ F2.out.below (fun _ => ?_)
    simp only [List.getElem_toArray, List.getElem_cons_zero, List.getElem_cons_succ, Act.put, List.setIfInBounds_toArray, List.set_cons_succ, List.set_cons_zero]
    refine wpAnyH_done (by kernel_rfl) ?_ _
    refine NoPanic.normal ?_
    have hoff0 := fun hn => F0.out.off 0 b0 rfl hp2 rw_noslice (by omega) hn
    have hoff1 := fun hn => F0.out.off 1 b1 rfl hp2 rw_noint (by omega) hn
    have HSX : Hid (SqR wz1 wz1.heap.size eC eM eD X) := Lib.hid (by rw [← hw1, ← hw0]; exact (hp2.put_ _ hoff0).put_ _ hoff1)
    clear hw0 hw1 F0 F1 hp1 hp2 hoff0 hoff1
    generalize wz1 = w5 at F2 HSX ⊢
    have HF := F2
    have F9 := HF.out
    have G5 := Lib.hid (G4.out.trans (F9.below.mono G4.out.size))
    have y0 := (F9.fr.bx 0 b0 _ rfl).1
    have y1 := (F9.fr.bx 1 b1 _ rfl).1
    have HB : Hid (∀ W, Below w5.heap.size w5 W → W.cell? ⟨b0, 0, none⟩ = some (.slice eC eM eD) ∧ W.cell? ⟨b1, 0, none⟩ = some (.int .i64 me)) := Lib.hid fun W hW => ⟨(y0.below hW y0.lt).cell (j := 0) rfl, (y1.below hW y1.lt).cell (j := 0) rfl⟩
    have hxl := HSX.out.len
    have HXL := Lib.hid hxl
    clear F9 HF y0 y1 HQ6 HS44 HZ HD1 HD2 HD3 HMG hxl
    obtain ⟨q0, q1, q2, q3⟩ := HQ.out _ G5.out
    go_wp2_with fail
    refine (HRT.out _ G5.out).mono ?_
    rintro e w7 ⟨rfl, hb7⟩
    have B57 := Lib.hid hb7
    have G7 := Lib.hid (G5.out.trans (hb7.mono G5.out.size))
    clear hb7 q0 q1 q2 q3 HRT
    cases rq
    case false =>
      have em : me = 150 := HME.out
      have eX : X = [] := by rw [← HXE.out, if_neg (by omega)]
      have e0 : eM = 0 := by rw [← HXL.out, eX]; rfl
      obtain ⟨y0, y1⟩ := HB.out _ B57.out
      have HNO := Lib.hid (no_any y1 y0 150)
      go_wp2_with fail
      refine HNO.out.mono ?_
      rintro e wn ⟨rfl, rfl⟩
      go_wp2_with fail
      go_ret
      exact ⟨by first | rfl | simp [em, e0] | (rw [em, e0]; rfl), B0.out.trans (G7.out.mono B0.out.size)⟩
    obtain ⟨q0, q1, q2, q3⟩ := HQ.out _ G7.out
    go_wp2_with fail
    refine (HRE.out _ G7.out).mono ?_
    rintro e w8 ⟨rfl, hb8⟩
    have B58 := Lib.hid (B57.out.trans (hb8.mono B57.out.size))
    have G8 := Lib.hid (G7.out.trans (hb8.mono G7.out.size))
    clear hb8 q0 q1 q2 q3 HRE
    cases rc
    case false =>
      have em : me = 151 := HME.out
      have eX : X = [] := by rw [← HXE.out, if_neg (by omega)]
      have e0 : eM = 0 := by rw [← HXL.out, eX]; rfl
      obtain ⟨y0, y1⟩ := HB.out _ B58.out
      have HNO := Lib.hid (no_any y1 y0 151)
      go_wp2_with fail
      refine HNO.out.mono ?_
      rintro e wn ⟨rfl, rfl⟩
      go_wp2_with fail
      go_ret
      exact ⟨by first | rfl | simp [em, e0] | (rw [em, e0]; rfl), B0.out.trans (G8.out.mono B0.out.size)⟩
    obtain ⟨q0, q1, q2, q3⟩ := HQ.out _ G8.out
    have hbz := Below.refl w8.heap.size w8
    go_upto_region 12 with fail
    go_region_held3 (fun w' => w'.cell? ⟨w.heap.size, 0, none⟩ = some (.slice A1 n1 c1) ∧ w'.cell? ⟨w.heap.size, 1, none⟩ = some (.slice A2 n2 c2) ∧ w'.cell? ⟨w.heap.size, 2, none⟩ = some (.slice A3 n3 c3) ∧ w'.cell? ⟨w.heap.size + 1, 0, none⟩ = some (.slice A' n' c') ∧ Below w8.heap.size w8 w')
      (first | exact ⟨q0, q1, q2, q3, hbz.drew⟩ | with_reducible exact K1.out | with_reducible exact K2.out | fail)
      (first
        | (go_at_call 15; have T := HRC.out _ (G8.out.trans (hbz.drew.mono G8.out.size)); with_reducible refine Calls.mono T ?_; clear T; rintro e wa ⟨⟨Aa, na, ca, rfl, hsa⟩, hb4⟩; have hb5 := (show Below w8.heap.size w8 wa from hbz.drew.trans (hb4.mono hbz.drew.size)); have hGa := G8.out.trans (hb5.mono G8.out.size); have K1 := Lib.hid (show wa.cell? ⟨w.heap.size, 0, none⟩ = some (.slice A1 n1 c1) ∧ wa.cell? ⟨w.heap.size, 1, none⟩ = some (.slice A2 n2 c2) ∧ wa.cell? ⟨w.heap.size, 2, none⟩ = some (.slice A3 n3 c3) ∧ wa.cell? ⟨w.heap.size + 1, 0, none⟩ = some (.slice A' n' c') ∧ Below w8.heap.size w8 wa from ⟨(HQ.out _ hGa).1, (HQ.out _ hGa).2.1, (HQ.out _ hGa).2.2.1, (HQ.out _ hGa).2.2.2, hb5⟩); have HSA := Lib.hid hsa; have hna : na ≤ 3000 := (by rw [← hsa.len]; exact HLL.out); clear hb4 hb5 hsa hGa)
        | (go_at_call 22; have T := refFits_any HSA.out (by omega) (HS4.out _ (G8.out.trans (K1.out.2.2.2.2.mono G8.out.size))) (by have := HN4.out; omega); rw [HFE.out] at T; with_reducible refine Calls.mono T ?_; clear T; rintro e wb ⟨rfl, hb4⟩; have hb5 := (show Below w8.heap.size w8 wb from K1.out.2.2.2.2.trans (hb4.mono K1.out.2.2.2.2.size)); have hGa := G8.out.trans (hb5.mono G8.out.size); have K2 := Lib.hid (show wb.cell? ⟨w.heap.size, 0, none⟩ = some (.slice A1 n1 c1) ∧ wb.cell? ⟨w.heap.size, 1, none⟩ = some (.slice A2 n2 c2) ∧ wb.cell? ⟨w.heap.size, 2, none⟩ = some (.slice A3 n3 c3) ∧ wb.cell? ⟨w.heap.size + 1, 0, none⟩ = some (.slice A' n' c') ∧ Below w8.heap.size w8 wb from ⟨(HQ.out _ hGa).1, (HQ.out _ hGa).2.1, (HQ.out _ hGa).2.2.1, (HQ.out _ hGa).2.2.2, hb5⟩); clear hb4 hb5 hGa)
        | fail)
    have B59 := Lib.hid (B58.out.trans (K2.out.2.2.2.2.mono B58.out.size))
    have G9 := Lib.hid (G8.out.trans (K2.out.2.2.2.2.mono G8.out.size))
    obtain ⟨w9, hw9⟩ : ∃ w9, w9 = wb := ⟨_, rfl⟩
    rw [← hw9] at B59 G9 ⊢
    clear hw9 q0 q1 q2 q3 K1 K2 HSA hna hbz HRC
    cases eq
    case false =>
      have em : me = 170 := HME.out
      have eX : X = [] := by rw [← HXE.out, if_neg (by omega)]
      have e0 : eM = 0 := by rw [← HXL.out, eX]; rfl
      obtain ⟨y0, y1⟩ := HB.out _ B59.out
      have HNO := Lib.hid (no_any y1 y0 170)
      go_wp2_with fail
      refine HNO.out.mono ?_
      rintro e wn ⟨rfl, rfl⟩
      go_wp2_with fail
      go_ret
      exact ⟨by first | rfl | simp [em, e0] | (rw [em, e0]; rfl), B0.out.trans (G9.out.mono B0.out.size)⟩
    have hZ := HZE.out rfl
    obtain ⟨q0, q1, q2, q3⟩ := HQ.out _ G9.out
    go_wp2_with fail
    refine (HRM.out _ G9.out).mono ?_
    rintro e u10 ⟨⟨A9, n9, c9, rfl, hs9⟩, hb10⟩
    have R10 := Lib.hid hs9
    have hlz := hs9.len
    have BU := Lib.hid (B59.out.trans (hb10.mono B59.out.size))
    have GU := Lib.hid (G9.out.trans (hb10.mono G9.out.size))
    clear hs9 hb10 q0 q1 q2 q3 HRM
    go_upto_region 15 with fail
    obtain ⟨w10, hw10⟩ : ∃ w10, u10.alloc (.cells #[.slice A9 n9 c9] 24) = w10 := ⟨_, rfl⟩
    rw [hw10]
    have C10 : Hid (Below u10.heap.size u10 w10) := Lib.hid (by rw [← hw10]; exact (Below.refl _ _).alloc (Nat.le_refl _) _)
    have Y10 : Hid (Lies w10 u10.heap.size 1 [.slice A9 n9 c9]) := Lib.hid (by rw [← hw10]; exact Lies.new u10 [.slice A9 n9 c9] 24)
    obtain ⟨M10, hM10⟩ : ∃ M, u10.heap.size = M := ⟨_, rfl⟩
    have S10 := Lib.hid ((R10.out.below C10.out).more C10.out.size)
    have G10 := Lib.hid (GU.out.trans (C10.out.mono GU.out.size))
    have B10 := Lib.hid (BU.out.trans (C10.out.mono BU.out.size))
    rw [hM10] at Y10 ⊢
    clear hw10 hM10 C10 R10 GU BU
    have y10 := Y10.out.cell (j := 0) rfl
    have h9 : me = if 32 < Z.length then 6 else 0 := by rw [HME.out, hZ]; rfl
    by_cases h32 : 32 < n9
    · have d32 : decide (32 < (n9 : Int)) = true := by simp; omega
      have d33 : decide ((n9 : Int) > 32) = true := by simp; omega
      have em : me = 6 := by rw [h9, if_pos (by omega)]
      clear h9 hlz hZ
      have eX : X = [] := by rw [← HXE.out, if_neg (by omega)]
      have e0 : eM = 0 := by rw [← HXL.out, eX]; rfl
      obtain ⟨y0, y1⟩ := HB.out _ B10.out
      have HNO := Lib.hid (no_any y1 y0 6)
      go_wp2_with fail
      refine HNO.out.mono ?_
      rintro e wn ⟨rfl, rfl⟩
      go_wp2_with fail
      go_ret
      exact ⟨by first | rfl | simp [em, e0] | (rw [em, e0]; rfl), B0.out.trans (G10.out.mono B0.out.size)⟩
    · have d32 : decide (32 < (n9 : Int)) = false := by simp; omega
      have d33 : decide ((n9 : Int) > 32) = false := by simp; omega
      have em : me = 0 := by rw [h9, if_neg (by omega)]
      have hXZ : X = Z := by rw [← HXE.out, if_pos em, hZ]
      subst em
      subst hXZ
      have dz : ((0 : Int) == 0) = true := rfl
      obtain ⟨y0, y1⟩ := HB.out _ B10.out
      have raw_S := refSame_any ((HSX.out.below B10.out).more B10.out.size) S10.out (by have := HXL.out; omega)
      rw [same_eq (rfl : X = X)] at raw_S
      have HSM := Lib.hid raw_S
      clear raw_S h9 hZ hlz HME HXE HZE HXL S10 Y10
      go_wp2_with fail
      refine HSM.out.mono ?_
      rintro e w11 ⟨rfl, hb11⟩
      have G11 := Lib.hid (G10.out.trans (hb11.mono G10.out.size))
      clear hb11
      go_wp2_with fail
      go_ret
      exact ⟨rfl, B0.out.trans (G11.out.mono B0.out.size)⟩
  · exact ⟨false, false, false, none, none, 0, none, 0, none, 0, 0, rfl, .inl ⟨rfl, rfl, rfl⟩, by kernel_rfl, by kernel_rfl, Fw.start 1 _ (by intro i x; rcases i with _ | _ | _ | _ | _ | i <;> simp [zO]) (Below.refl w4.heap.size w4).drew, (fun h9 => by cases h9), (fun h9 => by cases h9), (fun h9 => by cases h9), trivial⟩

theorem own : ownKnob Try.prog.godebug = none := by kernel_rfl
theorem laidOut : laidOutB Try.prog = true := by kernel_rfl

set_option maxRecDepth 100000 in
theorem lifted (os : Os) (started : os.Started) (H : Type) (enc : TypeId × Value → H) :
    ReturnsInHanded {} Try.checked os 4 .any (Rows.mergeMergesSpec.pre6 enc Try.prog Try.f4 Rows.mergeMergesRow.domain false) (Rows.mergeMergesSpec.post enc Try.prog Try.f4 false true false false) := by
  refine returnsInHanded_of_change (C := Try.checked) own started (by kernel_rfl) Try.func4
    (ChangeSpec.witness6 (enc := enc) (C := Try.checked) false ⟨#[], #[.agg #[.slice none 0 0, .slice none 0 0, .slice none 0 0], .agg #[.slice none 0 0]], []⟩ 8 (by kernel_rfl) (by kernel_rfl) (by kernel_rfl) (by kernel_rfl)) ?_
  intro W base args ds gs before hval0 hW hcnd _
  have hval : ∀ (j : Nat) t v, Try.f4.params[j]? = some t → args[j]? = some v → Value.okWide Try.prog W .any base t v := hval0
  have hW' := hW
  obtain ⟨p, q, hA0, hV, rfl, hfz, hnd⟩ := hW
  have hA : DataW.TrodAll enc Try.prog W 0 (fun _ => true) true Try.f4.params.toList args.toList ds p := hA0
  rw [Try.params4] at hA hval
  obtain ⟨v0, vs0, d0, ds0, p0, q0, hargs, rfl, rfl, h0, r0⟩ := trodAll_cons hA
  obtain ⟨v1, vs1, d1, ds1, p1, q1, rfl, rfl, rfl, h1, r1⟩ := trodAll_cons r0
  obtain ⟨rfl, rfl, rfl⟩ := trodAll_nil r1
  obtain rfl : args = #[v0, v1] := by cases args; simp_all
  obtain ⟨rfl, rfl⟩ := trodVars_none hV
  have k0 := h0
  have lt0 : ∀ x ∈ p0, x.block < W.heap.size := by obtain ⟨m, hm⟩ := k0; exact DataW.trod_lt m _ _ _ hm
  obtain ⟨A0, n0, c0, l0, A0b, n0b, c0b, l0b, A0c, n0c, c0c, l0c, rfl, s0a, s0b, s0c⟩ := three_arg (hval 0 26 v0 rfl rfl) h0
  have k1 := h1
  have lt1 : ∀ x ∈ p1, x.block < W.heap.size := by obtain ⟨m, hm⟩ := k1; exact DataW.trod_lt m _ _ _ hm
  obtain ⟨A1, n1, c1, l1, rfl, s1⟩ := edit_arg (hval 1 36 v1 rfl rfl) h1
  clear hA0 hval0
  refine (walk A0 n0 c0 l0 A0b n0b c0b l0b A0c n0c c0c l0c A1 n1 c1 l1 W s0a s0b s0c s1).mono fun e W' ⟨he, bel⟩ => ?_
  subst he
  exact ⟨_, rfl, _, _, _, [], _, [], hW', trodAll_mk1 (shut_bool Try.underlying4 _), (trodAll_cons_mk (Below.trod laidOut (by kernel_rfl) (of_decide_eq_true (by kernel_rfl)) k0 bel lt0) (trodAll_cons_mk (Below.trod laidOut (by kernel_rfl) (of_decide_eq_true (by kernel_rfl)) k1 bel lt1) trodAll_mk0)), rfl, bel.frame _, fun h => by cases h⟩

theorem over : Rows.mergeMergesRow.holds Try.pinned (OpenSpec.ofChange Rows.mergeMergesSpec) :=
  OpenClaim.holds_of_wide 4 Try.f4 rfl rfl rfl rfl rfl rfl rfl ⟨rfl, rfl, rfl, rfl, rfl⟩ rfl rfl rfl rfl rfl (by kernel_rfl) Try.func4 (by kernel_rfl)
    (of_decide_eq_true (by kernel_rfl)) (by unfold Func.isWrapper; first | (rw [if_pos (by decide +kernel)]; kernel_rfl) | (rw [if_neg (by decide +kernel)]; exact ⟨rfl, rfl⟩))
    (fun os started H enc _ => lifted os started H enc)

theorem proved : Rows.MergeMergesSaid := over
#print axioms proved
end Go.Proofs.Ytkdmlffnkomdhaa.mergeMerges
