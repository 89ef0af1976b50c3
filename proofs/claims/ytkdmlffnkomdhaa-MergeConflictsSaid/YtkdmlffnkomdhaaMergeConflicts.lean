/-
  PROVED HERE: the conflicts of whatever maps are the document's, and so are the resolutions by one of the three: at every three maps and number.
-/
import Derived.Test.YtkdmlffnkomdhaaRh
import Derived.Test.YtkdmlffnkomdhaaSr
import Derived.Test.YtkdmlffnkomdhaaMt
import Derived.Test.YtkdmlffnkomdhaaMk
import Derived.Test.YtkdmlffnkomdhaaRows
import Derived.ProofKit
import Derived.OpenShut
import Derived.ChangeOld
import Derived.Carry
namespace Go.Proofs.Ytkdmlffnkomdhaa.mergeConflicts
open Go.ChangeShapes Go.WideShapes Go.ChangeAt Go.RowKit
set_option linter.unusedVariables false
set_option linter.unusedSimpArgs false
open Go.Deep
attribute [local irreducible] wpQuiet

theorem sameE_self (l : List Ch) : sameE l l = true := sameE_yes rfl fun j hj hj' => by simp [sameCh]
theorem cf_flat : Try.prog.stoodInHeld 43 = false := by kernel_rfl
theorem cf_guard : Try.prog.eqGuardType Try.prog.depth 43 = false := by kernel_rfl
theorem cf_fields : Try.prog.underlying 43 = some (.struct (Try.prog.fieldsOf 43)) := by kernel_rfl
theorem neq_cf (x : Pl) (w : World) : (binOp .neq 43 (plV x) (plV x)).run Try.prog w = .ok (.bool false) w := by
  rw [run_neq_struct, run_equalIn_agg w 9999 43 _ _ cf_fields cf_flat]
  have hs := Try.underlying9
  have hd := Try.underlying41
  have e0 : (9999 : Nat) = 9997 + 2 := rfl
  have h1 := eq_sds 9997 x.b x.b w
  have h2 := eq_sds 9997 x.o x.o w
  have h3 := eq_sds 9997 x.t x.t w
  rw [sameSd_refl] at h1 h2 h3
  simp only [Program.fieldsOf, Try.underlying43]
  have c1 : Try.prog.cellsOf 41 = 2 := by kernel_rfl
  have c0 : Try.prog.cellsOf 9 = 1 := by kernel_rfl
  simp [Op.eqFields, part, isAgg, Sem.run_bind, run_underlying hs, run_underlying hd, run_equalIn_string, hs, hd, h1, h2, h3, c0, c1]

set_option maxRecDepth 100000 in
set_option maxHeartbeats 8000000 in
theorem walk (A1 : Option Addr) (n1 c1 : Nat) (l1 : List Rw) (A2 : Option Addr) (n2 c2 : Nat) (l2 : List Rw) (A3 : Option Addr) (n3 c3 : Nat) (l3 : List Rw) (wh : Int) (w : World) (h1 : SqR w w.heap.size A1 n1 c1 l1) (h2 : SqR w w.heap.size A2 n2 c2 l2) (h3 : SqR w w.heap.size A3 n3 c3 l3) :
    Calls Try.prog 3 #[.agg #[.slice A1 n1 c1, .slice A2 n2 c2, .slice A3 n3 c3], .int .i64 wh] w fun e w' => e = .returned (.bool true) ∧ Below w.heap.size w w' := by
  obtain ⟨w0, hw0⟩ : ∃ w0, w.alloc (.cells #[.slice A1 n1 c1, .slice A2 n2 c2, .slice A3 n3 c3] 26) = w0 := ⟨_, rfl⟩
  have B0 : Hid (Below w.heap.size w w0) := Lib.hid (by rw [← hw0]; exact (Below.refl _ _).alloc (Nat.le_refl _) _)
  have X0 : Hid (Lies w0 w.heap.size 3 [.slice A1 n1 c1, .slice A2 n2 c2, .slice A3 n3 c3]) := Lib.hid (by rw [← hw0]; exact Lies.new w [.slice A1 n1 c1, .slice A2 n2 c2, .slice A3 n3 c3] 26)
  have HS1 : Hid (∀ W, Below w0.heap.size w0 W → SqR W W.heap.size A1 n1 c1 l1) := Lib.hid fun W hW => (h1.below (B0.out.trans (hW.mono B0.out.size))).more (Nat.le_trans B0.out.size hW.size)
  have HS2 : Hid (∀ W, Below w0.heap.size w0 W → SqR W W.heap.size A2 n2 c2 l2) := Lib.hid fun W hW => (h2.below (B0.out.trans (hW.mono B0.out.size))).more (Nat.le_trans B0.out.size hW.size)
  have HS3 : Hid (∀ W, Below w0.heap.size w0 W → SqR W W.heap.size A3 n3 c3 l3) := Lib.hid fun W hW => (h3.below (B0.out.trans (hW.mono B0.out.size))).more (Nat.le_trans B0.out.size hW.size)
  have HQ : Hid (∀ W, Below w0.heap.size w0 W → W.cell? ⟨w.heap.size, 0, none⟩ = some (.slice A1 n1 c1) ∧ W.cell? ⟨w.heap.size, 1, none⟩ = some (.slice A2 n2 c2) ∧ W.cell? ⟨w.heap.size, 2, none⟩ = some (.slice A3 n3 c3)) := Lib.hid fun W hW =>
    ⟨(X0.out.below hW X0.out.lt).cell (j := 0) rfl, (X0.out.below hW X0.out.lt).cell (j := 1) rfl, (X0.out.below hW X0.out.lt).cell (j := 2) rfl⟩
  have HW := Lib.hid hw0
  clear hw0 h1 h2 h3 X0
  go_enter Try.func3, Try.ntmps3
  go_upto_region 1 with fail
  rw [HW.out]
  clear HW
  go_wp2_with fail
  refine (wakes_any w0).mono ?_
  rintro e wa ⟨rfl, hb1⟩
  have G1 := Lib.hid hb1
  clear hb1
  obtain ⟨q0, q1, q2⟩ := HQ.out _ G1.out
  go_wp2_with fail
  obtain ⟨wb, hw2⟩ : ∃ wb, wa.alloc (.cells #[.slice A1 n1 c1, .slice A2 n2 c2, .slice A3 n3 c3] 24) = wb := ⟨_, rfl⟩
  rw [hw2]
  have C2 : Hid (Below wa.heap.size wa wb) := Lib.hid (by rw [← hw2]; exact (Below.refl _ _).alloc (Nat.le_refl _) _)
  have G2 := Lib.hid (G1.out.trans (C2.out.mono G1.out.size))
  have HL := larges_any (w := wb) (A := some ⟨wa.heap.size, 0, none⟩) (n := 3) (c := 3) (ms := [⟨A1, n1, c1, l1⟩, ⟨A2, n2, c2, l2⟩, ⟨A3, n3, c3, l3⟩]) ⟨rfl, Nat.le_refl _, by unfold maxLen; omega, (fun e => by cases e), mp_sz, fun _ => ⟨wa.heap.size, 0, rfl, by rw [← hw2]; simp, by rw [← hw2]; exact (Lies.new wa [.slice A1 n1 c1, .slice A2 n2 c2, .slice A3 n3 c3] 24).rg⟩⟩ (mp_all3 (HS1.out _ G2.out) (HS2.out _ G2.out) (HS3.out _ G2.out)) (by omega)
  clear hw2 C2 q0 q1 q2
  refine HL.mono ?_
  rintro e wc ⟨(rfl | ⟨rfl, hm⟩), hb3⟩
  · have G3 := Lib.hid (G2.out.trans (hb3.mono G2.out.size))
    clear hb3 HL
    go_wp2_with fail
    go_ret
    exact ⟨rfl, B0.out.trans (G3.out.mono B0.out.size)⟩
  have G3 := Lib.hid (G2.out.trans (hb3.mono G2.out.size))
  have hn1 : n1 ≤ 1000 ∧ ∀ r ∈ l1, r.p.size ≤ 500 := by have := hm ⟨A1, n1, c1, l1⟩ (by simp); exact ⟨by have := this.1; simp at this; omega, this.2⟩
  have hn2 : n2 ≤ 1000 ∧ ∀ r ∈ l2, r.p.size ≤ 500 := by have := hm ⟨A2, n2, c2, l2⟩ (by simp); exact ⟨by have := this.1; simp at this; omega, this.2⟩
  have hn3 : n3 ≤ 1000 ∧ ∀ r ∈ l3, r.p.size ≤ 500 := by have := hm ⟨A3, n3, c3, l3⟩ (by simp); exact ⟨by have := this.1; simp at this; omega, this.2⟩
  clear hb3 HL hm G2
  have HN1 := Lib.hid hn1.1
  have HN2 := Lib.hid hn2.1
  have HN3 := Lib.hid hn3.1
  have HRT := Lib.hid (fun W (hW : Below w0.heap.size w0 W) => right_any (HS1.out W hW) hn1 (HS2.out W hW) hn2 (HS3.out W hW) hn3)
  have HRC := Lib.hid (fun W (hW : Below w0.heap.size w0 W) => refConflicts_any (HS1.out W hW) hn1.1 (HS2.out W hW) hn2.1 (HS3.out W hW) hn3.1)
  clear hn1 hn2 hn3
  obtain ⟨rq, hrq⟩ : ∃ rq, (rightR l1 && (rightR l2 && rightR l3)) = rq := ⟨_, rfl⟩
  obtain ⟨L, hL⟩ : ∃ L, confW l1 l2 l3 = L := ⟨_, rfl⟩
  obtain ⟨ce, hce⟩ : ∃ ce, confE l1 l2 l3 = ce := ⟨_, rfl⟩
  obtain ⟨te, hte⟩ : ∃ te, takeE l1 l2 l3 = te := ⟨_, rfl⟩
  have HCE : Hid (ce = if rq then 0 else 150) := Lib.hid (by rw [← hce]; unfold confE; rw [hrq])
  have HTE : Hid (te = if ce = 0 then (if 32 < L.length then 151 else 0) else 150) := Lib.hid (by rw [← hte]; unfold takeE; rw [hce, hL])
  have HLL : Hid (L.length ≤ 3000) := Lib.hid (by
    rw [← hL]
    have h1 := plsW_len l1 l2 l3
    have h2 : (confW l1 l2 l3).length ≤ (plsW l1 l2 l3).length := List.length_filter_le _ _
    have e1 := (HS1.out _ G3.out).len
    have e2 := (HS2.out _ G3.out).len
    have e3 := (HS3.out _ G3.out).len
    have := HN1.out
    have := HN2.out
    have := HN3.out
    omega)
  rw [hrq] at HRT
  rw [hL] at HRC
  have HL := Lib.hid hL
  have HCC := Lib.hid hce
  have HTT := Lib.hid hte
  clear hrq hL hce hte
  obtain ⟨q0, q1, q2⟩ := HQ.out _ G3.out
  have HCP := Lib.hid (fun W (hW : Below w0.heap.size w0 W) => copied7_any (HS1.out W hW) (show n1 ≤ 1000000 by have := HN1.out; omega) (HS2.out W hW) (show n2 ≤ 1000000 by have := HN2.out; omega) (HS3.out W hW) (show n3 ≤ 1000000 by have := HN3.out; omega))
  go_wp2_with fail
  refine (HCP.out _ G3.out).mono ?_
  rintro e u4 ⟨⟨D1, d1, D2, d2, D3, d3, rfl, hs1, hs2, hs3⟩, hb4⟩
  have R1 := Lib.hid hs1
  have R2 := Lib.hid hs2
  have R3 := Lib.hid hs3
  have F4 := Lib.hid (G3.out.trans (hb4.mono G3.out.size))
  clear hs1 hs2 hs3 hb4 q0 q1 q2 HCP
  go_upto_region 6 with fail
  obtain ⟨w4, hw4⟩ : ∃ w4, u4.alloc (.cells #[.slice D1 n1 d1, .slice D2 n2 d2, .slice D3 n3 d3] 26) = w4 := ⟨_, rfl⟩
  rw [hw4]
  have C4 : Hid (Below u4.heap.size u4 w4) := Lib.hid (by rw [← hw4]; exact (Below.refl _ _).alloc (Nat.le_refl _) _)
  have Y4 : Hid (Lies w4 u4.heap.size 3 [.slice D1 n1 d1, .slice D2 n2 d2, .slice D3 n3 d3]) := Lib.hid (by rw [← hw4]; exact Lies.new u4 [.slice D1 n1 d1, .slice D2 n2 d2, .slice D3 n3 d3] 26)
  obtain ⟨M4, hM4⟩ : ∃ M, u4.heap.size = M := ⟨_, rfl⟩
  have G4 := Lib.hid (F4.out.trans (C4.out.mono F4.out.size))
  have HD1 : Hid (∀ W, Below w4.heap.size w4 W → SqR W W.heap.size D1 n1 d1 l1) := Lib.hid fun W hW => (((R1.out.below C4.out).more C4.out.size).below hW).more hW.size
  have HD2 : Hid (∀ W, Below w4.heap.size w4 W → SqR W W.heap.size D2 n2 d2 l2) := Lib.hid fun W hW => (((R2.out.below C4.out).more C4.out.size).below hW).more hW.size
  have HD3 : Hid (∀ W, Below w4.heap.size w4 W → SqR W W.heap.size D3 n3 d3 l3) := Lib.hid fun W hW => (((R3.out.below C4.out).more C4.out.size).below hW).more hW.size
  rw [hM4] at Y4 ⊢
  have HZ : Hid (∀ W, Below w4.heap.size w4 W → W.cell? ⟨M4, 0, none⟩ = some (.slice D1 n1 d1) ∧ W.cell? ⟨M4, 1, none⟩ = some (.slice D2 n2 d2) ∧ W.cell? ⟨M4, 2, none⟩ = some (.slice D3 n3 d3)) := Lib.hid fun W hW =>
    ⟨(Y4.out.below hW Y4.out.lt).cell (j := 0) rfl, (Y4.out.below hW Y4.out.lt).cell (j := 1) rfl, (Y4.out.below hW Y4.out.lt).cell (j := 2) rfl⟩
  clear hw4 hM4 C4 R1 R2 R3 F4 Y4
  obtain ⟨z0, z1, z2⟩ := HZ.out _ (Below.refl _ _)
  have HC5 := Lib.hid (fun W (hW : Below w4.heap.size w4 W) => by
    have T := Conflicts_any (HD1.out W hW) HN1.out (HD2.out W hW) HN2.out (HD3.out W hW) HN3.out
    rw [HCC.out, HL.out] at T
    exact T)
  have HT6 := Lib.hid (fun W (hW : Below w4.heap.size w4 W) => by
    have T := Take_any (HD1.out W hW) HN1.out (HD2.out W hW) HN2.out (HD3.out W hW) HN3.out wh
    rw [HTT.out, HL.out] at T
    exact T)
  go_wp2_with fail
  refine (HC5.out _ (Below.refl _ _)).mono ?_
  rintro e w5 ⟨⟨A5, n5, c5, rfl, hs5⟩, hb5⟩
  have S5 := Lib.hid hs5
  have B45 := Lib.hid hb5
  clear hs5 hb5 z0 z1 z2 HC5
  obtain ⟨z0, z1, z2⟩ := HZ.out _ B45.out
  go_wp2_with fail
  refine (HT6.out _ B45.out).mono ?_
  rintro e u6 ⟨⟨C6, m6, d6, rfl, hs6⟩, hb6⟩
  have S55 := Lib.hid ((S5.out.below hb6).more hb6.size)
  have R6 := Lib.hid hs6
  have B46 := Lib.hid (B45.out.trans (hb6.mono B45.out.size))
  clear hs6 hb6 z0 z1 z2 HT6 S5 B45
  go_upto_region 8 with fail
  obtain ⟨w6, hw6⟩ : ∃ w6, u6.alloc (.cells #[.slice C6 m6 d6] 36) = w6 := ⟨_, rfl⟩
  rw [hw6]
  have C7 : Hid (Below u6.heap.size u6 w6) := Lib.hid (by rw [← hw6]; exact (Below.refl _ _).alloc (Nat.le_refl _) _)
  have Y6 : Hid (Lies w6 u6.heap.size 1 [.slice C6 m6 d6]) := Lib.hid (by rw [← hw6]; exact Lies.new u6 [.slice C6 m6 d6] 36)
  obtain ⟨M6, hM6⟩ : ∃ M, u6.heap.size = M := ⟨_, rfl⟩
  have HS5 : Hid (∀ W, Below w6.heap.size w6 W → SqP W W.heap.size A5 n5 c5 (if ce = 0 then L else [])) := Lib.hid fun W hW => (((S55.out.below C7.out).more C7.out.size).below hW).more hW.size
  have HS6 : Hid (∀ W, Below w6.heap.size w6 W → SqC W W.heap.size C6 m6 d6 (if te = 0 then L.map (tkW wh) else [])) := Lib.hid fun W hW => (((R6.out.below C7.out).more C7.out.size).below hW).more hW.size
  have G6 := Lib.hid (G4.out.trans ((B46.out.trans (C7.out.mono B46.out.size)).mono G4.out.size))
  have HL5 : Hid ((if ce = 0 then L else []).length = n5) := Lib.hid S55.out.len
  have HL6 : Hid ((if te = 0 then L.map (tkW wh) else []).length = m6) := Lib.hid R6.out.len
  rw [hM6] at Y6 ⊢
  have HY6 : Hid (∀ W, Below w6.heap.size w6 W → W.cell? ⟨M6, 0, none⟩ = some (.slice C6 m6 d6)) := Lib.hid fun W hW => (Y6.out.below hW Y6.out.lt).cell (j := 0) rfl
  clear hw6 hM6 C7 Y6 R6 S55 B46 HZ HD1 HD2 HD3
  obtain ⟨q0, q1, q2⟩ := HQ.out _ G6.out
  go_wp2_with fail
  refine (HRT.out _ G6.out).mono ?_
  rintro e w7 ⟨rfl, hb7⟩
  have B67 := Lib.hid hb7
  have G7 := Lib.hid (G6.out.trans (hb7.mono G6.out.size))
  clear hb7 q0 q1 q2 HRT
  have y6 := HY6.out _ B67.out
  cases rq
  case false =>
    have e1 : ce = 150 := HCE.out
    subst e1
    have e2 : te = 150 := by rw [HTE.out]; rfl
    subst e2
    have e3 : n5 = 0 := by rw [← HL5.out]; rfl
    have e4 : m6 = 0 := by rw [← HL6.out]; rfl
    subst e3 e4
    clear HCE HTE HL5 HL6 HCC HTT
    go_wp2_with fail
    go_ret
    exact ⟨by simp, B0.out.trans (G7.out.mono B0.out.size)⟩
  have e1 : ce = 0 := HCE.out
  subst e1
  have ht : te = if 32 < L.length then 151 else 0 := by rw [HTE.out, if_pos rfl]
  have HL5' : Hid (L.length = n5) := Lib.hid (by have := HL5.out; rwa [if_pos rfl] at this)
  have HS5' : Hid (∀ W, Below w6.heap.size w6 W → SqP W W.heap.size A5 n5 c5 L) := Lib.hid (fun W hW => by have := HS5.out W hW; rwa [if_pos rfl] at this)
  have HTE2 := Lib.hid ht
  clear HL5 HS5 ht HTE HCE HCC HTT y6
  obtain ⟨q0, q1, q2⟩ := HQ.out _ G7.out
  go_wp2_with fail
  refine (HRC.out _ G7.out).mono ?_
  rintro e w8 ⟨⟨A8, n8, c8, rfl, hs8⟩, hb8⟩
  have S8 := Lib.hid hs8
  have B68 := Lib.hid (B67.out.trans (hb8.mono B67.out.size))
  have G8 := Lib.hid (G7.out.trans (hb8.mono G7.out.size))
  obtain rfl : n8 = n5 := by rw [← hs8.len, HL5'.out]
  have hn3 : n8 ≤ 3000 := by rw [← hs8.len]; exact HLL.out
  clear hs8 hb8 q0 q1 q2 HRC HS1 HS2 HS3
  have dn : ((0 : Int) != 0) = false := rfl
  have dm : ((n8 : Int) != (n8 : Int)) = false := by simp
  have hn80 : (0 : Int) ≤ (n8 : Int) := Int.natCast_nonneg _
  go_wp2_with fail
  go_loopw [83] (fun i wr => ∃ k : Nat, k ≤ n8 ∧ i = .int .i64 (k : Int) ∧ Hid (Below w8.heap.size w8 wr)) (fun i _ => n8 - (intOf i).toNat)
  case atStart => exact ⟨0, Nat.zero_le _, rfl, Lib.hid (Below.refl _ _)⟩
  case round =>
    obtain ⟨k, hk, rfl, hgr⟩ := hrel
    by_cases hlt : k < n8
    · have hd : decide ((k : Int) < (n8 : Int)) = true := by simp; omega
      have hk0 : (0 : Int) ≤ (k : Int) := Int.natCast_nonneg _
      have hk1 : (k : Int) < (n8 : Int) := by omega
      obtain ⟨b1, o1, rfl, hbl1, hr1⟩ := (HS5'.out _ (B68.out.trans (hgr.out.mono B68.out.size))).at_ hlt
      obtain ⟨b2, o2, rfl, hbl2, hr2⟩ := (S8.out.below hgr.out).at_ hlt
      obtain ⟨x, hx⟩ : ∃ x, L[k]'(by rw [HL5'.out]; omega) = x := ⟨_, rfl⟩
      rw [hx] at hr1 hr2
      have e1 := fun w => neq_cf x w
      have hgd := cf_guard
      have ra0 : wr.cell? ⟨b1, o1 + k * 7, none⟩ = some (.string x.p) := hr1 0 _ rfl
      have rb0 : wr.cell? ⟨b2, o2 + k * 7, none⟩ = some (.string x.p) := hr2 0 _ rfl
      have ra1 : wr.cell? ⟨b1, o1 + k * 7 + 1, none⟩ = some (.bool x.b.is) := hr1 1 _ rfl
      have rb1 : wr.cell? ⟨b2, o2 + k * 7 + 1, none⟩ = some (.bool x.b.is) := hr2 1 _ rfl
      have ra2 : wr.cell? ⟨b1, o1 + k * 7 + 2, none⟩ = some (.string x.b.t) := hr1 2 _ rfl
      have rb2 : wr.cell? ⟨b2, o2 + k * 7 + 2, none⟩ = some (.string x.b.t) := hr2 2 _ rfl
      have ra3 : wr.cell? ⟨b1, o1 + k * 7 + 3, none⟩ = some (.bool x.o.is) := hr1 3 _ rfl
      have rb3 : wr.cell? ⟨b2, o2 + k * 7 + 3, none⟩ = some (.bool x.o.is) := hr2 3 _ rfl
      have ra4 : wr.cell? ⟨b1, o1 + k * 7 + 4, none⟩ = some (.string x.o.t) := hr1 4 _ rfl
      have rb4 : wr.cell? ⟨b2, o2 + k * 7 + 4, none⟩ = some (.string x.o.t) := hr2 4 _ rfl
      have ra5 : wr.cell? ⟨b1, o1 + k * 7 + 5, none⟩ = some (.bool x.t.is) := hr1 5 _ rfl
      have rb5 : wr.cell? ⟨b2, o2 + k * 7 + 5, none⟩ = some (.bool x.t.is) := hr2 5 _ rfl
      have ra6 : wr.cell? ⟨b1, o1 + k * 7 + 6, none⟩ = some (.string x.t.t) := hr1 6 _ rfl
      have rb6 : wr.cell? ⟨b2, o2 + k * 7 + 6, none⟩ = some (.string x.t.t) := hr2 6 _ rfl
      go_upto_region 16 with fail
      clear hr1 hr2
      go_region_held3 (fun w' => w'.cell? ⟨b1, o1 + k * 7, none⟩ = some (.string x.p) ∧ w'.cell? ⟨b1, o1 + k * 7 + 1, none⟩ = some (.bool x.b.is) ∧ w'.cell? ⟨b1, o1 + k * 7 + 2, none⟩ = some (.string x.b.t) ∧ w'.cell? ⟨b1, o1 + k * 7 + 3, none⟩ = some (.bool x.o.is) ∧ w'.cell? ⟨b1, o1 + k * 7 + 4, none⟩ = some (.string x.o.t) ∧ w'.cell? ⟨b1, o1 + k * 7 + 5, none⟩ = some (.bool x.t.is) ∧ w'.cell? ⟨b1, o1 + k * 7 + 6, none⟩ = some (.string x.t.t) ∧ w'.cell? ⟨b2, o2 + k * 7, none⟩ = some (.string x.p) ∧ w'.cell? ⟨b2, o2 + k * 7 + 1, none⟩ = some (.bool x.b.is) ∧ w'.cell? ⟨b2, o2 + k * 7 + 2, none⟩ = some (.string x.b.t) ∧ w'.cell? ⟨b2, o2 + k * 7 + 3, none⟩ = some (.bool x.o.is) ∧ w'.cell? ⟨b2, o2 + k * 7 + 4, none⟩ = some (.string x.o.t) ∧ w'.cell? ⟨b2, o2 + k * 7 + 5, none⟩ = some (.bool x.t.is) ∧ w'.cell? ⟨b2, o2 + k * 7 + 6, none⟩ = some (.string x.t.t))
        (first | exact ⟨ra0, ra1, ra2, ra3, ra4, ra5, ra6, rb0, rb1, rb2, rb3, rb4, rb5, rb6⟩ | fail)
        (fail)
      have GE := Lib.hid (show Below w8.heap.size w8 wr.drew from hgr.out.drew)
      clear hx ra0 ra1 ra2 ra3 ra4 ra5 ra6 rb0 rb1 rb2 rb3 rb4 rb5 rb6
      go_wp2_with fail
      go_roundw
      case rel => exact ⟨k + 1, by omega, by go_num, GE⟩
      case measure => simp [intOf]; omega
    · obtain rfl : k = n8 := by omega
      have hd : decide ((k : Int) < (k : Int)) = false := by simp
      obtain ⟨w9, hw9⟩ : ∃ w9, w9 = wr := ⟨_, rfl⟩
      rw [← hw9] at hgr ⊢
      clear hw9
      have B69 := Lib.hid (B68.out.trans (hgr.out.mono B68.out.size))
      have G9 := Lib.hid (G8.out.trans (hgr.out.mono G8.out.size))
      have y6 := HY6.out _ B69.out
      by_cases h32 : 32 < k
      · have d32 : decide ((k : Int) > 32) = true := by simp; omega
        have d33 : decide (32 < (k : Int)) = true := by simp; omega
        have e2 : te = 151 := by rw [HTE2.out, if_pos (by rw [HL5'.out]; exact h32)]
        subst e2
        have e4 : m6 = 0 := by rw [← HL6.out]; rfl
        subst e4
        clear HTE2 HL6
        go_wp2_with fail
        go_ret
        exact ⟨by simp, B0.out.trans (G9.out.mono B0.out.size)⟩
      · have d32 : decide ((k : Int) > 32) = false := by simp; omega
        have d33 : decide (32 < (k : Int)) = false := by simp; omega
        have e2 : te = 0 := by rw [HTE2.out, if_neg (by rw [HL5'.out]; exact h32)]
        subst e2
        have HE6 := Lib.hid (show m6 ≤ 1000000 by rw [← HL6.out, if_pos rfl, List.length_map, HL5'.out]; omega)
        have dz : ((0 : Int) == 0) = true := rfl
        have HRK := Lib.hid (fun W (hW : Below w9.heap.size w9 W) => refTake_any (w := W) ((S8.out.below (hgr.out.trans (hW.mono hgr.out.size))).more (Nat.le_trans hgr.out.size hW.size)) (by omega) wh)
        have HSE := Lib.hid (fun W A' n' c' (hW : Below w9.heap.size w9 W) (h : SqC W W.heap.size A' n' c' (L.map (tkW wh))) => by
          have T := refSameE_any (w := W) (by have := HS6.out W (B69.out.trans (hW.mono B69.out.size)); rwa [if_pos rfl] at this) h HE6.out
          rw [sameE_self] at T
          exact T)
        clear HTE2 HL6
        go_upto_region 21 with fail
        have hbz := Below.refl w9.heap.size w9
        go_region_held3 (fun w' => w'.cell? ⟨M6, 0, none⟩ = some (.slice C6 m6 d6) ∧ Below w9.heap.size w9 w')
          (first | exact ⟨y6, hbz.drew⟩ | with_reducible exact K1.out | with_reducible exact K2.out | fail)
          (first
            | (go_at_call 17; have T := HRK.out _ hbz.drew; with_reducible refine Calls.mono T ?_; clear T; rintro e wa ⟨⟨Aa, na, ca, rfl, hsa⟩, hb4⟩; have hb5 := (show Below w9.heap.size w9 wa from hbz.drew.trans (hb4.mono hbz.drew.size)); have K1 := Lib.hid (show wa.cell? ⟨M6, 0, none⟩ = some (.slice C6 m6 d6) ∧ Below w9.heap.size w9 wa from ⟨HY6.out _ (B69.out.trans (hb5.mono B69.out.size)), hb5⟩); have HSA := Lib.hid hsa; clear hb4 hb5 hsa)
            | (go_at_call 16; have T := HSE.out _ _ _ _ K1.out.2 HSA.out; with_reducible refine Calls.mono T ?_; clear T; rintro e wb ⟨rfl, hb4⟩; have hb5 := (show Below w9.heap.size w9 wb from K1.out.2.trans (hb4.mono K1.out.2.size)); have K2 := Lib.hid (show wb.cell? ⟨M6, 0, none⟩ = some (.slice C6 m6 d6) ∧ Below w9.heap.size w9 wb from ⟨HY6.out _ (B69.out.trans (hb5.mono B69.out.size)), hb5⟩); clear hb4 hb5)
            | fail)
        have GE := Lib.hid (G9.out.trans (K2.out.2.mono G9.out.size))
        clear K1 K2 HSA y6
        go_wp2_with fail
        go_ret
        exact ⟨by simp, B0.out.trans (GE.out.mono B0.out.size)⟩

theorem own : ownKnob Try.prog.godebug = none := by kernel_rfl
theorem laidOut : laidOutB Try.prog = true := by kernel_rfl

set_option maxRecDepth 100000 in
theorem lifted (os : Os) (started : os.Started) (H : Type) (enc : TypeId × Value → H) :
    ReturnsInHanded {} Try.checked os 3 .any (Rows.mergeConflictsSpec.pre6 enc Try.prog Try.f3 Rows.mergeConflictsRow.domain false) (Rows.mergeConflictsSpec.post enc Try.prog Try.f3 false true false false) := by
  refine returnsInHanded_of_change (C := Try.checked) own started (by kernel_rfl) Try.func3
    (ChangeSpec.witness6 (enc := enc) (C := Try.checked) false ⟨#[], #[.agg #[.slice none 0 0, .slice none 0 0, .slice none 0 0], .int .i64 0], []⟩ 8 (by kernel_rfl) (by kernel_rfl) (by kernel_rfl) (by kernel_rfl)) ?_
  intro W base args ds gs before hval0 hW hcnd _
  have hval : ∀ (j : Nat) t v, Try.f3.params[j]? = some t → args[j]? = some v → Value.okWide Try.prog W .any base t v := hval0
  have hW' := hW
  obtain ⟨p, q, hA0, hV, rfl, hfz, hnd⟩ := hW
  have hA : DataW.TrodAll enc Try.prog W 0 (fun _ => true) true Try.f3.params.toList args.toList ds p := hA0
  rw [Try.params3] at hA hval
  obtain ⟨v0, vs0, d0, ds0, p0, q0, hargs, rfl, rfl, h0, r0⟩ := trodAll_cons hA
  obtain ⟨v1, vs1, d1, ds1, p1, q1, rfl, rfl, rfl, h1, r1⟩ := trodAll_cons r0
  obtain ⟨rfl, rfl, rfl⟩ := trodAll_nil r1
  obtain rfl : args = #[v0, v1] := by cases args; simp_all
  obtain ⟨rfl, rfl⟩ := trodVars_none hV
  have k0 := h0
  have lt0 : ∀ x ∈ p0, x.block < W.heap.size := by obtain ⟨m, hm⟩ := k0; exact DataW.trod_lt m _ _ _ hm
  obtain ⟨A1, n1, c1, l1, A2, n2, c2, l2, A3, n3, c3, l3, rfl, s1, s2, s3⟩ := three_arg (hval 0 26 v0 rfl rfl) h0
  have k1 := h1
  have lt1 : ∀ x ∈ p1, x.block < W.heap.size := by obtain ⟨m, hm⟩ := k1; exact DataW.trod_lt m _ _ _ hm
  obtain ⟨a1, rfl, e1, f1, w1⟩ := open_int Try.underlying3 (hval 1 3 v1 rfl rfl) h1
  have b1 := bounds_i64 w1
  clear hA0 hval0
  refine (walk A1 n1 c1 l1 A2 n2 c2 l2 A3 n3 c3 l3 a1 W s1 s2 s3).mono fun e W' ⟨he, bel⟩ => ?_
  subst he
  exact ⟨_, rfl, _, _, _, [], _, [], hW', trodAll_mk1 (shut_bool Try.underlying4 _), (trodAll_cons_mk (Below.trod laidOut (by kernel_rfl) (of_decide_eq_true (by kernel_rfl)) k0 bel lt0) (trodAll_cons_mk (Below.trod laidOut (by kernel_rfl) (of_decide_eq_true (by kernel_rfl)) k1 bel lt1) trodAll_mk0)), rfl, bel.frame _, fun h => by cases h⟩

theorem over : Rows.mergeConflictsRow.holds Try.pinned (OpenSpec.ofChange Rows.mergeConflictsSpec) :=
  OpenClaim.holds_of_wide 3 Try.f3 rfl rfl rfl rfl rfl rfl rfl ⟨rfl, rfl, rfl, rfl, rfl⟩ rfl rfl rfl rfl rfl (by kernel_rfl) Try.func3 (by kernel_rfl)
    (of_decide_eq_true (by kernel_rfl)) (by unfold Func.isWrapper; first | (rw [if_pos (by decide +kernel)]; kernel_rfl) | (rw [if_neg (by decide +kernel)]; exact ⟨rfl, rfl⟩))
    (fun os started H enc _ => lifted os started H enc)

theorem proved : Rows.MergeConflictsSaid := over
#print axioms proved
end Go.Proofs.Ytkdmlffnkomdhaa.mergeConflicts
