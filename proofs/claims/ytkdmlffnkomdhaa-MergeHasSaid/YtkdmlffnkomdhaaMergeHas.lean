/-
  PROVED HERE: each path of a merge has what one of the three has, or what the resolutions say; what no side has changed stays: at every three maps and number.
-/
import Derived.Test.YtkdmlffnkomdhaaFc
import Derived.Test.YtkdmlffnkomdhaaMt
import Derived.Test.YtkdmlffnkomdhaaMk
import Derived.Test.YtkdmlffnkomdhaaRows
import Derived.ProofKit
import Derived.OpenShut
import Derived.ChangeOld
import Derived.Carry
namespace Go.Proofs.Ytkdmlffnkomdhaa.mergeHas
open Go.ChangeShapes Go.WideShapes Go.ChangeAt Go.RowKit
set_option linter.unusedVariables false
set_option linter.unusedSimpArgs false
open Go.Deep
attribute [local irreducible] wpQuiet

set_option maxRecDepth 100000 in
set_option maxHeartbeats 8000000 in
theorem walk (A1 : Option Addr) (n1 c1 : Nat) (l1 : List Rw) (A2 : Option Addr) (n2 c2 : Nat) (l2 : List Rw) (A3 : Option Addr) (n3 c3 : Nat) (l3 : List Rw) (wh : Int) (w : World) (h1 : SqR w w.heap.size A1 n1 c1 l1) (h2 : SqR w w.heap.size A2 n2 c2 l2) (h3 : SqR w w.heap.size A3 n3 c3 l3) :
    Calls Try.prog 7 #[.agg #[.slice A1 n1 c1, .slice A2 n2 c2, .slice A3 n3 c3], .int .i64 wh] w fun e w' => e = .returned (.bool true) ∧ Below w.heap.size w w' := by
  obtain ⟨w0, hw0⟩ : ∃ w0, w.alloc (.cells #[.slice A1 n1 c1, .slice A2 n2 c2, .slice A3 n3 c3] 26) = w0 := ⟨_, rfl⟩
  have B0 : Hid (Below w.heap.size w w0) := Lib.hid (by rw [← hw0]; exact (Below.refl _ _).alloc (Nat.le_refl _) _)
  have X0 : Hid (Lies w0 w.heap.size 3 [.slice A1 n1 c1, .slice A2 n2 c2, .slice A3 n3 c3]) := Lib.hid (by rw [← hw0]; exact Lies.new w [.slice A1 n1 c1, .slice A2 n2 c2, .slice A3 n3 c3] 26)
  have HS1 : Hid (∀ W, Below w0.heap.size w0 W → SqR W W.heap.size A1 n1 c1 l1) := Lib.hid fun W hW => (h1.below (B0.out.trans (hW.mono B0.out.size))).more (Nat.le_trans B0.out.size hW.size)
  have HS2 : Hid (∀ W, Below w0.heap.size w0 W → SqR W W.heap.size A2 n2 c2 l2) := Lib.hid fun W hW => (h2.below (B0.out.trans (hW.mono B0.out.size))).more (Nat.le_trans B0.out.size hW.size)
  have HS3 : Hid (∀ W, Below w0.heap.size w0 W → SqR W W.heap.size A3 n3 c3 l3) := Lib.hid fun W hW => (h3.below (B0.out.trans (hW.mono B0.out.size))).more (Nat.le_trans B0.out.size hW.size)
  have HQ : Hid (∀ W, Below w0.heap.size w0 W → W.cell? ⟨w.heap.size, 0, none⟩ = some (.slice A1 n1 c1) ∧ W.cell? ⟨w.heap.size, 1, none⟩ = some (.slice A2 n2 c2) ∧ W.cell? ⟨w.heap.size, 2, none⟩ = some (.slice A3 n3 c3)) := Lib.hid fun W hW =>
    ⟨(X0.out.below hW X0.out.lt).cell (j := 0) rfl, (X0.out.below hW X0.out.lt).cell (j := 1) rfl, (X0.out.below hW X0.out.lt).cell (j := 2) rfl⟩
  have HW := Lib.hid hw0
  clear hw0 h1 h2 h3 X0
  go_enter Try.func7, Try.ntmps7
  go_upto_region 1 with fail
  rw [HW.out]
  clear HW
  go_wp2_with fail
  refine (wakes_any w0).mono ?_
  rintro e wa ⟨rfl, hb1⟩
  have G1 := Lib.hid hb1
  clear hb1
  obtain ⟨q0, q1, q2⟩ := HQ.out _ G1.out
  go_wp2_with fail
  obtain ⟨wb, hw2⟩ : ∃ wb, wa.alloc (.cells #[.slice A1 n1 c1, .slice A2 n2 c2, .slice A3 n3 c3] 24) = wb := ⟨_, rfl⟩
  rw [hw2]
  have C2 : Hid (Below wa.heap.size wa wb) := Lib.hid (by rw [← hw2]; exact (Below.refl _ _).alloc (Nat.le_refl _) _)
  have G2 := Lib.hid (G1.out.trans (C2.out.mono G1.out.size))
  have HL := larges_any (w := wb) (A := some ⟨wa.heap.size, 0, none⟩) (n := 3) (c := 3) (ms := [⟨A1, n1, c1, l1⟩, ⟨A2, n2, c2, l2⟩, ⟨A3, n3, c3, l3⟩]) ⟨rfl, Nat.le_refl _, by unfold maxLen; omega, (fun e => by cases e), mp_sz, fun _ => ⟨wa.heap.size, 0, rfl, by rw [← hw2]; simp, by rw [← hw2]; exact (Lies.new wa [.slice A1 n1 c1, .slice A2 n2 c2, .slice A3 n3 c3] 24).rg⟩⟩ (mp_all3 (HS1.out _ G2.out) (HS2.out _ G2.out) (HS3.out _ G2.out)) (by omega)
  clear hw2 C2 q0 q1 q2
  refine HL.mono ?_
  rintro e wc ⟨(rfl | ⟨rfl, hm⟩), hb3⟩
  · have G3 := Lib.hid (G2.out.trans (hb3.mono G2.out.size))
    clear hb3 HL
    go_wp2_with fail
    go_ret
    exact ⟨rfl, B0.out.trans (G3.out.mono B0.out.size)⟩
  have G3 := Lib.hid (G2.out.trans (hb3.mono G2.out.size))
  have hn1 : n1 ≤ 1000 ∧ ∀ r ∈ l1, r.p.size ≤ 500 := by have := hm ⟨A1, n1, c1, l1⟩ (by simp); exact ⟨by have := this.1; simp at this; omega, this.2⟩
  have hn2 : n2 ≤ 1000 ∧ ∀ r ∈ l2, r.p.size ≤ 500 := by have := hm ⟨A2, n2, c2, l2⟩ (by simp); exact ⟨by have := this.1; simp at this; omega, this.2⟩
  have hn3 : n3 ≤ 1000 ∧ ∀ r ∈ l3, r.p.size ≤ 500 := by have := hm ⟨A3, n3, c3, l3⟩ (by simp); exact ⟨by have := this.1; simp at this; omega, this.2⟩
  clear hb3 HL hm G2
  obtain ⟨te, hte⟩ : ∃ te, takeE l1 l2 l3 = te := ⟨_, rfl⟩
  obtain ⟨Lt, hLt⟩ : ∃ L, (if te = 0 then (confW l1 l2 l3).map (tkW wh) else []) = L := ⟨_, rfl⟩
  have HT4 := Lib.hid (fun W (hW : Below w0.heap.size w0 W) => by
    have T := Take_any (HS1.out W hW) hn1.1 (HS2.out W hW) hn2.1 (HS3.out W hW) hn3.1 wh
    rw [hte, hLt] at T
    exact T)
  have HTE := Lib.hid hte
  have HLT := Lib.hid hLt
  have HN1 := Lib.hid hn1.1
  have HN2 := Lib.hid hn2.1
  have HN3 := Lib.hid hn3.1
  clear hte hLt hn1 hn2 hn3
  obtain ⟨q0, q1, q2⟩ := HQ.out _ G3.out
  go_wp2_with fail
  refine (HT4.out _ G3.out).mono ?_
  rintro e u4 ⟨⟨C4, m4, d4, rfl, hs4⟩, hb4⟩
  have R4 := Lib.hid hs4
  have F4 := Lib.hid (G3.out.trans (hb4.mono G3.out.size))
  clear hs4 hb4 q0 q1 q2
  go_upto_region 6 with fail
  obtain ⟨w4, hw4⟩ : ∃ w4, u4.alloc (.cells #[.slice C4 m4 d4] 36) = w4 := ⟨_, rfl⟩
  rw [hw4]
  have D4 : Hid (Below u4.heap.size u4 w4) := Lib.hid (by rw [← hw4]; exact (Below.refl _ _).alloc (Nat.le_refl _) _)
  have Y4 : Hid (Lies w4 u4.heap.size 1 [.slice C4 m4 d4]) := Lib.hid (by rw [← hw4]; exact Lies.new u4 [.slice C4 m4 d4] 36)
  obtain ⟨M4, hM4⟩ : ∃ M, u4.heap.size = M := ⟨_, rfl⟩
  have S4 := Lib.hid ((R4.out.below D4.out).more D4.out.size)
  have G4 := Lib.hid (F4.out.trans (D4.out.mono F4.out.size))
  rw [hM4] at Y4 ⊢
  clear hw4 hM4 D4 R4 F4
  have y4 := Y4.out.cell (j := 0) rfl
  by_cases hte : te = 0
  case neg =>
    have d1 : (te != 0) = true := by simpa using hte
    have eL : Lt = [] := by rw [← HLT.out, if_neg hte]
    have em : m4 = 0 := by rw [← S4.out.len, eL]; rfl
    subst em
    clear hte
    go_wp2_with fail
    go_ret
    exact ⟨by simp, B0.out.trans (G4.out.mono B0.out.size)⟩
  subst hte
  have eL : Lt = (confW l1 l2 l3).map (tkW wh) := by rw [← HLT.out, if_pos rfl]
  have d1 : ((0 : Int) != 0) = false := rfl
  obtain ⟨hr1, hr2, hr3, hcl⟩ := takeE_parts HTE.out
  have hml : m4 ≤ 1000 := by rw [← S4.out.len, eL, List.length_map]; omega
  obtain ⟨X, hX⟩ : ∃ X, (if mergeE l1 l2 l3 Lt = 0 then mergedW l1 l2 l3 Lt else []) = X := ⟨_, rfl⟩
  obtain ⟨me, hme⟩ : ∃ me, mergeE l1 l2 l3 Lt = me := ⟨_, rfl⟩
  have hXl : X.length ≤ 32 := by rw [← hX]; exact mergeX_len _ _ _ _
  have HM := Lib.hid (fun W (hW : Below w0.heap.size w0 W) (hS : SqC W W.heap.size C4 m4 d4 Lt) => by
    have T := Merge_any (HS1.out W hW) HN1.out (HS2.out W hW) HN2.out (HS3.out W hW) HN3.out hS hml
    rw [hX, hme] at T
    exact T)
  have HEE : Hid (me = if 32 < (mergedW l1 l2 l3 Lt).length then 6 else 0) := Lib.hid (by
    rw [← hme, eL, mergeE_take hr1 hr2 hr3 wh hcl]
    rfl)
  have HXE : Hid (X = if me = 0 then mergedW l1 l2 l3 Lt else []) := Lib.hid (by rw [← hX, hme])
  have HEL := Lib.hid eL
  have HXL := Lib.hid hXl
  have HR := Lib.hid (show rightR l1 = true ∧ rightR l2 = true ∧ rightR l3 = true from ⟨hr1, hr2, hr3⟩)
  have HML := Lib.hid hml
  clear eL hr1 hr2 hr3 hcl hml hX hme hXl HT4
  obtain ⟨q0, q1, q2⟩ := HQ.out _ G4.out
  go_wp2_with fail
  refine (HM.out _ G4.out S4.out).mono ?_
  rintro e u5 ⟨⟨C5, m5, d5, rfl, hs5⟩, hb5⟩
  have R5 := Lib.hid hs5
  have F5 := Lib.hid (G4.out.trans (hb5.mono G4.out.size))
  clear hs5 hb5 q0 q1 q2 y4 d1 HM Y4 S4
  go_upto_region 9 with fail
  obtain ⟨w5, hw5⟩ : ∃ w5, u5.alloc (.cells #[.slice C5 m5 d5] 24) = w5 := ⟨_, rfl⟩
  rw [hw5]
  have D5 : Hid (Below u5.heap.size u5 w5) := Lib.hid (by rw [← hw5]; exact (Below.refl _ _).alloc (Nat.le_refl _) _)
  have Y5 : Hid (Lies w5 u5.heap.size 1 [.slice C5 m5 d5]) := Lib.hid (by rw [← hw5]; exact Lies.new u5 [.slice C5 m5 d5] 24)
  obtain ⟨M5, hM5⟩ : ∃ M, u5.heap.size = M := ⟨_, rfl⟩
  have S5 := Lib.hid ((R5.out.below D5.out).more D5.out.size)
  have G5 := Lib.hid (F5.out.trans (D5.out.mono F5.out.size))
  rw [hM5] at Y5 ⊢
  clear hw5 hM5 D5 R5 F5
  have y5 := Y5.out.cell (j := 0) rfl
  by_cases hme : me = 0
  case neg =>
    have d1 : (me != 0) = true := by simpa using hme
    have eX : X = [] := by rw [HXE.out, if_neg hme]
    have e6 : me = 6 := by
      have h := HEE.out
      by_cases h32 : 32 < (mergedW l1 l2 l3 Lt).length
      · rw [if_pos h32] at h; exact h
      · rw [if_neg h32] at h; exact absurd h hme
    have em : m5 = 0 := by rw [← S5.out.len, eX]; rfl
    subst em e6
    clear hme HEE HXE
    go_wp2_with fail
    go_ret
    exact ⟨by simp, B0.out.trans (G5.out.mono B0.out.size)⟩
  subst hme
  have hXX : X = mergedW l1 l2 l3 ((confW l1 l2 l3).map (tkW wh)) := by rw [HXE.out, if_pos rfl, HEL.out]
  have d1 : ((0 : Int) != 0) = false := rfl
  have HSD : Hid (∀ s, sdW X s = wantW wh (plW l1 l2 l3 s)) := Lib.hid (fun s => by rw [hXX]; exact merged_side HR.out.1 HR.out.2.1 HR.out.2.2 wh s)
  have hrX : rightR X = true := by rw [hXX]; exact merged_right HR.out.1 HR.out.2.1 HR.out.2.2 wh (by rw [← hXX]; exact HXL.out)
  have HM5 : Hid (m5 ≤ 1000) := Lib.hid (by have := S5.out.len; have := HXL.out; omega)
  have HS5 : Hid (∀ W, Below w5.heap.size w5 W → SqR W W.heap.size C5 m5 d5 X) := Lib.hid fun W hW => (S5.out.below hW).more hW.size
  have HY5 : Hid (∀ W, Below w5.heap.size w5 W → W.cell? ⟨M5, 0, none⟩ = some (.slice C5 m5 d5)) := Lib.hid fun W hW => (Y5.out.below hW Y5.out.lt).cell (j := 0) rfl
  have HCK := Check_any S5.out (show m5 ≤ 1000000 by have := HM5.out; omega)
  rw [hrX, if_pos rfl] at HCK
  have HCH := Lib.hid HCK
  clear HCK hXX hrX HEE HXE HEL HXL HR HLT HTE
  go_wp2_with fail
  refine HCH.out.mono ?_
  rintro e w6 ⟨rfl, hb6⟩
  have G6 := Lib.hid (G5.out.trans (hb6.mono G5.out.size))
  have B56 := Lib.hid hb6
  clear HCH hb6 y5 Y5 S5
  obtain ⟨q0, q1, q2⟩ := HQ.out _ G6.out
  have y5 := HY5.out _ B56.out
  have hFM := fun w => four_maps A1 A2 A3 C5 n1 c1 n2 c2 n3 c3 m5 d5 w
  obtain ⟨w7, hw7⟩ : ∃ w7, w6.alloc (.cells #[.slice A1 n1 c1, .slice A2 n2 c2, .slice A3 n3 c3, .slice C5 m5 d5] 24) = w7 := ⟨_, rfl⟩
  have C7 : Hid (Below w6.heap.size w6 w7) := Lib.hid (by rw [← hw7]; exact (Below.refl _ _).alloc (Nat.le_refl _) _)
  have G7 := Lib.hid (G6.out.trans (C7.out.mono G6.out.size))
  have B57 := Lib.hid (B56.out.trans (C7.out.mono B56.out.size))
  have HP := Lib.hid (Paths_any (w := w7) (by
    have h := four_sq A1 A2 A3 C5 n1 c1 n2 c2 n3 c3 m5 d5 l1 l2 l3 X w6
    rw [hw7] at h
    exact h) (by
    intro m hm
    simp only [List.mem_cons, List.not_mem_nil, or_false] at hm
    rcases hm with rfl | rfl | rfl | rfl
    · exact ⟨HS1.out _ G7.out, HN1.out⟩
    · exact ⟨HS2.out _ G7.out, HN2.out⟩
    · exact ⟨HS3.out _ G7.out, HN3.out⟩
    · exact ⟨HS5.out _ B57.out, HM5.out⟩) (by omega))
  have HW7 := Lib.hid hw7
  clear hw7
  go_wp2_with (first | (go_at_call 33; rw [HW7.out]; have T := HP.out; with_reducible refine Calls.mono T ?_; clear T; rintro e w8 ⟨⟨A8, n8, c8, rfl, hn8, hsq⟩, hb8⟩; have SP := Lib.hid hsq; have BP := Lib.hid hb8; clear hsq hb8 hFM q0 q1 q2 y5 HP) | fail)
  have G8 := Lib.hid (G7.out.trans (BP.out.mono G7.out.size))
  have B58 := Lib.hid (B57.out.trans (BP.out.mono B57.out.size))
  obtain ⟨ps, hps⟩ : ∃ ps, pathsW Rw.p [] (List.flatMap Mp.l [⟨A1, n1, c1, l1⟩, ⟨A2, n2, c2, l2⟩, ⟨A3, n3, c3, l3⟩, ⟨C5, m5, d5, X⟩]) = ps := ⟨_, rfl⟩
  rw [hps] at SP
  have hlp := SP.out.len
  clear hps C7 HW7 BP B56
  have hn80 : (0 : Int) ≤ (n8 : Int) := Int.natCast_nonneg _
  go_loopw [76] (fun i wr => ∃ k : Nat, k ≤ n8 ∧ i = .int .i64 (k : Int) ∧ Hid (Below w8.heap.size w8 wr)) (fun i _ => n8 - (intOf i).toNat)
  case atStart => exact ⟨0, Nat.zero_le _, rfl, Lib.hid (Below.refl _ _)⟩
  case round =>
    obtain ⟨k, hk, rfl, hgr⟩ := hrel
    by_cases hlt : k < n8
    · have hd : decide ((k : Int) < (n8 : Int)) = true := by simp; omega
      have hk0 : (0 : Int) ≤ (k : Int) := Int.natCast_nonneg _
      have hk1 : (k : Int) < (n8 : Int) := by omega
      obtain ⟨b, o, rfl, hbl, hrg⟩ := (SP.out.below hgr.out).at_ hlt
      obtain ⟨s, hs⟩ : ∃ s, ps[k]'(by omega) = s := ⟨_, rfl⟩
      rw [hs] at hrg
      have GR := Lib.hid (G8.out.trans (hgr.out.mono G8.out.size))
      have BR := Lib.hid (B58.out.trans (hgr.out.mono B58.out.size))
      have r0 : wr.cell? ⟨b, o + k, none⟩ = some (.string s) := by have := hrg 0 _ rfl; simpa using this
      have HQ6 : Hid (∀ W, Below wr.heap.size wr W → W.cell? ⟨w.heap.size, 0, none⟩ = some (.slice A1 n1 c1) ∧ W.cell? ⟨w.heap.size, 1, none⟩ = some (.slice A2 n2 c2) ∧ W.cell? ⟨w.heap.size, 2, none⟩ = some (.slice A3 n3 c3) ∧ W.cell? ⟨M5, 0, none⟩ = some (.slice C5 m5 d5)) := Lib.hid fun W hW =>
        ⟨(HQ.out _ (GR.out.trans (hW.mono GR.out.size))).1, (HQ.out _ (GR.out.trans (hW.mono GR.out.size))).2.1, (HQ.out _ (GR.out.trans (hW.mono GR.out.size))).2.2, HY5.out _ (BR.out.trans (hW.mono BR.out.size))⟩
      obtain ⟨s1, hs1⟩ : ∃ x, sdW l1 s = x := ⟨_, rfl⟩
      have HC1 : Hid (∀ W, Below wr.heap.size wr W → Calls Try.prog 31 #[.agg #[.slice A1 n1 c1], .string s] W fun e w' => e = .returned (sdV s1) ∧ Below W.heap.size W w') := Lib.hid fun W hW => by
        rw [← hs1]; exact has_any (HS1.out _ (GR.out.trans (hW.mono GR.out.size))) (by have := HN1.out; omega) s
      obtain ⟨s2, hs2⟩ : ∃ x, sdW l2 s = x := ⟨_, rfl⟩
      have HC2 : Hid (∀ W, Below wr.heap.size wr W → Calls Try.prog 31 #[.agg #[.slice A2 n2 c2], .string s] W fun e w' => e = .returned (sdV s2) ∧ Below W.heap.size W w') := Lib.hid fun W hW => by
        rw [← hs2]; exact has_any (HS2.out _ (GR.out.trans (hW.mono GR.out.size))) (by have := HN2.out; omega) s
      obtain ⟨s3, hs3⟩ : ∃ x, sdW l3 s = x := ⟨_, rfl⟩
      have HC3 : Hid (∀ W, Below wr.heap.size wr W → Calls Try.prog 31 #[.agg #[.slice A3 n3 c3], .string s] W fun e w' => e = .returned (sdV s3) ∧ Below W.heap.size W w') := Lib.hid fun W hW => by
        rw [← hs3]; exact has_any (HS3.out _ (GR.out.trans (hW.mono GR.out.size))) (by have := HN3.out; omega) s
      obtain ⟨s4, hs4⟩ : ∃ x, sdW X s = x := ⟨_, rfl⟩
      have HC4 : Hid (∀ W, Below wr.heap.size wr W → Calls Try.prog 31 #[.agg #[.slice C5 m5 d5], .string s] W fun e w' => e = .returned (sdV s4) ∧ Below W.heap.size W w') := Lib.hid fun W hW => by
        rw [← hs4]; exact has_any (HS5.out _ (BR.out.trans (hW.mono BR.out.size))) (by have := HM5.out; omega) s
      obtain ⟨xb, hxb⟩ : ∃ x, sameSd s4 s1 = x := ⟨_, rfl⟩
      obtain ⟨xo, hxo⟩ : ∃ x, sameSd s4 s2 = x := ⟨_, rfl⟩
      obtain ⟨xr, hxr⟩ : ∃ x, sameSd s4 s3 = x := ⟨_, rfl⟩
      obtain ⟨bo, hbo⟩ : ∃ x, sameSd s1 s2 = x := ⟨_, rfl⟩
      obtain ⟨br, hbr⟩ : ∃ x, sameSd s1 s3 = x := ⟨_, rfl⟩
      have hob : sameSd s2 s1 = bo := by rw [sameSd_comm]; exact hbo
      have hrb : sameSd s3 s1 = br := by rw [sameSd_comm]; exact hbr
      have hwh : ((!xb && !xo && !xr) || (bo && br && !xb) || (!bo && br && !xo) || (!br && bo && !xr)) = false := by
        have h := want_holds wh (plW l1 l2 l3 s) s4 (by rw [← hs4]; exact HSD.out s)
        unfold plW at h
        rw [hs1, hs2, hs3] at h
        dsimp only at h
        rw [hxb, hxo, hxr, hbo, hbr, hob, hrb] at h
        exact h
      have e1 := fun w => neq_sds s4 s1 w
      have e2 := fun w => neq_sds s4 s2 w
      have e3 := fun w => neq_sds s4 s3 w
      have e4 := fun w => eql_sds s1 s2 w
      have e5 := fun w => eql_sds s1 s3 w
      have e6 := fun w => neq_sds s2 s1 w
      have e7 := fun w => eql_sds s3 s1 w
      have e8 := fun w => neq_sds s3 s1 w
      have e9 := fun w => eql_sds s2 s1 w
      rw [hxb] at e1
      rw [hxo] at e2
      rw [hxr] at e3
      rw [hbo] at e4
      rw [hbr] at e5
      rw [hob] at e6 e9
      rw [hrb] at e7 e8
      have HE := Lib.hid (And.intro e1 (And.intro e2 (And.intro e3 (And.intro e4 (And.intro e5 (And.intro e6 (And.intro e7 (And.intro e8 e9))))))))
      have HWH := Lib.hid hwh
      clear hrg hs hbl hxb hxo hxr hbo hbr hob hrb hwh e1 e2 e3 e4 e5 e6 e7 e8 e9 hs1 hs2 hs3 hs4
      go_upto_region 17 with fail
      clear r0
      refine wp_region_noPanic ?_
      refine wp_region_held_drew (S := (fun w' => Below wr.heap.size wr w')) (by kernel_rfl) (Below.refl wr.heap.size wr).drew (fun _ => ?_)
      refine wpAnyH_take (i := 0) rfl (by kernel_rfl) (by kernel_rfl) (by kernel_rfl) (fun _ _ _ h => h) (.inl ⟨rfl, fun w' hw' => (by obtain ⟨q0, q1, q2, q3⟩ := HQ6.out w' hw'; clear hw'; go_simp; (try rfl))⟩) (Below.refl wr.heap.size wr).drew ?_
      simp only [List.getElem_toArray, List.getElem_cons_zero, List.getElem_cons_succ, Act.put, List.setIfInBounds_toArray, List.set_cons_succ, List.set_cons_zero]
      refine wpAnyH_take (i := 1) rfl (by kernel_rfl) (by kernel_rfl) (by kernel_rfl) (fun _ _ _ h => h) (.inl ⟨rfl, fun w' hw' => (by obtain ⟨q0, q1, q2, q3⟩ := HQ6.out w' hw'; clear hw'; go_simp; (try rfl))⟩) (Below.refl wr.heap.size wr).drew ?_
      simp only [List.getElem_toArray, List.getElem_cons_zero, List.getElem_cons_succ, Act.put, List.setIfInBounds_toArray, List.set_cons_succ, List.set_cons_zero]
      refine wpAnyH_take (i := 2) rfl (by kernel_rfl) (by kernel_rfl) (by kernel_rfl) (fun _ _ _ h => h) (.inl ⟨rfl, fun w' hw' => (by obtain ⟨q0, q1, q2, q3⟩ := HQ6.out w' hw'; clear hw'; go_simp; (try rfl))⟩) (Below.refl wr.heap.size wr).drew ?_
      simp only [List.getElem_toArray, List.getElem_cons_zero, List.getElem_cons_succ, Act.put, List.setIfInBounds_toArray, List.set_cons_succ, List.set_cons_zero]
      refine wpAnyH_take (i := 3) rfl (by kernel_rfl) (by kernel_rfl) (by kernel_rfl) (fun _ _ _ h => h) (.inl ⟨rfl, fun w' hw' => (by obtain ⟨q0, q1, q2, q3⟩ := HQ6.out w' hw'; clear hw'; go_simp; (try rfl))⟩) (Below.refl wr.heap.size wr).drew ?_
      simp only [List.getElem_toArray, List.getElem_cons_zero, List.getElem_cons_succ, Act.put, List.setIfInBounds_toArray, List.set_cons_succ, List.set_cons_zero]
      refine wpAnyH_take (i := 5) rfl (by kernel_rfl) (by kernel_rfl) (by kernel_rfl) (fun _ _ _ h => h) (.inl ⟨rfl, fun w' hw' => (by obtain ⟨q0, q1, q2, q3⟩ := HQ6.out w' hw'; clear hw'; go_simp; (try rfl))⟩) (Below.refl wr.heap.size wr).drew ?_
      simp only [List.getElem_toArray, List.getElem_cons_zero, List.getElem_cons_succ, Act.put, List.setIfInBounds_toArray, List.set_cons_succ, List.set_cons_zero]
      refine wpAnyH_take (i := 6) rfl (by kernel_rfl) (by kernel_rfl) (by kernel_rfl) (fun _ _ _ h => h) (.inl ⟨rfl, fun w' hw' => (by obtain ⟨q0, q1, q2, q3⟩ := HQ6.out w' hw'; clear hw'; go_simp; (try rfl))⟩) (Below.refl wr.heap.size wr).drew ?_
      simp only [List.getElem_toArray, List.getElem_cons_zero, List.getElem_cons_succ, Act.put, List.setIfInBounds_toArray, List.set_cons_succ, List.set_cons_zero]
      refine wpAnyH_take (i := 7) rfl (by kernel_rfl) (by kernel_rfl) (by kernel_rfl) (fun _ _ _ h => h) (.inl ⟨rfl, fun w' hw' => (by obtain ⟨q0, q1, q2, q3⟩ := HQ6.out w' hw'; clear hw'; go_simp; (try rfl))⟩) (Below.refl wr.heap.size wr).drew ?_
      simp only [List.getElem_toArray, List.getElem_cons_zero, List.getElem_cons_succ, Act.put, List.setIfInBounds_toArray, List.set_cons_succ, List.set_cons_zero]
      refine wpAnyH_take (i := 8) rfl (by kernel_rfl) (by kernel_rfl) (by kernel_rfl) (fun _ _ _ h => h) (.inl ⟨rfl, fun w' hw' => (by obtain ⟨q0, q1, q2, q3⟩ := HQ6.out w' hw'; clear hw'; go_simp; (try rfl))⟩) (Below.refl wr.heap.size wr).drew ?_
      simp only [List.getElem_toArray, List.getElem_cons_zero, List.getElem_cons_succ, Act.put, List.setIfInBounds_toArray, List.set_cons_succ, List.set_cons_zero]
      refine wpAnyH_take (i := 10) rfl (by kernel_rfl) (by kernel_rfl) (by kernel_rfl) (fun _ _ _ h => h) (.inl ⟨rfl, fun w' hw' => (by obtain ⟨q0, q1, q2, q3⟩ := HQ6.out w' hw'; clear hw'; go_simp; (try rfl))⟩) (Below.refl wr.heap.size wr).drew ?_
      simp only [List.getElem_toArray, List.getElem_cons_zero, List.getElem_cons_succ, Act.put, List.setIfInBounds_toArray, List.set_cons_succ, List.set_cons_zero]
      refine wpAnyH_take (i := 11) rfl (by kernel_rfl) (by kernel_rfl) (by kernel_rfl) (fun _ _ _ h => h) (.inl ⟨rfl, fun w' hw' => (by obtain ⟨q0, q1, q2, q3⟩ := HQ6.out w' hw'; clear hw'; go_simp; (try rfl))⟩) (Below.refl wr.heap.size wr).drew ?_
      simp only [List.getElem_toArray, List.getElem_cons_zero, List.getElem_cons_succ, Act.put, List.setIfInBounds_toArray, List.set_cons_succ, List.set_cons_zero]
      refine wpAnyH_take (i := 12) rfl (by kernel_rfl) (by kernel_rfl) (by kernel_rfl) (fun _ _ _ h => h) (.inl ⟨rfl, fun w' hw' => (by obtain ⟨q0, q1, q2, q3⟩ := HQ6.out w' hw'; clear hw'; go_simp; (try rfl))⟩) (Below.refl wr.heap.size wr).drew ?_
      simp only [List.getElem_toArray, List.getElem_cons_zero, List.getElem_cons_succ, Act.put, List.setIfInBounds_toArray, List.set_cons_succ, List.set_cons_zero]
      refine wpAnyH_take (i := 13) rfl (by kernel_rfl) (by kernel_rfl) (by kernel_rfl) (fun _ _ _ h => h) (.inl ⟨rfl, fun w' hw' => (by obtain ⟨q0, q1, q2, q3⟩ := HQ6.out w' hw'; clear hw'; go_simp; (try rfl))⟩) (Below.refl wr.heap.size wr).drew ?_
      simp only [List.getElem_toArray, List.getElem_cons_zero, List.getElem_cons_succ, Act.put, List.setIfInBounds_toArray, List.set_cons_succ, List.set_cons_zero]
      refine wpAnyH_take (i := 15) rfl (by kernel_rfl) (by kernel_rfl) (by kernel_rfl) (fun _ _ _ h => h) (.inl ⟨rfl, fun w' hw' => (by obtain ⟨q0, q1, q2, q3⟩ := HQ6.out w' hw'; clear hw'; go_simp; (try rfl))⟩) (Below.refl wr.heap.size wr).drew ?_
      simp only [List.getElem_toArray, List.getElem_cons_zero, List.getElem_cons_succ, Act.put, List.setIfInBounds_toArray, List.set_cons_succ, List.set_cons_zero]
      refine wpAnyH_take (i := 16) rfl (by kernel_rfl) (by kernel_rfl) (by kernel_rfl) (fun _ _ _ h => h) (.inl ⟨rfl, fun w' hw' => (by obtain ⟨q0, q1, q2, q3⟩ := HQ6.out w' hw'; clear hw'; go_simp; (try rfl))⟩) (Below.refl wr.heap.size wr).drew ?_
      simp only [List.getElem_toArray, List.getElem_cons_zero, List.getElem_cons_succ, Act.put, List.setIfInBounds_toArray, List.set_cons_succ, List.set_cons_zero]
      refine wpAnyH_take (i := 17) rfl (by kernel_rfl) (by kernel_rfl) (by kernel_rfl) (fun _ _ _ h => h) (.inl ⟨rfl, fun w' hw' => (by obtain ⟨q0, q1, q2, q3⟩ := HQ6.out w' hw'; clear hw'; go_simp; (try rfl))⟩) (Below.refl wr.heap.size wr).drew ?_
      simp only [List.getElem_toArray, List.getElem_cons_zero, List.getElem_cons_succ, Act.put, List.setIfInBounds_toArray, List.set_cons_succ, List.set_cons_zero]
      refine wpAnyH_free3 (fun old a0 l0 f l a w' => ∃ (fc0 fc1 fc2 fc3 : Bool) (fo0 fo1 fo2 fo3 : Option Nat), f = 4 + (1 * (!fc0).toNat + (1 * (!fc1).toNat + (1 * (!fc2).toNat + (1 * (!fc3).toNat + (fo0.isNone.toNat + (fo1.isNone.toNat + (fo2.isNone.toNat + fo3.isNone.toNat))))))) ∧ ((fc0 = false ∧ fc1 = false ∧ fc2 = false ∧ fc3 = false) ∨ (fc0 = true ∧ fc1 = false ∧ fc2 = false ∧ fc3 = false) ∨ (fc0 = true ∧ fc1 = true ∧ fc2 = false ∧ fc3 = false) ∨ (fc0 = true ∧ fc1 = true ∧ fc2 = true ∧ fc3 = false) ∨ (fc0 = true ∧ fc1 = true ∧ fc2 = true ∧ fc3 = true)) ∧ l = ((((((((l0.setIfInBounds 4 (fc0)).setIfInBounds 9 (fc1)).setIfInBounds 14 (fc2)).setIfInBounds 18 (fc3)).setIfInBounds 19 (fo0.isSome)).setIfInBounds 20 (fo1.isSome)).setIfInBounds 21 (fo2.isSome)).setIfInBounds 22 (fo3.isSome)) ∧ a = { tmps := ((((((((a0.tmps.setIfInBounds 84 (cond fc0 (sdV s1) (old 84))).setIfInBounds 89 (cond fc1 (sdV s2) (old 89))).setIfInBounds 94 (cond fc2 (sdV s3) (old 94))).setIfInBounds 98 (cond fc3 (sdV s4) (old 98))).setIfInBounds 11 (ptrO (old 11) fo0)).setIfInBounds 12 (ptrO (old 12) fo1)).setIfInBounds 13 (ptrO (old 13) fo2)).setIfInBounds 14 (ptrO (old 14) fo3)), defers := a0.defers } ∧ Fr wr 2 [zO (Sd.cells ⟨false, ⟨#[]⟩⟩) fo0, zO (Sd.cells ⟨false, ⟨#[]⟩⟩) fo1, zO (Sd.cells ⟨false, ⟨#[]⟩⟩) fo2, zO (Sd.cells ⟨false, ⟨#[]⟩⟩) fo3] w' ∧ True) 4 [(4, []), (9, [4]), (14, [9]), (18, [14]), (19, []), (20, []), (21, []), (22, [])] ?_ ?_ ?_ 8 ?_
      · rintro old f l a wz ⟨fc0, fc1, fc2, fc3, fo0, fo1, fo2, fo3, hf, hch, rfl, -, -⟩
        rcases hch with ⟨rfl, rfl, rfl, rfl⟩ | ⟨rfl, rfl, rfl, rfl⟩ | ⟨rfl, rfl, rfl, rfl⟩ | ⟨rfl, rfl, rfl, rfl⟩ | ⟨rfl, rfl, rfl, rfl⟩ <;> rcases fo0 with _ | _ <;> rcases fo1 with _ | _ <;> rcases fo2 with _ | _ <;> rcases fo3 with _ | _ <;> first | (exfalso; simp at hf; done) | (exfalso; simp at hf; omega) | kernel_rfl
      · rintro old f l a wz IH ⟨fc0, fc1, fc2, fc3, fo0, fo1, fo2, fo3, hf, hch, rfl, rfl, hF, -⟩ jp hjp hn hq
        simp only [List.mem_cons, List.not_mem_nil, or_false] at hjp
        rcases hjp with rfl | rfl | rfl | rfl | rfl | rfl | rfl | rfl
        · have hc : fc0 = false := by clear hch hf hF IH hq; cases fc0 <;> first | rfl | exact absurd (show (false : Bool) = true from hn.symm.trans (by kernel_rfl)) (by decide)
          obtain ⟨rfl, rfl, rfl, rfl⟩ : fc0 = false ∧ fc1 = false ∧ fc2 = false ∧ fc3 = false := by rcases hch with h9 | h9 | h9 | h9 | h9 <;> simp_all
          clear hn hq hch hc
          refine wpOp_of rfl rfl (fun K hK => ?_)
          simp only [List.getElem_toArray, List.getElem_cons_zero, List.getElem_cons_succ, Act.put, List.setIfInBounds_toArray, List.set_cons_succ, List.set_cons_zero, cond_true, cond_false, List.getElem_toArray]
          refine wp_fn (f := 31) (xs := #[.agg #[.slice A1 n1 c1], .string s]) (by first | (go_simp; done) | (go_simp; rfl)) ((HC1.out wz hF.below).mono ?_)
          rintro e wy ⟨rfl, hb⟩
          refine ⟨_, rfl, ?_⟩
          have hF2 := hF.call hb
          refine hK _ _ ⟨hF2.below, ?_⟩
          refine IH f _ _ _ (Nat.le_refl _) ⟨true, false, false, false, fo0, fo1, fo2, fo3, ?_, (.inr (.inl ⟨rfl, rfl, rfl, rfl⟩)), ?_, ?_, hF2, trivial⟩
          · simp at hf ⊢; omega
          · kernel_rfl
          · kernel_rfl
        · have hc : fc1 = false := by clear hch hf hF IH hq; cases fc1 <;> first | rfl | exact absurd (show (false : Bool) = true from hn.symm.trans (by kernel_rfl)) (by decide)
          have hc2 : fc0 = true := by clear hch hf hF IH hn; cases fc0 <;> first | rfl | exact absurd (show (true : Bool) = false from hq.symm.trans (by kernel_rfl)) (by decide)
          obtain ⟨rfl, rfl, rfl, rfl⟩ : fc0 = true ∧ fc1 = false ∧ fc2 = false ∧ fc3 = false := by rcases hch with h9 | h9 | h9 | h9 | h9 <;> simp_all
          clear hn hq hch hc
          refine wpOp_of rfl rfl (fun K hK => ?_)
          simp only [List.getElem_toArray, List.getElem_cons_zero, List.getElem_cons_succ, Act.put, List.setIfInBounds_toArray, List.set_cons_succ, List.set_cons_zero, cond_true, cond_false, List.getElem_toArray]
          refine wp_fn (f := 31) (xs := #[.agg #[.slice A2 n2 c2], .string s]) (by first | (go_simp; done) | (go_simp; rfl)) ((HC2.out wz hF.below).mono ?_)
          rintro e wy ⟨rfl, hb⟩
          refine ⟨_, rfl, ?_⟩
          have hF2 := hF.call hb
          refine hK _ _ ⟨hF2.below, ?_⟩
          refine IH f _ _ _ (Nat.le_refl _) ⟨true, true, false, false, fo0, fo1, fo2, fo3, ?_, (.inr (.inr (.inl ⟨rfl, rfl, rfl, rfl⟩))), ?_, ?_, hF2, trivial⟩
          · simp at hf ⊢; omega
          · kernel_rfl
          · kernel_rfl
        · have hc : fc2 = false := by clear hch hf hF IH hq; cases fc2 <;> first | rfl | exact absurd (show (false : Bool) = true from hn.symm.trans (by kernel_rfl)) (by decide)
          have hc2 : fc1 = true := by clear hch hf hF IH hn; cases fc1 <;> first | rfl | exact absurd (show (true : Bool) = false from hq.symm.trans (by kernel_rfl)) (by decide)
          obtain ⟨rfl, rfl, rfl, rfl⟩ : fc0 = true ∧ fc1 = true ∧ fc2 = false ∧ fc3 = false := by rcases hch with h9 | h9 | h9 | h9 | h9 <;> simp_all
          clear hn hq hch hc
          refine wpOp_of rfl rfl (fun K hK => ?_)
          simp only [List.getElem_toArray, List.getElem_cons_zero, List.getElem_cons_succ, Act.put, List.setIfInBounds_toArray, List.set_cons_succ, List.set_cons_zero, cond_true, cond_false, List.getElem_toArray]
          refine wp_fn (f := 31) (xs := #[.agg #[.slice A3 n3 c3], .string s]) (by first | (go_simp; done) | (go_simp; rfl)) ((HC3.out wz hF.below).mono ?_)
          rintro e wy ⟨rfl, hb⟩
          refine ⟨_, rfl, ?_⟩
          have hF2 := hF.call hb
          refine hK _ _ ⟨hF2.below, ?_⟩
          refine IH f _ _ _ (Nat.le_refl _) ⟨true, true, true, false, fo0, fo1, fo2, fo3, ?_, (.inr (.inr (.inr (.inl ⟨rfl, rfl, rfl, rfl⟩)))), ?_, ?_, hF2, trivial⟩
          · simp at hf ⊢; omega
          · kernel_rfl
          · kernel_rfl
        · have hc : fc3 = false := by clear hch hf hF IH hq; cases fc3 <;> first | rfl | exact absurd (show (false : Bool) = true from hn.symm.trans (by kernel_rfl)) (by decide)
          have hc2 : fc2 = true := by clear hch hf hF IH hn; cases fc2 <;> first | rfl | exact absurd (show (true : Bool) = false from hq.symm.trans (by kernel_rfl)) (by decide)
          obtain ⟨rfl, rfl, rfl, rfl⟩ : fc0 = true ∧ fc1 = true ∧ fc2 = true ∧ fc3 = false := by rcases hch with h9 | h9 | h9 | h9 | h9 <;> simp_all
          clear hn hq hch hc
          refine wpOp_of rfl rfl (fun K hK => ?_)
          simp only [List.getElem_toArray, List.getElem_cons_zero, List.getElem_cons_succ, Act.put, List.setIfInBounds_toArray, List.set_cons_succ, List.set_cons_zero, cond_true, cond_false, List.getElem_toArray]
          refine wp_fn (f := 31) (xs := #[.agg #[.slice C5 m5 d5], .string s]) (by first | (go_simp; done) | (go_simp; rfl)) ((HC4.out wz hF.below).mono ?_)
          rintro e wy ⟨rfl, hb⟩
          refine ⟨_, rfl, ?_⟩
          have hF2 := hF.call hb
          refine hK _ _ ⟨hF2.below, ?_⟩
          refine IH f _ _ _ (Nat.le_refl _) ⟨true, true, true, true, fo0, fo1, fo2, fo3, ?_, (.inr (.inr (.inr (.inr (⟨rfl, rfl, rfl, rfl⟩))))), ?_, ?_, hF2, trivial⟩
          · simp at hf ⊢; omega
          · kernel_rfl
          · kernel_rfl
        · have hc : fo0 = none := by clear hch hf hF IH hq; cases fo0 <;> first | rfl | exact absurd (show (false : Bool) = true from hn.symm.trans (by kernel_rfl)) (by decide)
          subst hc
          clear hn hq
          refine wpOp_of rfl rfl (fun K hK => ?_)
          simp only [List.getElem_toArray, List.getElem_cons_zero, List.getElem_cons_succ, Act.put, List.setIfInBounds_toArray, List.set_cons_succ, List.set_cons_zero, cond_true, cond_false, List.getElem_toArray]
          refine wp_alloc_as _ rfl _ zero_sd ?_
          have hb : Below wz.heap.size wz (wz.alloc (.cells (Sd.cells ⟨false, ⟨#[]⟩⟩).toArray 41)) := (Below.refl _ _).alloc (Nat.le_refl _) _
          refine hK _ _ ⟨(hF.alloc 0 (Sd.cells ⟨false, ⟨#[]⟩⟩) 41 rfl).below, IH f _ _ _ (Nat.le_refl _) ⟨fc0, fc1, fc2, fc3, some wz.heap.size, fo1, fo2, fo3, ?_, hch, ?_, ?_, hF.alloc 0 (Sd.cells ⟨false, ⟨#[]⟩⟩) 41 rfl, trivial⟩⟩
          · simp at hf ⊢; omega
          · kernel_rfl
          · kernel_rfl
        · have hc : fo1 = none := by clear hch hf hF IH hq; cases fo1 <;> first | rfl | exact absurd (show (false : Bool) = true from hn.symm.trans (by kernel_rfl)) (by decide)
          subst hc
          clear hn hq
          refine wpOp_of rfl rfl (fun K hK => ?_)
          simp only [List.getElem_toArray, List.getElem_cons_zero, List.getElem_cons_succ, Act.put, List.setIfInBounds_toArray, List.set_cons_succ, List.set_cons_zero, cond_true, cond_false, List.getElem_toArray]
          refine wp_alloc_as _ rfl _ zero_sd ?_
          have hb : Below wz.heap.size wz (wz.alloc (.cells (Sd.cells ⟨false, ⟨#[]⟩⟩).toArray 41)) := (Below.refl _ _).alloc (Nat.le_refl _) _
          refine hK _ _ ⟨(hF.alloc 1 (Sd.cells ⟨false, ⟨#[]⟩⟩) 41 rfl).below, IH f _ _ _ (Nat.le_refl _) ⟨fc0, fc1, fc2, fc3, fo0, some wz.heap.size, fo2, fo3, ?_, hch, ?_, ?_, hF.alloc 1 (Sd.cells ⟨false, ⟨#[]⟩⟩) 41 rfl, trivial⟩⟩
          · simp at hf ⊢; omega
          · kernel_rfl
          · kernel_rfl
        · have hc : fo2 = none := by clear hch hf hF IH hq; cases fo2 <;> first | rfl | exact absurd (show (false : Bool) = true from hn.symm.trans (by kernel_rfl)) (by decide)
          subst hc
          clear hn hq
          refine wpOp_of rfl rfl (fun K hK => ?_)
          simp only [List.getElem_toArray, List.getElem_cons_zero, List.getElem_cons_succ, Act.put, List.setIfInBounds_toArray, List.set_cons_succ, List.set_cons_zero, cond_true, cond_false, List.getElem_toArray]
          refine wp_alloc_as _ rfl _ zero_sd ?_
          have hb : Below wz.heap.size wz (wz.alloc (.cells (Sd.cells ⟨false, ⟨#[]⟩⟩).toArray 41)) := (Below.refl _ _).alloc (Nat.le_refl _) _
          refine hK _ _ ⟨(hF.alloc 2 (Sd.cells ⟨false, ⟨#[]⟩⟩) 41 rfl).below, IH f _ _ _ (Nat.le_refl _) ⟨fc0, fc1, fc2, fc3, fo0, fo1, some wz.heap.size, fo3, ?_, hch, ?_, ?_, hF.alloc 2 (Sd.cells ⟨false, ⟨#[]⟩⟩) 41 rfl, trivial⟩⟩
          · simp at hf ⊢; omega
          · kernel_rfl
          · kernel_rfl
        · have hc : fo3 = none := by clear hch hf hF IH hq; cases fo3 <;> first | rfl | exact absurd (show (false : Bool) = true from hn.symm.trans (by kernel_rfl)) (by decide)
          subst hc
          clear hn hq
          refine wpOp_of rfl rfl (fun K hK => ?_)
          simp only [List.getElem_toArray, List.getElem_cons_zero, List.getElem_cons_succ, Act.put, List.setIfInBounds_toArray, List.set_cons_succ, List.set_cons_zero, cond_true, cond_false, List.getElem_toArray]
          refine wp_alloc_as _ rfl _ zero_sd ?_
          have hb : Below wz.heap.size wz (wz.alloc (.cells (Sd.cells ⟨false, ⟨#[]⟩⟩).toArray 41)) := (Below.refl _ _).alloc (Nat.le_refl _) _
          refine hK _ _ ⟨(hF.alloc 3 (Sd.cells ⟨false, ⟨#[]⟩⟩) 41 rfl).below, IH f _ _ _ (Nat.le_refl _) ⟨fc0, fc1, fc2, fc3, fo0, fo1, fo2, some wz.heap.size, ?_, hch, ?_, ?_, hF.alloc 3 (Sd.cells ⟨false, ⟨#[]⟩⟩) 41 rfl, trivial⟩⟩
          · simp at hf ⊢; omega
          · kernel_rfl
          · kernel_rfl
      · rintro old l a wz ⟨fc0, fc1, fc2, fc3, fo0, fo1, fo2, fo3, hf, hch, rfl, rfl, hF, -⟩
        obtain rfl := nat0 (c := fc0) (by omega)
        obtain rfl := nat0 (c := fc1) (by omega)
        obtain rfl := nat0 (c := fc2) (by omega)
        obtain rfl := nat0 (c := fc3) (by omega)
        obtain ⟨b0, rfl⟩ := opt0 (o := fo0) (by omega)
        obtain ⟨b1, rfl⟩ := opt0 (o := fo1) (by omega)
        obtain ⟨b2, rfl⟩ := opt0 (o := fo2) (by omega)
        obtain ⟨b3, rfl⟩ := opt0 (o := fo3) (by omega)
        simp only [List.getElem_toArray, List.getElem_cons_zero, List.getElem_cons_succ, Act.put, List.setIfInBounds_toArray, List.set_cons_succ, List.set_cons_zero, cond_true, cond_false, List.getElem_toArray, ptrO, Option.isSome_some]
        clear hf hch
        have F0 : Hid (Fr wr 2 [some (b0, (Sd.cells ⟨false, ⟨#[]⟩⟩)), some (b1, (Sd.cells ⟨false, ⟨#[]⟩⟩)), some (b2, (Sd.cells ⟨false, ⟨#[]⟩⟩)), some (b3, (Sd.cells ⟨false, ⟨#[]⟩⟩))] wz) := Lib.hid hF
        clear hF
        obtain ⟨wz0, hw0⟩ : ∃ w9, World.setCells wz b0 0 (Sd.cells s1) = w9 := ⟨_, rfl⟩
        have F1 : Hid (Fr wr 2 [some (b0, (Sd.cells s1)), some (b1, (Sd.cells ⟨false, ⟨#[]⟩⟩)), some (b2, (Sd.cells ⟨false, ⟨#[]⟩⟩)), some (b3, (Sd.cells ⟨false, ⟨#[]⟩⟩))] wz0) := Lib.hid (by rw [← hw0]; exact F0.out.store 0 b0 rfl (Sd.cells s1) rfl)
        refine wpAnyH_ready (rs := [23]) (by kernel_rfl) (by simp) (AllReadyH.cons rfl (fun K hK => ?_) AllReadyH.nil)
        rw [if_pos (by rfl)]
        refine wp_store_as _ _ _ rfl b0 0 (Sd.cells s1) rfl rfl (F0.out.there 0 b0 rfl) (size_sd _) rfl hw0 ?_
        clear hw0
        refine hK.out _ _ F1.out.below (fun _ => ?_)
        simp only [List.getElem_toArray, List.getElem_cons_zero, List.getElem_cons_succ, Act.put, List.setIfInBounds_toArray, List.set_cons_succ, List.set_cons_zero]
        clear F0
        obtain ⟨wz1, hw1⟩ : ∃ w9, World.setCells wz0 b1 0 (Sd.cells s2) = w9 := ⟨_, rfl⟩
        have F2 : Hid (Fr wr 2 [some (b0, (Sd.cells s1)), some (b1, (Sd.cells s2)), some (b2, (Sd.cells ⟨false, ⟨#[]⟩⟩)), some (b3, (Sd.cells ⟨false, ⟨#[]⟩⟩))] wz1) := Lib.hid (by rw [← hw1]; exact F1.out.store 1 b1 rfl (Sd.cells s2) rfl)
        refine wpAnyH_ready (rs := [24]) (by kernel_rfl) (by simp) (AllReadyH.cons rfl (fun K hK => ?_) AllReadyH.nil)
        rw [if_pos (by rfl)]
        refine wp_store_as _ _ _ rfl b1 0 (Sd.cells s2) rfl rfl (F1.out.there 1 b1 rfl) (size_sd _) rfl hw1 ?_
        clear hw1
        refine hK.out _ _ F2.out.below (fun _ => ?_)
        simp only [List.getElem_toArray, List.getElem_cons_zero, List.getElem_cons_succ, Act.put, List.setIfInBounds_toArray, List.set_cons_succ, List.set_cons_zero]
        clear F1
        obtain ⟨wz2, hw2⟩ : ∃ w9, World.setCells wz1 b2 0 (Sd.cells s3) = w9 := ⟨_, rfl⟩
        have F3 : Hid (Fr wr 2 [some (b0, (Sd.cells s1)), some (b1, (Sd.cells s2)), some (b2, (Sd.cells s3)), some (b3, (Sd.cells ⟨false, ⟨#[]⟩⟩))] wz2) := Lib.hid (by rw [← hw2]; exact F2.out.store 2 b2 rfl (Sd.cells s3) rfl)
        refine wpAnyH_ready (rs := [25]) (by kernel_rfl) (by simp) (AllReadyH.cons rfl (fun K hK => ?_) AllReadyH.nil)
        rw [if_pos (by rfl)]
        refine wp_store_as _ _ _ rfl b2 0 (Sd.cells s3) rfl rfl (F2.out.there 2 b2 rfl) (size_sd _) rfl hw2 ?_
        clear hw2
        refine hK.out _ _ F3.out.below (fun _ => ?_)
        simp only [List.getElem_toArray, List.getElem_cons_zero, List.getElem_cons_succ, Act.put, List.setIfInBounds_toArray, List.set_cons_succ, List.set_cons_zero]
        clear F2
        obtain ⟨wz3, hw3⟩ : ∃ w9, World.setCells wz2 b3 0 (Sd.cells s4) = w9 := ⟨_, rfl⟩
        have F4 : Hid (Fr wr 2 [some (b0, (Sd.cells s1)), some (b1, (Sd.cells s2)), some (b2, (Sd.cells s3)), some (b3, (Sd.cells s4))] wz3) := Lib.hid (by rw [← hw3]; exact F3.out.store 3 b3 rfl (Sd.cells s4) rfl)
        refine wpAnyH_ready (rs := [26]) (by kernel_rfl) (by simp) (AllReadyH.cons rfl (fun K hK => ?_) AllReadyH.nil)
        rw [if_pos (by rfl)]
        refine wp_store_as _ _ _ rfl b3 0 (Sd.cells s4) rfl rfl (F3.out.there 3 b3 rfl) (size_sd _) rfl hw3 ?_
        clear hw3
        refine hK.out _ _ F4.out.below (fun _ => ?_)
        simp only [List.getElem_toArray, List.getElem_cons_zero, List.getElem_cons_succ, Act.put, List.setIfInBounds_toArray, List.set_cons_succ, List.set_cons_zero]
        clear F3
        refine wpAnyH_done (by kernel_rfl) ?_ _
        refine NoPanic.normal ?_
        generalize wz3 = w9 at F4 ⊢
        have HF := F4
        have F9 := HF.out
        have GE := Lib.hid (hgr.out.trans (F9.below.mono hgr.out.size))
        have y0 := (F9.bx 0 b0 s1.cells rfl).1
        have a0 := y0.rg 0 _ rfl
        have b_0 := y0.rg 1 _ rfl
        have y1 := (F9.bx 1 b1 s2.cells rfl).1
        have a1 := y1.rg 0 _ rfl
        have b_1 := y1.rg 1 _ rfl
        have y2 := (F9.bx 2 b2 s3.cells rfl).1
        have a2 := y2.rg 0 _ rfl
        have b_2 := y2.rg 1 _ rfl
        have y3 := (F9.bx 3 b3 s4.cells rfl).1
        have a3 := y3.rg 0 _ rfl
        have b_3 := y3.rg 1 _ rfl
        simp only [Nat.zero_add] at a0 a1 a2 a3 b_0 b_1 b_2 b_3
        clear F9 HF HC1 HC2 HC3 HC4 y0 y1 y2 y3
        obtain ⟨e1, e2, e3, e4, e5, e6, e7, e8, e9⟩ := HE.out
        have hgd := sd_guard
        cases xb
        · cases xo
          · cases xr
            · exact absurd HWH.out (by cases bo <;> cases br <;> decide)
            · cases bo
              · cases br
                · go_wp2_with fail
                  go_roundw
                  case rel => exact ⟨k + 1, by omega, by go_num, GE⟩
                  case measure => simp [intOf]; omega
                · exact absurd HWH.out (by decide)
              · cases br
                · go_wp2_with fail
                  go_roundw
                  case rel => exact ⟨k + 1, by omega, by go_num, GE⟩
                  case measure => simp [intOf]; omega
                · exact absurd HWH.out (by decide)
          · cases bo
            · cases br
              · go_wp2_with fail
                go_roundw
                case rel => exact ⟨k + 1, by omega, by go_num, GE⟩
                case measure => simp [intOf]; omega
              · go_wp2_with fail
                go_roundw
                case rel => exact ⟨k + 1, by omega, by go_num, GE⟩
                case measure => simp [intOf]; omega
            · cases br
              · cases xr
                · exact absurd HWH.out (by decide)
                · go_wp2_with fail
                  go_roundw
                  case rel => exact ⟨k + 1, by omega, by go_num, GE⟩
                  case measure => simp [intOf]; omega
              · exact absurd HWH.out (by cases xr <;> decide)
        · cases bo
          · cases br
            · go_wp2_with fail
              go_roundw
              case rel => exact ⟨k + 1, by omega, by go_num, GE⟩
              case measure => simp [intOf]; omega
            · cases xo
              · exact absurd HWH.out (by cases xr <;> decide)
              · go_wp2_with fail
                go_roundw
                case rel => exact ⟨k + 1, by omega, by go_num, GE⟩
                case measure => simp [intOf]; omega
          · cases br
            · cases xr
              · exact absurd HWH.out (by cases xo <;> decide)
              · go_wp2_with fail
                go_roundw
                case rel => exact ⟨k + 1, by omega, by go_num, GE⟩
                case measure => simp [intOf]; omega
            · go_wp2_with fail
              go_roundw
              case rel => exact ⟨k + 1, by omega, by go_num, GE⟩
              case measure => simp [intOf]; omega
      · exact ⟨false, false, false, false, none, none, none, none, rfl, .inl ⟨rfl, rfl, rfl, rfl⟩, by kernel_rfl, by kernel_rfl, Fr.start 2 _ (by intro i x; rcases i with _ | _ | _ | _ | _ | i <;> simp [zO]) (Below.refl wr.heap.size wr).drew, trivial⟩
    · obtain rfl : k = n8 := by omega
      have hd : decide ((k : Int) < (k : Int)) = false := by simp
      have GR := Lib.hid (G8.out.trans (hgr.out.mono G8.out.size))
      go_wp2_with fail
      go_ret
      exact ⟨rfl, B0.out.trans (GR.out.mono B0.out.size)⟩

theorem own : ownKnob Try.prog.godebug = none := by kernel_rfl
theorem laidOut : laidOutB Try.prog = true := by kernel_rfl

set_option maxRecDepth 100000 in
theorem lifted (os : Os) (started : os.Started) (H : Type) (enc : TypeId × Value → H) :
    ReturnsInHanded {} Try.checked os 7 .any (Rows.mergeHasSpec.pre6 enc Try.prog Try.f7 Rows.mergeHasRow.domain false) (Rows.mergeHasSpec.post enc Try.prog Try.f7 false true false false) := by
  refine returnsInHanded_of_change (C := Try.checked) own started (by kernel_rfl) Try.func7
    (ChangeSpec.witness6 (enc := enc) (C := Try.checked) false ⟨#[], #[.agg #[.slice none 0 0, .slice none 0 0, .slice none 0 0], .int .i64 0], []⟩ 8 (by kernel_rfl) (by kernel_rfl) (by kernel_rfl) (by kernel_rfl)) ?_
  intro W base args ds gs before hval0 hW hcnd _
  have hval : ∀ (j : Nat) t v, Try.f7.params[j]? = some t → args[j]? = some v → Value.okWide Try.prog W .any base t v := hval0
  have hW' := hW
  obtain ⟨p, q, hA0, hV, rfl, hfz, hnd⟩ := hW
  have hA : DataW.TrodAll enc Try.prog W 0 (fun _ => true) true Try.f7.params.toList args.toList ds p := hA0
  rw [Try.params7] at hA hval
  obtain ⟨v0, vs0, d0, ds0, p0, q0, hargs, rfl, rfl, h0, r0⟩ := trodAll_cons hA
  obtain ⟨v1, vs1, d1, ds1, p1, q1, rfl, rfl, rfl, h1, r1⟩ := trodAll_cons r0
  obtain ⟨rfl, rfl, rfl⟩ := trodAll_nil r1
  obtain rfl : args = #[v0, v1] := by cases args; simp_all
  obtain ⟨rfl, rfl⟩ := trodVars_none hV
  have k0 := h0
  have lt0 : ∀ x ∈ p0, x.block < W.heap.size := by obtain ⟨m, hm⟩ := k0; exact DataW.trod_lt m _ _ _ hm
  obtain ⟨A1, n1, c1, l1, A2, n2, c2, l2, A3, n3, c3, l3, rfl, s1, s2, s3⟩ := three_arg (hval 0 26 v0 rfl rfl) h0
  have k1 := h1
  have lt1 : ∀ x ∈ p1, x.block < W.heap.size := by obtain ⟨m, hm⟩ := k1; exact DataW.trod_lt m _ _ _ hm
  obtain ⟨a1, rfl, e1, f1, w1⟩ := open_int Try.underlying3 (hval 1 3 v1 rfl rfl) h1
  have b1 := bounds_i64 w1
  clear hA0 hval0
  refine (walk A1 n1 c1 l1 A2 n2 c2 l2 A3 n3 c3 l3 a1 W s1 s2 s3).mono fun e W' ⟨he, bel⟩ => ?_
  subst he
  exact ⟨_, rfl, _, _, _, [], _, [], hW', trodAll_mk1 (shut_bool Try.underlying4 _), (trodAll_cons_mk (Below.trod laidOut (by kernel_rfl) (of_decide_eq_true (by kernel_rfl)) k0 bel lt0) (trodAll_cons_mk (Below.trod laidOut (by kernel_rfl) (of_decide_eq_true (by kernel_rfl)) k1 bel lt1) trodAll_mk0)), rfl, bel.frame _, fun h => by cases h⟩

theorem over : Rows.mergeHasRow.holds Try.pinned (OpenSpec.ofChange Rows.mergeHasSpec) :=
  OpenClaim.holds_of_wide 7 Try.f7 rfl rfl rfl rfl rfl rfl rfl ⟨rfl, rfl, rfl, rfl, rfl⟩ rfl rfl rfl rfl rfl (by kernel_rfl) Try.func7 (by kernel_rfl)
    (of_decide_eq_true (by kernel_rfl)) (by unfold Func.isWrapper; first | (rw [if_pos (by decide +kernel)]; kernel_rfl) | (rw [if_neg (by decide +kernel)]; exact ⟨rfl, rfl⟩))
    (fun os started H enc _ => lifted os started H enc)

theorem proved : Rows.MergeHasSaid := over
#print axioms proved
end Go.Proofs.Ytkdmlffnkomdhaa.mergeHas
