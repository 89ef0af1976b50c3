/-
  PROVED HERE: an edit done twice is as done once, what it does not say stays, and what it says is there: at every map and every edit.
-/
import Derived.Test.YtjcegafidiifkaaWk
import Derived.Test.YtjcegafidiifkaaLb
import Derived.Test.YtjcegafidiifkaaPy
import Derived.Test.YtjcegafidiifkaaYc
import Derived.Test.YtjcegafidiifkaaTm
import Derived.Test.YtjcegafidiifkaaPo
import Derived.Test.YtjcegafidiifkaaRows
import Derived.ProofKit
import Derived.OpenShut
import Derived.ChangeOld
import Derived.Carry
namespace Go.Proofs.Ytjcegafidiifkaa.pathmapOnce
open Go.ChangeShapes Go.WideShapes Go.ChangeAt Go.RowKit
set_option linter.unusedVariables false
set_option linter.unusedSimpArgs false
open Go.Deep
attribute [local irreducible] wpQuiet

set_option maxRecDepth 100000 in
set_option maxHeartbeats 8000000 in
theorem walk (A : Option Addr) (n c : Nat) (l : List Rw) (A' : Option Addr) (n' c' : Nat) (l' : List Ch) (w : World) (h : SqR w w.heap.size A n c l) (h' : SqC w w.heap.size A' n' c' l') :
    Calls Try.prog 8 #[.agg #[.slice A n c], .agg #[.slice A' n' c']] w fun e w' => e = .returned (.bool true) ∧ Below w.heap.size w w' := by
  have hmm := @run_makeMap Try.prog
  obtain ⟨w0, hw0⟩ : ∃ w0, (w.alloc (.cells #[.slice A n c] 24)).alloc (.cells #[.slice A' n' c'] 27) = w0 := ⟨_, rfl⟩
  have B0 : Hid (Below w.heap.size w w0) := Lib.hid (by rw [← hw0]; exact ((Below.refl _ _).alloc (Nat.le_refl _) _).alloc (by simp) _)
  have X0 : Hid (Lies w0 w.heap.size 1 [.slice A n c]) := Lib.hid (by rw [← hw0]; exact (Lies.new w [.slice A n c] 24).alloc _)
  have X1 : Hid (Lies w0 (w.heap.size + 1) 1 [.slice A' n' c']) := Lib.hid (by
    rw [← hw0]
    have := Lies.new (w.alloc (.cells #[.slice A n c] 24)) [.slice A' n' c'] 27
    rwa [World.size_alloc] at this)
  have HSm : Hid (∀ W, Below w0.heap.size w0 W → SqR W W.heap.size A n c l) := Lib.hid fun W hW => (h.below (B0.out.trans (hW.mono B0.out.size))).more (Nat.le_trans B0.out.size hW.size)
  have HSe : Hid (∀ W, Below w0.heap.size w0 W → SqC W W.heap.size A' n' c' l') := Lib.hid fun W hW => (h'.below (B0.out.trans (hW.mono B0.out.size))).more (Nat.le_trans B0.out.size hW.size)
  have HSB : Hid (∀ W, Below w0.heap.size w0 W → SqC W w0.heap.size A' n' c' l') := Lib.hid fun W hW => (h'.below (B0.out.trans (hW.mono B0.out.size))).more B0.out.size
  have HQ : Hid (∀ W, Below w0.heap.size w0 W → W.cell? ⟨w.heap.size, 0, none⟩ = some (.slice A n c) ∧ W.cell? ⟨w.heap.size + 1, 0, none⟩ = some (.slice A' n' c')) := Lib.hid fun W hW =>
    ⟨(X0.out.below hW X0.out.lt).cell (j := 0) rfl, (X1.out.below hW X1.out.lt).cell (j := 0) rfl⟩
  have HW := Lib.hid hw0
  have hl := h.len
  have hl' := h'.len
  have HL' := Lib.hid hl'
  clear hw0 h h' X0 X1
  go_enter Try.func8, Try.ntmps8
  go_upto_region 1 with fail
  rw [HW.out]
  clear HW
  go_wp2_with fail
  refine (wakes_any w0).mono ?_
  rintro e w1 ⟨rfl, hb1⟩
  have G1 := Lib.hid hb1
  clear hb1
  obtain ⟨q0, q1⟩ := HQ.out _ G1.out
  go_wp2_with fail
  refine (larges_any (HSm.out _ G1.out) (HSe.out _ G1.out)).mono ?_
  rintro e w3 ⟨(rfl | ⟨rfl, hn, hn', hpm, hpn⟩), hb2⟩
  · have G2 := Lib.hid (G1.out.trans (hb2.mono G1.out.size))
    clear hb2 q0 q1
    go_wp2_with fail
    go_ret
    exact ⟨rfl, B0.out.trans (G2.out.mono B0.out.size)⟩
  have G3 := Lib.hid (G1.out.trans (hb2.mono G1.out.size))
  clear hb2 q0 q1 hpm hpn
  obtain ⟨er, her⟩ : ∃ er, applyE l l' = er := ⟨_, rfl⟩
  obtain ⟨X, hX⟩ : ∃ X, applyW l l' = X := ⟨_, rfl⟩
  have raw_HAP := Apply_any (HSm.out _ G3.out) (by omega) (HSe.out _ G3.out) (by omega)
  rw [her, hX] at raw_HAP
  have HAP := Lib.hid raw_HAP
  clear raw_HAP
  have HER := Lib.hid her
  have HX := Lib.hid hX
  clear her hX
  obtain ⟨q0, q1⟩ := HQ.out _ G3.out
  go_wp2_with fail
  refine HAP.out.mono ?_
  rintro e w4 ⟨A2, n2, c2, rfl, hsq, hb4⟩
  have G4 := Lib.hid (G3.out.trans (hb4.mono G3.out.size))
  clear hb4 q0 q1 HAP
  by_cases he : er = 0
  · subst he
    rw [if_pos rfl] at hsq
    obtain ⟨hrl, hrc, hx32⟩ := applyE_parts HER.out
    obtain ⟨hrX, hE2, hW2⟩ := apply_once HER.out
    rw [HX.out] at hx32 hrX hE2 hW2
    have hn2 := hsq.len
    have HRL := Lib.hid hrl
    have HRC := Lib.hid hrc
    have HRX := Lib.hid hrX
    clear hrl hrc hrX
    obtain ⟨w5, hw5⟩ : ∃ w5, w4.alloc (.cells #[.slice A2 n2 c2] 24) = w5 := ⟨_, rfl⟩
    have B5 : Hid (Below w4.heap.size w4 w5) := Lib.hid (by rw [← hw5]; exact (Below.refl _ _).alloc (Nat.le_refl _) _)
    have E5 : Hid (Lies w5 w4.heap.size 1 [.slice A2 n2 c2]) := Lib.hid (by rw [← hw5]; exact Lies.new w4 [.slice A2 n2 c2] 24)
    have G5 := Lib.hid (G4.out.trans (B5.out.mono G4.out.size))
    have HSX : Hid (∀ W, Below w5.heap.size w5 W → SqR W W.heap.size A2 n2 c2 X) := Lib.hid (fun W hW => ((hsq.below B5.out).more B5.out.size |>.below hW).more hW.size)
    have HE : Hid (∀ W, Below w5.heap.size w5 W → W.cell? ⟨w4.heap.size, 0, none⟩ = some (.slice A2 n2 c2) ∧ W.cell? ⟨w.heap.size, 0, none⟩ = some (.slice A n c) ∧ W.cell? ⟨w.heap.size + 1, 0, none⟩ = some (.slice A' n' c')) := Lib.hid fun W hW => ⟨(E5.out.below hW E5.out.lt).cell (j := 0) rfl, HQ.out _ (G5.out.trans (hW.mono G5.out.size))⟩
    have HS5m : Hid (∀ W, Below w5.heap.size w5 W → SqR W W.heap.size A n c l) := Lib.hid fun W hW => HSm.out _ (G5.out.trans (hW.mono G5.out.size))
    have HS5e : Hid (∀ W, Below w5.heap.size w5 W → SqC W w0.heap.size A' n' c' l') := Lib.hid fun W hW => HSB.out _ (G5.out.trans (hW.mono G5.out.size))
    have HLT := Lib.hid G5.out.size
    have HW := Lib.hid hw5
    have hb0 := Below.refl w5.heap.size w5
    have raw_HAP := Apply_any (HSX.out _ hb0) (by omega) (HSe.out _ G5.out) (by omega)
    rw [hE2, hW2, if_pos rfl] at raw_HAP
    have HAP := Lib.hid raw_HAP
    clear raw_HAP
    clear hsq hw5 hE2 hW2
    go_upto_region 6 with fail
    rw [HW.out]
    clear HW
    obtain ⟨e0, q0, q1⟩ := HE.out _ hb0
    go_wp2_with fail
    refine HAP.out.mono ?_
    rintro e w6 ⟨A3, n3, c3, rfl, hsq, hb6⟩
    have hn3 := hsq.len
    have e32 : n3 = n2 := by omega
    subst e32
    clear q0 q1 e0 HAP hb0
    obtain ⟨w7, hw7⟩ : ∃ w7, w6.alloc (.cells #[.slice A3 n3 c3] 24) = w7 := ⟨_, rfl⟩
    have B7 : Hid (Below w6.heap.size w6 w7) := Lib.hid (by rw [← hw7]; exact (Below.refl _ _).alloc (Nat.le_refl _) _)
    have M7 : Hid (Lies w7 w6.heap.size 1 [.slice A3 n3 c3]) := Lib.hid (by rw [← hw7]; exact Lies.new w6 [.slice A3 n3 c3] 24)
    have G57 := Lib.hid (hb6.trans (B7.out.mono hb6.size))
    have HY := Lib.hid ((hsq.below B7.out).more B7.out.size)
    have HW := Lib.hid hw7
    have raw_HSS := same_any (HSX.out _ G57.out) HY.out (show n3 ≤ 1000000 by omega)
    rw [same_eq rfl] at raw_HSS
    have HSS := Lib.hid raw_HSS
    clear raw_HSS
    clear hsq hw7 hb6
    go_upto_region 9 with fail
    rw [HW.out]
    clear HW
    obtain ⟨e0, q0, q1⟩ := HE.out _ G57.out
    have m0 := M7.out.cell (j := 0) rfl
    go_wp2_with fail
    refine HSS.out.mono ?_
    rintro e w8 ⟨rfl, hb8⟩
    have G58 := Lib.hid (G57.out.trans (hb8.mono G57.out.size))
    have raw_HCK := Check_any (HSX.out _ G58.out) (show n3 ≤ 1000000 by omega)
    rw [HRX.out, if_pos rfl] at raw_HCK
    have HCK := Lib.hid raw_HCK
    clear raw_HCK
    clear hb8 e0 q0 q1 m0 HSS M7 HY B7
    obtain ⟨e0, q0, q1⟩ := HE.out _ G58.out
    go_wp2_with fail
    refine HCK.out.mono ?_
    rintro e w9 ⟨rfl, hb9⟩
    have G59 := Lib.hid (G58.out.trans (hb9.mono G58.out.size))
    clear hb9 e0 q0 q1 HCK G58 G57
    obtain ⟨wm, hwm⟩ : ∃ wm, w9.alloc (.map #[] 0) = wm := ⟨_, rfl⟩
    have BM : Hid (Below w9.heap.size w9 wm) := Lib.hid (by rw [← hwm]; exact (Below.refl _ _).alloc (Nat.le_refl _) _)
    have SM : Hid (Said wm w9.heap.size 0 []) := Lib.hid (by rw [← hwm]; exact Said.made w9)
    have HW := Lib.hid hwm
    clear hwm
    go_upto_region 12 with fail
    rw [HW.out]
    clear HW hmm
    obtain ⟨e0, q0, q1⟩ := HE.out _ (G59.out.trans (BM.out.mono G59.out.size))
    have hm9 := BM.out.size
    go_wp2_with fail
    clear e0 q0 q1
    go_loopw [59] (fun i wr => ∃ k : Nat, k ≤ n' ∧ i = .int .i64 (k : Int) ∧ Hid (Said wr w9.heap.size k ((l'.take k).map Ch.p)) ∧ Hid (Below w9.heap.size w9 wr)) (fun i _ => n' - (intOf i).toNat)
    case atStart => exact ⟨0, Nat.zero_le _, rfl, SM, BM⟩
    case round =>
      obtain ⟨k, hk, rfl, hsd, hb⟩ := hrel
      have G5r := Lib.hid (G59.out.trans (hb.out.mono G59.out.size))
      by_cases hlt : k < n'
      · have hd : decide ((k : Int) < (n' : Int)) = true := by simp; omega
        have hk0 : (0 : Int) ≤ (k : Int) := Int.natCast_nonneg _
        have hk1 : (k : Int) < (n' : Int) := by omega
        obtain ⟨b, o, rfl, hbl, hrg⟩ := (HS5e.out _ G5r.out).at_ hlt
        obtain ⟨r, hr⟩ : ∃ r, l'[k]'(by omega) = r := ⟨_, rfl⟩
        rw [hr] at hrg
        have r0 : wr.cell? ⟨b, o + k * 3, none⟩ = some (.string r.p) := hrg 0 _ rfl
        have r1 : wr.cell? ⟨b, o + k * 3 + 1, none⟩ = some (.bool r.is) := hrg 1 _ rfl
        have r2 : wr.cell? ⟨b, o + k * 3 + 2, none⟩ = some (.string r.t) := hrg 2 _ rfl
        have hrm : r ∈ l' := by rw [← hr]; exact List.getElem_mem _
        have HT : Hid ((l'.take (k + 1)).map Ch.p = (l'.take k).map Ch.p ++ [r.p]) := Lib.hid (by rw [map_take1 (by omega), hr])
        have HSZ := Lib.hid (fitP_size (((rightC_parts HRC.out).2.2 r hrm).1))
        obtain ⟨hs1, hs2⟩ := apply_said HER.out hrm
        rw [HX.out] at hs1 hs2
        have HSA := Lib.hid (fun (W : World) (hW : Below w5.heap.size w5 W) => (by
          have T := Get_any (HSX.out W hW) (show n3 ≤ 1000000 by omega) r.p
          rw [hs1, hs2] at T
          exact T : Calls Try.prog 21 #[.agg #[.slice A2 n3 c2], .string r.p] W fun e w' => e = .returned (.tuple #[.string r.t, .bool r.is]) ∧ Below W.heap.size W w'))
        clear hrg hr hs1 hs2 hrm
        obtain ⟨wa, hwa⟩ : ∃ wa, wr.alloc (.cells #[.string r.p, .bool r.is, .string r.t] 38) = wa := ⟨_, rfl⟩
        have BA : Hid (Below wr.heap.size wr wa) := Lib.hid (by rw [← hwa]; exact (Below.refl _ _).alloc (Nat.le_refl _) _)
        have LA : Hid (Lies wa wr.heap.size 3 [.string r.p, .bool r.is, .string r.t]) := Lib.hid (by rw [← hwa]; exact Lies.new wr [.string r.p, .bool r.is, .string r.t] 38)
        have SA := Lib.hid (hsd.out.below BA.out)
        have HBl := Lib.hid hsd.out.lt
        have B9a := Lib.hid (hb.out.trans (BA.out.mono hb.out.size))
        have HW := Lib.hid hwa
        have HC : Hid (∀ W, Below wa.heap.size wa W ∨ wa.grownBy W (some w9.heap.size) → W.cell? ⟨wr.heap.size, 0, none⟩ = some (.string r.p) ∧ W.cell? ⟨wr.heap.size, 1, none⟩ = some (.bool r.is) ∧ W.cell? ⟨wr.heap.size, 2, none⟩ = some (.string r.t)) := Lib.hid (fun W hW => by
          have hk : W.heap[wr.heap.size]? = wa.heap[wr.heap.size]? := by
            rcases hW with hW | hW
            · exact hW.block _ LA.out.lt
            · exact hW.block _ LA.out.lt (fun e => by injection e with e; have := HBl.out; omega)
          have hz : wa.heap.size ≤ W.heap.size := by
            rcases hW with hW | hW
            · exact hW.size
            · exact hW.size
          exact ⟨(LA.out.kp hk hz).cell (j := 0) rfl, (LA.out.kp hk hz).cell (j := 1) rfl, (LA.out.kp hk hz).cell (j := 2) rfl⟩)
        clear hwa
        go_upto_region 15 with fail
        rw [HW.out]
        clear HW r0 r1 r2
        obtain ⟨x0, x1, x2⟩ := HC.out _ (.inl (Below.refl _ _))
        have hkm : k < maxLen := by unfold maxLen; omega
        go_wp2_with (first
          | (at_mapUpdate; refine Said.update SA.out rfl _ _ _ rfl rfl r.p rfl rfl HSZ.out hkm ?_; intro wu hSu hgu; have SU := Lib.hid hSu; have BU := Lib.hid (B9a.out.grown hgu B9a.out.size (fun j hj => by cases hj; exact Nat.le_refl _)); have GU := Lib.hid hgu; obtain ⟨x0, x1, x2⟩ := HC.out _ (.inr hgu); obtain ⟨e0, q0, q1⟩ := HE.out _ (G59.out.trans (BU.out.mono G59.out.size)); clear hSu hgu)
          | fail)
        have HSU := Lib.hid (HSA.out _ (G59.out.trans (BU.out.mono G59.out.size)))
        refine HSU.out.mono ?_
        rintro e wv ⟨rfl, hbv⟩
        have BV := Lib.hid (BU.out.trans (hbv.mono BU.out.size))
        have SV := Lib.hid (SU.out.below hbv)
        have hcv : ∀ j v, wu.cell? ⟨wr.heap.size, j, none⟩ = some v → wv.cell? ⟨wr.heap.size, j, none⟩ = some v := fun j v hj => (hbv.cell (p := ⟨wr.heap.size, j, none⟩) (block_lt_of_cell hj)).trans hj
        obtain ⟨y0, y1, y2⟩ : wu.cell? ⟨wr.heap.size, 0, none⟩ = some (.string r.p) ∧ wu.cell? ⟨wr.heap.size, 1, none⟩ = some (.bool r.is) ∧ wu.cell? ⟨wr.heap.size, 2, none⟩ = some (.string r.t) := HC.out _ (.inr GU.out)
        have z1 := hcv _ _ y1
        have z2 := hcv _ _ y2
        have d1 : (r.is != r.is) = false := by simp
        have d2 : (r.t.toList == r.t.toList) = true := by simp
        clear hcv y0 y1 y2 hbv HSU HSA
        go_wp2_with fail
        go_roundw
        case rel => exact ⟨k + 1, by omega, by go_num, Lib.hid (by rw [HT.out]; exact SV.out), BV⟩
        case measure => simp [intOf]; omega
      · have hd : decide ((k : Int) < (n' : Int)) = false := by simp; omega
        obtain rfl : n' = k := by omega
        have SL : Hid (Said wr w9.heap.size n' (l'.map Ch.p)) := Lib.hid (by have := hsd.out; rwa [List.take_of_length_le (Nat.le_of_eq HL'.out)] at this)
        obtain ⟨wo, hwo⟩ : ∃ wo : World, wo = wr := ⟨_, rfl⟩
        rw [← hwo] at SL hb G5r ⊢
        clear hsd hwo
        obtain ⟨wb, hwb⟩ : ∃ wb, wo.alloc (.cells #[.slice A n c, .slice A2 n3 c2] 24) = wb := ⟨_, rfl⟩
        have BB : Hid (Below wo.heap.size wo wb) := Lib.hid (by rw [← hwb]; exact (Below.refl _ _).alloc (Nat.le_refl _) _)
        have SQ := Lib.hid (by have T := two_sq A A2 n c n3 c2 l X wo; rw [hwb] at T; exact T : Sq Mp.cells 1 wb wb.heap.size (some ⟨wo.heap.size, 0, none⟩) 2 2 [⟨A, n, c, l⟩, ⟨A2, n3, c2, X⟩])
        have G5b := Lib.hid (G5r.out.trans (BB.out.mono G5r.out.size))
        have SB := Lib.hid (SL.out.below BB.out)
        have raw_HPA := Paths_any SQ.out (mp_all2 ⟨HS5m.out _ G5b.out, by show n ≤ 1000; omega⟩ ⟨HSX.out _ G5b.out, by show n3 ≤ 1000; omega⟩) (by omega)
        obtain ⟨ps, hps⟩ : ∃ ps, ps = pathsW Rw.p [] (l ++ X) := ⟨_, rfl⟩
        simp only [List.flatMap_cons, List.flatMap_nil, List.append_nil] at raw_HPA
        rw [← hps] at raw_HPA
        have HPA := Lib.hid raw_HPA
        clear raw_HPA
        have HFS : Hid (∀ s ∈ ps, s.size ≤ maxLen) := Lib.hid (fun s hs => by
          rw [hps, pathsW_mem] at hs
          simp only [List.mem_append] at hs
          rcases hs with hs | ⟨r, hr | hr, rfl⟩
          · cases hs
          · exact fitP_size ((fitW_mem (rightR_up HRL.out).2).2 r hr)
          · exact fitP_size ((fitW_mem (rightR_up HRX.out).2).2 r hr))
        have HW := Lib.hid hwb
        clear hwb hps
        obtain ⟨e0, q0, q1⟩ := HE.out _ G5r.out
        go_wp2_with fail
        rw [HW.out]
        refine HPA.out.mono ?_
        rintro e wp ⟨⟨A7, n7, c7, rfl, hn7, hs7⟩, hbp⟩
        have G5p := Lib.hid (G5b.out.trans (hbp.mono G5b.out.size))
        have SP := Lib.hid (SB.out.below hbp)
        have HPS : Hid (∀ W, Below wp.heap.size wp W → SqS W W.heap.size A7 n7 c7 ps) := Lib.hid fun W hW => (hs7.below hW).more hW.size
        have hpl := hs7.len
        clear HW hs7 hbp e0 q0 q1 HPA SQ SB
        go_wp2_with fail
        go_loopw [89] (fun i wr => ∃ k : Nat, k ≤ n7 ∧ i = .int .i64 (k : Int) ∧ Hid (Below wp.heap.size wp wr)) (fun i _ => n7 - (intOf i).toNat)
        case atStart => exact ⟨0, Nat.zero_le _, rfl, Lib.hid (Below.refl _ _)⟩
        case round =>
          obtain ⟨k, hk, rfl, hb⟩ := hrel
          have G5w := Lib.hid (G5p.out.trans (hb.out.mono G5p.out.size))
          by_cases hlt : k < n7
          · have hd2 : decide ((k : Int) < (n7 : Int)) = true := by simp; omega
            have hk0 : (0 : Int) ≤ (k : Int) := Int.natCast_nonneg _
            have hk1 : (k : Int) < (n7 : Int) := by omega
            obtain ⟨b, o, rfl, hbl, hrg⟩ := (HPS.out _ hb.out).at_ hlt
            obtain ⟨s, hs⟩ : ∃ s, ps[k]'(by omega) = s := ⟨_, rfl⟩
            rw [hs] at hrg
            have r0 : wr.cell? ⟨b, o + k, none⟩ = some (.string s) := by have := hrg 0 _ rfl; simpa using this
            have HSZ := Lib.hid (HFS.out s (by rw [← hs]; exact List.getElem_mem _))
            clear hrg hs
            obtain ⟨sd, hsd⟩ : ∃ sd, memB (l'.map Ch.p) s = sd := ⟨_, rfl⟩
            have UN : Hid (sd = false → findW Rw.p X s = findW Rw.p l s) := Lib.hid (fun h0 => by
              rw [← HX.out]
              refine apply_unsaid HER.out fun c hc e => ?_
              rw [h0] at hsd
              have := memB_iff.2 (List.mem_map.2 ⟨c, hc, e⟩ : s ∈ l'.map Ch.p)
              rw [hsd] at this
              cases this)
            have HSD := Lib.hid hsd
            obtain ⟨tm, htm⟩ : ∃ tm, textR (findW Rw.p l s) = tm := ⟨_, rfl⟩
            obtain ⟨im, him⟩ : ∃ im, (findW Rw.p l s).isSome = im := ⟨_, rfl⟩
            obtain ⟨tx, htx⟩ : ∃ tx, textR (findW Rw.p X s) = tx := ⟨_, rfl⟩
            obtain ⟨ix, hix⟩ : ∃ ix, (findW Rw.p X s).isSome = ix := ⟨_, rfl⟩
            have EQ : Hid (sd = false → tx = tm ∧ ix = im) := Lib.hid (fun h0 => by rw [← htx, ← hix, UN.out h0]; exact ⟨htm, him⟩)
            have raw_HGM := Get_any (HS5m.out _ G5w.out) (show n ≤ 1000000 by omega) s
            rw [htm, him] at raw_HGM
            have HGM := Lib.hid raw_HGM
            clear raw_HGM
            have HGX := Lib.hid (fun (W : World) (hW : Below w5.heap.size w5 W) => (by
              have T := Get_any (HSX.out W hW) (show n3 ≤ 1000000 by omega) s
              rw [htx, hix] at T
              exact T : Calls Try.prog 21 #[.agg #[.slice A2 n3 c2], .string s] W fun e w' => e = .returned (.tuple #[.string tx, .bool ix]) ∧ Below W.heap.size W w'))
            clear htm him htx hix hsd UN
            obtain ⟨e0, q0, q1⟩ := HE.out _ G5w.out
            go_wp2_with fail
            refine HGM.out.mono ?_
            rintro e wu ⟨rfl, hbu⟩
            have G5u := Lib.hid (G5w.out.trans (hbu.mono G5w.out.size))
            have BU := Lib.hid (hb.out.trans (hbu.mono hb.out.size))
            clear hbu e0 q0 q1 HGM r0
            obtain ⟨e0, q0, q1⟩ := HE.out _ G5u.out
            go_wp2_with fail
            refine (HGX.out _ G5u.out).mono ?_
            rintro e wv ⟨rfl, hbv⟩
            have BV := Lib.hid (BU.out.trans (hbv.mono BU.out.size))
            have SV := Lib.hid (SP.out.below BV.out)
            clear hbv e0 q0 q1 HGX
            cases sd
            · obtain ⟨rfl, rfl⟩ := EQ.out rfl
              have d1 : (ix != ix) = false := by simp
              have d2 : (tx.toList == tx.toList) = true := by simp
              clear EQ
              go_wp2_with (first | (at_lookup; refine Said.lookup SV.out rfl _ _ rfl rfl s rfl HSZ.out false HSD.out ?_) | fail)
              go_roundw
              case rel => exact ⟨k + 1, by omega, by go_num, BV⟩
              case measure => simp [intOf]; omega
            · clear EQ
              go_wp2_with (first | (at_lookup; refine Said.lookup SV.out rfl _ _ rfl rfl s rfl HSZ.out true HSD.out ?_) | fail)
              go_roundw
              case rel => exact ⟨k + 1, by omega, by go_num, BV⟩
              case measure => simp [intOf]; omega
          · have hd2 : decide ((k : Int) < (n7 : Int)) = false := by simp; omega
            go_wp2_with fail
            go_ret
            exact ⟨rfl, B0.out.trans ((G5.out.trans (G5w.out.mono G5.out.size)).mono B0.out.size)⟩
  · have d1 : (er == 0) = false := by simpa using he
    have d2 : (er != 0) = true := by simpa using he
    rw [if_neg he] at hsq
    have hn2 : n2 = 0 := by rw [← hsq.len]; rfl
    subst hn2
    clear hsq
    go_wp2_with fail
    go_ret
    exact ⟨rfl, B0.out.trans ((G4.out.alloc G4.out.size _).mono B0.out.size)⟩

theorem own : ownKnob Try.prog.godebug = none := by kernel_rfl
theorem laidOut : laidOutB Try.prog = true := by kernel_rfl

set_option maxRecDepth 100000 in
theorem lifted (os : Os) (started : os.Started) (H : Type) (enc : TypeId × Value → H) :
    ReturnsInHanded {} Try.checked os 8 .any (Rows.pathmapOnceSpec.pre6 enc Try.prog Try.f8 Rows.pathmapOnceRow.domain false) (Rows.pathmapOnceSpec.post enc Try.prog Try.f8 false true false false) := by
  refine returnsInHanded_of_change (C := Try.checked) own started (by kernel_rfl) Try.func8
    (ChangeSpec.witness6 (enc := enc) (C := Try.checked) false ⟨#[], #[.agg #[.slice none 0 0], .agg #[.slice none 0 0]], []⟩ 8 (by kernel_rfl) (by kernel_rfl) (by kernel_rfl) (by kernel_rfl)) ?_
  intro W base args ds gs before hval0 hW hcnd _
  have hval : ∀ (j : Nat) t v, Try.f8.params[j]? = some t → args[j]? = some v → Value.okWide Try.prog W .any base t v := hval0
  have hW' := hW
  obtain ⟨p, q, hA0, hV, rfl, hfz, hnd⟩ := hW
  have hA : DataW.TrodAll enc Try.prog W 0 (fun _ => true) true Try.f8.params.toList args.toList ds p := hA0
  rw [Try.params8] at hA hval
  obtain ⟨v0, vs0, d0, ds0, p0, q0, hargs, rfl, rfl, h0, r0⟩ := trodAll_cons hA
  obtain ⟨v1, vs1, d1, ds1, p1, q1, rfl, rfl, rfl, h1, r1⟩ := trodAll_cons r0
  obtain ⟨rfl, rfl, rfl⟩ := trodAll_nil r1
  obtain rfl : args = #[v0, v1] := by cases args; simp_all
  obtain ⟨rfl, rfl⟩ := trodVars_none hV
  have k0 := h0
  have lt0 : ∀ x ∈ p0, x.block < W.heap.size := by obtain ⟨m, hm⟩ := k0; exact DataW.trod_lt m _ _ _ hm
  obtain ⟨A0, n0, c0, l0, rfl, s0⟩ := map_arg (hval 0 24 v0 rfl rfl) h0
  have k1 := h1
  have lt1 : ∀ x ∈ p1, x.block < W.heap.size := by obtain ⟨m, hm⟩ := k1; exact DataW.trod_lt m _ _ _ hm
  obtain ⟨A1, n1, c1, l1, rfl, s1⟩ := edit_arg (hval 1 27 v1 rfl rfl) h1
  clear hA0 hval0
  refine (walk A0 n0 c0 l0 A1 n1 c1 l1 W s0 s1).mono fun e W' ⟨he, bel⟩ => ?_
  subst he
  exact ⟨_, rfl, _, _, _, [], _, [], hW', trodAll_mk1 (shut_bool Try.underlying4 _), (trodAll_cons_mk (Below.trod laidOut (by kernel_rfl) (of_decide_eq_true (by kernel_rfl)) k0 bel lt0) (trodAll_cons_mk (Below.trod laidOut (by kernel_rfl) (of_decide_eq_true (by kernel_rfl)) k1 bel lt1) trodAll_mk0)), rfl, bel.frame _, fun h => by cases h⟩

theorem over : Rows.pathmapOnceRow.holds Try.pinned (OpenSpec.ofChange Rows.pathmapOnceSpec) :=
  OpenClaim.holds_of_wide 8 Try.f8 rfl rfl rfl rfl rfl rfl rfl ⟨rfl, rfl, rfl, rfl, rfl⟩ rfl rfl rfl rfl rfl (by kernel_rfl) Try.func8 (by kernel_rfl)
    (of_decide_eq_true (by kernel_rfl)) (by unfold Func.isWrapper; first | (rw [if_pos (by decide +kernel)]; kernel_rfl) | (rw [if_neg (by decide +kernel)]; exact ⟨rfl, rfl⟩))
    (fun os started H enc _ => lifted os started H enc)

theorem proved : Rows.PathmapOnceSaid := over
#print axioms proved
end Go.Proofs.Ytjcegafidiifkaa.pathmapOnce
