/-
  PROVED HERE: the law ObjectTrees of layer 6 (object): the parts of a map that may be are known by their digests, each stands there once, and its tree's leaves lead to the map's texts; else the error is ErrMap, ErrFull or ErrTwin, with no parts. Conditions: the package variable sha.constants holds what the program's text lays (the card ties it).
-/
import Derived.Test.YtnkhoghdfncgpaaDoorK43
import Derived.Test.YtnkhoghdfncgpaaDoorK41
import Derived.Test.YtnkhoghdfncgpaaDoorCards
import Derived.Test.YtnkhoghdfncgpaaDoorTie
import Derived.SevenTiedAt
namespace Go.Proofs.YtnkhoghdfncgpaaDoor.objectTrees
open Go.ChangeShapes Go.WideShapes Go.ChangeAt Go.RowKit
set_option linter.unusedVariables false
set_option linter.unusedSimpArgs false
open Go.Deep Go.Shelf
attribute [local irreducible] wpQuiet

set_option maxRecDepth 100000 in
set_option maxHeartbeats 8000000 in
theorem walk {w : World} {A : Option Addr} {n c : Nat} {rs : List Rw} (hr : SqR w w.heap.size A n c rs) (hg : S3.GK w) :
    Calls Tryd.prog 5 #[.agg #[.slice A n c]] w fun e w' => e = .returned (.bool true) ∧ Below w.heap.size w w' := by
  have h00 := hg.lt
  have HG := Lib.hid hg
  have HR := Lib.hid hr
  have hmm := @run_makeMap Tryd.prog
  obtain ⟨X, hX⟩ : ∃ X, w.heap.size = X := ⟨_, rfl⟩
  obtain ⟨w0, hw0⟩ : ∃ w0, w.alloc (.cells #[.slice A n c] 50) = w0 := ⟨_, rfl⟩
  have B0 : Hid (Below w.heap.size w w0 ∧ w0.heap.size = X + 1) := Lib.hid (by rw [← hw0]; exact ⟨(Below.refl _ _).alloc (Nat.le_refl _) _, by simp [hX]⟩)
  have X0 : Hid (Lies w0 X 1 [.slice A n c]) := Lib.hid (by rw [← hw0, ← hX]; exact Lies.new w [.slice A n c] 50)
  obtain ⟨zz, hzz⟩ : ∃ z, zOf = z := ⟨_, rfl⟩
  have ZO : Hid (∀ w : World, (zeroValue 31).run Tryd.prog w = .ok (.agg zz.cells.toArray) w) := Lib.hid (by rw [← hzz]; exact zero_of)
  obtain ⟨zI, hzI⟩ : ∃ z, Idv.zero = z := ⟨_, rfl⟩
  have ZI : Hid (∀ w : World, (zeroValue 24).run Tryd.prog w = .ok (.agg zI.cells.toArray) w) := Lib.hid (by rw [← hzI]; exact zero_id)
  have ZH : Hid (∀ w : World, (zeroValue 57).run Tryd.prog w = .ok (.agg (hdC zI zz).toArray) w) := Lib.hid (by rw [← hzI, ← hzz]; exact zero_hd)
  obtain ⟨zl, hzl⟩ : ∃ z, zLf = z := ⟨_, rfl⟩
  have ZL : Hid (∀ w : World, (zeroValue 60).run Tryd.prog w = .ok (.agg zl.cells.toArray) w) := Lib.hid (by rw [← hzl]; exact zero_lf)
  have HW := Lib.hid hw0
  clear hw0 hr hg hzz hzI hzl
  go_enter Tryd.func5, Tryd.ntmps5
  go_upto_region 1 with fail
  rw [HW.out]
  (try rw [hX])
  go_wp2_with fail
  refine (owakes_any (gk_keep HG.out B0.out.1 h00)).mono ?_
  rintro e w1 ⟨rfl, hb1⟩
  have B1 : Hid (Below w.heap.size w w1 ∧ X < w1.heap.size) := Lib.hid ⟨B0.out.1.trans (hb1.mono B0.out.1.size), by have := B0.out.2; have := hb1.size; omega⟩
  have Y0 := Lib.hid (X0.out.below hb1 X0.out.lt)
  have q0 := Y0.out.cell (j := 0) rfl
  clear hb1 X0 B0 HW
  go_wp2_with fail
  refine (otexts_any ((HR.out.below B1.out.1).more B1.out.1.size)).mono ?_
  rintro e w2 ⟨⟨A1, n1, c1, rfl, _, hs1, hn1⟩, hb2⟩
  clear q0
  have Y2 := Lib.hid (Y0.out.below hb2 Y0.out.lt)
  have q0 := Y2.out.cell (j := 0) rfl
  have f0 := Y2.out.frozen (j := 0) (by omega)
  obtain ⟨ts, hts⟩ : ∃ t, textsR rs = t := ⟨_, rfl⟩
  rw [hts] at hs1
  clear hts
  obtain ⟨w3, hw3⟩ : ∃ w3, w2.setCell ⟨X, 0, none⟩ (.slice A1 n1 c1) = w3 := ⟨_, rfl⟩
  have Y3 : Hid (Lies w3 X 1 [.slice A1 n1 c1]) := Lib.hid (by rw [← hw3]; exact Y2.out.set1 0 _)
  have B3 : Hid (Below w.heap.size w w3 ∧ X < w3.heap.size) := Lib.hid (by rw [← hw3]; exact ⟨(B1.out.1.trans (hb2.mono B1.out.1.size)).setCell (p := ⟨X, 0, none⟩) (by show w.heap.size ≤ X; omega) _, by rw [World.size_setCell]; have := B1.out.2; have := hb2.size; omega⟩)
  have O3 : Hid (w3.ownsRow w1.heap.size 62 2 (.slice A1 n1 c1) n1 (ts.flatMap Rw.cells)) := Lib.hid (by rw [← hw3]; exact ownsRow_setCell_below (a := ⟨X, 0, none⟩) hs1 B1.out.2 _)
  have HS3 : Hid (SqR w3 w3.heap.size A1 n1 c1 ts) := Lib.hid (own_sq O3.out rw_sz (by omega))
  have HG3 : Hid (S3.GK w3) := Lib.hid (gk_keep HG.out B3.out.1 h00)
  have HW3 := Lib.hid hw3
  go_upto_region 4 with fail
  (try rw [HW3.out])
  clear q0 f0 hw3 HW3 hs1 hb2 Y2 Y0 B1
  have q0 := Y3.out.cell (j := 0) rfl
  go_wp2_with fail
  refine (Parts_any HS3.out (by omega) HG3.out).mono ?_
  rintro e w4 ⟨⟨A9, n9, c9, rfl, hgo⟩, hb4⟩
  dsimp only
  obtain ⟨ys, hsq, hel, hmap⟩ := hgo.ex
  have B4 : Hid (Below w.heap.size w w4 ∧ X < w4.heap.size) := Lib.hid ⟨B3.out.1.trans (hb4.mono B3.out.1.size), by have := B3.out.2; have := hb4.size; omega⟩
  have HF : Hid (∀ W, Below w4.heap.size w4 W → W.cell? ⟨X, 0, none⟩ = some (.slice A1 n1 c1) ∧ SqR W W.heap.size A1 n1 c1 ts ∧ S3.GK W ∧ SqH W W.heap.size A9 n9 c9 (ys.map El.hd) ∧ (∀ y ∈ ys, ElIn W y)) := Lib.hid fun W hW => by
    have h3 := hb4.trans (hW.mono hb4.size)
    have h0 := B3.out.1.trans (h3.mono B3.out.1.size)
    exact ⟨(Y3.out.below h3 Y3.out.lt).cell (j := 0) rfl, (HS3.out.below h3).more h3.size, gk_keep HG.out h0 h00, (hsq.below hW).more hW.size, fun y hy => (hel y hy).below hW⟩
  have HLY : Hid (ys.length = n9 ∧ n9 ≤ c9 ∧ c9 ≤ maxLen) := Lib.hid ⟨by have := hsq.len; rwa [List.length_map] at this, hsq.cap, hsq.max⟩
  have HLT : Hid (ts.length = n1) := Lib.hid HS3.out.len
  have HMP := Lib.hid hmap
  clear q0 hsq hel hmap hgo hb4 Y3 O3 HS3 HG3 B3
  have hPE := partsE_in ts
  obtain ⟨er, her⟩ : ∃ er, partsE ts = er := ⟨_, rfl⟩
  rw [her] at hPE ⊢
  have HER := Lib.hid her
  clear her
  rcases hPE with rfl | ⟨h3, hp⟩
  · obtain ⟨bl, hbl⟩ := parts_prt HER.out
    have HP := Lib.hid hbl
    obtain ⟨N, hN⟩ : ∃ N, bl.length = N := ⟨_, rfl⟩
    have HN : Hid (n9 = N + 1 ∧ ys.map (·.1) = bl ++ [treeO ts]) := Lib.hid (by have h1 := HMP.out; rw [hbl.all] at h1; have h2 := congrArg List.length h1; rw [List.length_map, HLY.out.1, List.length_append, hN] at h2; exact ⟨by simpa using h2, h1⟩)
    have HNL := Lib.hid hN
    clear hbl hN
    have hn9 : ((n9 : Int) == 0) = false := by rw [Bool.eq_false_iff]; simp only [ne_eq, beq_iff_eq]; have := HN.out.1; omega
    have hn9a : (0 : Int) ≤ (n9 : Int) := Int.natCast_nonneg _
    have hn9b : (n9 : Int) ≤ 9223372036854775807 := by have := HLY.out; unfold maxLen at this; omega
    have hn9c : (n9 : Int) - 1 ≤ (c9 : Int) := by have := HLY.out; omega
    have hn9d : (1 : Int) ≤ (n9 : Int) := by have := HN.out.1; omega
    go_upto_region 10 with fail
    obtain ⟨M, hM⟩ : ∃ M, w4.heap.size = M := ⟨_, rfl⟩
    obtain ⟨wm, hwm⟩ : ∃ wm, w4.alloc (.map #[] 0) = wm := ⟨_, rfl⟩
    rw [hwm]
    (try rw [hM])
    have BM : Hid (Below w4.heap.size w4 wm) := Lib.hid (by rw [← hwm]; exact (Below.refl _ _).alloc (Nat.le_refl _) _)
    have TM : Hid (Txs wm M 0 []) := Lib.hid (by rw [← hwm, ← hM]; exact Txs.made w4)
    clear hwm
    have hnt : ((n9 : Int) - 1).toNat = N := by have := HN.out.1; omega
    have hN0 : (0 : Int) ≤ (N : Int) := Int.natCast_nonneg _
    have hN1 : (N : Int) ≤ 9223372036854775806 := by have := HN.out.1; omega
    go_wp2_with fail
    go_loopw [55] (fun i wr => ∃ k : Nat, k ≤ N ∧ i = .int .i64 (k : Int) ∧ Hid (Below w4.heap.size w4 wr ∧ Txs wr M k (prs (bl.take k)))) (fun i _ => N - (intOf i).toNat)
    case atStart => exact ⟨0, Nat.zero_le _, rfl, Lib.hid ⟨BM.out, TM.out⟩⟩
    case round =>
      obtain ⟨k, hk, rfl, hlo⟩ := hrel
      by_cases hlt : k < N
      · have hd : decide ((k : Int) < (N : Int)) = true := by simp; omega
        have hk0 : (0 : Int) ≤ (k : Int) := Int.natCast_nonneg _
        have hk1 : (k : Int) < (N : Int) := by omega
        obtain ⟨b, o, rfl, hb9, hrg⟩ := (HF.out wr hlo.out.1).2.2.2.1.at_ (i := k) (by have := HN.out.1; omega)
        have hky : k < ys.length := by have := HN.out.1; have := HLY.out.1; omega
        obtain ⟨y, hy⟩ : ∃ y, ys[k] = y := ⟨_, rfl⟩
        have HYM : Hid (y ∈ ys) := Lib.hid (by rw [← hy]; exact List.getElem_mem hky)
        have hyx : (bl ++ [treeO ts])[k]? = some y.1 := by rw [← HN.out.2, List.getElem?_map, List.getElem?_eq_getElem hky, hy]; rfl
        have HYX := Lib.hid hyx
        rw [List.getElem_map, hy] at hrg
        obtain ⟨xi, hxi⟩ : ∃ i, idW y.1 = i := ⟨_, rfl⟩
        obtain ⟨xo, hxo⟩ : ∃ i, y.1.at_ y.2 nSl nSl = i := ⟨_, rfl⟩
        have HRG : Hid (wr.rangeAt b (o + k * 105) (hdC xi xo)) := Lib.hid (by rw [← hxi, ← hxo]; exact hrg)
        have OX : Hid (xo.lv.oneCell' = true ∧ xo.pv.oneCell' = true ∧ xo.ev.oneCell' = true) := Lib.hid (by rw [← hxo]; exact at_one _ _ _ _)
        have HXI := Lib.hid hxi
        have HXO := Lib.hid hxo
        clear hrg hy hyx hxi hxo
        obtain ⟨T, hT⟩ : ∃ T, wr.heap.size = T := ⟨_, rfl⟩
        obtain ⟨wA, hwA⟩ : ∃ wA, wr.alloc (.cells (hdC zI zz).toArray 57) = wA := ⟨_, rfl⟩
        obtain ⟨w5, hw5⟩ : ∃ w5, wA.setCells T 0 (hdC xi xo) = w5 := ⟨_, rfl⟩
        have YA : Hid (Lies wA T 105 (hdC zI zz)) := Lib.hid (by rw [← hwA, ← hT]; have := Lies.new wr (hdC zI zz) 57; rwa [hd_sz] at this)
        have Y5 : Hid (Lies w5 T 105 (hdC xi xo)) := Lib.hid (by rw [← hw5]; exact YA.out.set_ (hd_sz _ _))
        have C5 : Hid (Below wr.heap.size wr w5) := Lib.hid (by rw [← hw5, ← hwA]; exact below_setCells ((Below.refl _ _).alloc (Nat.le_refl _) _) (by omega) _ _)
        have RI : Hid (w5.rangeAt T 0 xi.cells) := Lib.hid (hd_rg.1 Y5.out.rg).1
        have RO : Hid (w5.rangeAt T 32 xo.cells) := Lib.hid (by have := (hd_rg.1 Y5.out.rg).2; rwa [Nat.zero_add] at this)
        have HWA := Lib.hid hwA
        have HW5 := Lib.hid hw5
        have TA := Lib.hid YA.out.th
        clear hwA hw5 YA Y5
        have hkb : k < bl.length := by rw [HNL.out]; exact hlt
        have HYB : Hid (bl[k] = y.1) := Lib.hid (by have := HYX.out; rw [List.getElem?_append_left hkb, List.getElem?_eq_getElem hkb] at this; exact Option.some.inj this)
        obtain ⟨st, hst⟩ : ∃ s, y.1.text = s := ⟨_, rfl⟩
        have c32 : w5.cell? ⟨T, 32, none⟩ = some (.int .i64 1) := by have h9 := (of_at RO.out).1; rw [← HXO.out] at h9; rw [h9, show (y.1.at_ y.2 nSl nSl).kind = y.1.kind from rfl, prt_blob HP.out (by rw [← HYB.out]; exact List.getElem_mem hkb)]
        have c33 : w5.cell? ⟨T, 33, none⟩ = some (.string st) := by have h9 := (of_at RO.out).2.1; rw [← HXO.out] at h9; rw [← hst]; exact h9
        have TX5 : Hid (Txs w5 M k (prs (bl.take k))) := Lib.hid (hlo.out.2.below C5.out)
        have HLN : Hid (lookT (prs (bl.take k)) xi = none) := Lib.hid (by rw [← HXI.out, ← HYB.out]; exact look_none HP.out.told.one hkb)
        have hkm : k < maxLen := by unfold maxLen; omega
        have HML : Hid (w4.heap.size ≤ M ∧ M < w5.heap.size) := Lib.hid ⟨by omega, TX5.out.lt⟩
        have B5 : Hid (Below w4.heap.size w4 w5) := Lib.hid (hlo.out.1.trans (C5.out.mono hlo.out.1.size))
        have HPR : Hid (prs (bl.take (k + 1)) = prs (bl.take k) ++ [(xi, st)]) := Lib.hid (by unfold prs; rw [List.take_succ_eq_append_getElem hkb, List.map_append, List.map_cons, List.map_nil, HYB.out, HXI.out, hst])
        have HST := Lib.hid hst
        clear hst
        go_upto_region 13 with (first
          | ((with_reducible refine ldh (.tmp 57) ?_ ?_ b (o + k * 105) xi xo ?_ HRG.out ?_); rfl; rfl; (first | rfl | go_simp))
          | ((with_reducible refine alt 57 ?_ ?_ (hdC zI zz) ZH.out ?_); rfl; rfl; rw [HWA.out]; (try simp only [Act.put, List.setIfInBounds_toArray, List.set_cons_succ, List.set_cons_zero, hT]))
          | ((with_reducible refine sth (.tmp 7) (.tmp 58) ?_ ?_ T 0 xi xo ?_ ?_ TA.out OX.out.1 OX.out.2.1 OX.out.2.2 ?_); rfl; rfl; rfl; rfl; rw [HW5.out])
          | fail)
        go_wp2_with (first
          | ((with_reducible refine ldi (.tmp 61) ?_ ?_ T 0 xi ?_ RI.out ?_); rfl; rfl; (first | rfl | go_simp))
          | ((with_reducible refine ldi (.tmp 74) ?_ ?_ T 0 xi ?_ RI.out ?_); rfl; rfl; (first | rfl | go_simp))
          | (at_lookup; refine Txs.lookup TX5.out rfl _ _ rfl rfl xi rfl false ⟨#[]⟩ (by rw [HLN.out]; rfl) (by rw [HLN.out]; rfl) ?_)
          | (at_mapUpdate; refine Txs.update TX5.out rfl _ _ _ rfl rfl xi st rfl rfl hkm ?_; intro wu hTu hgu; have TU := Lib.hid hTu; have GU := Lib.hid hgu; clear hTu hgu)
          | fail)
        go_roundw
        case rel => exact ⟨k + 1, by omega, by go_num, Lib.hid ⟨B5.out.trans (below_of_only GU.out HML.out.1 B5.out.size), by rw [HPR.out]; exact TU.out⟩⟩
        case measure => simp [intOf]; omega
      · have hd : decide ((k : Int) < (N : Int)) = false := by simp; omega
        have ek : k = N := by omega
        obtain ⟨wo, hwo⟩ : ∃ wo : World, wo = wr := ⟨_, rfl⟩
        have TF : Hid (Below w4.heap.size w4 wo ∧ Txs wo M N (prs bl)) := Lib.hid (by rw [hwo]; exact ⟨hlo.out.1, by have h9 := hlo.out.2; rw [ek] at h9; rwa [List.take_of_length_le (by rw [HNL.out]; exact Nat.le_refl _)] at h9⟩)
        go_wp2_with fail
        rw [← hwo]
        clear hwo hlo hd hk ek
        go_loopw [82] (fun i wr => ∃ j : Nat, j ≤ n9 ∧ i = .int .i64 (j : Int) ∧ Hid (Below w4.heap.size w4 wr ∧ Txs wr M N (prs bl))) (fun i _ => n9 - (intOf i).toNat)
        case atStart => exact ⟨0, Nat.zero_le _, rfl, TF⟩
        case round =>
          obtain ⟨j, hj, rfl, hlo⟩ := hrel
          by_cases hlt2 : j < n9
          · have hd : decide ((j : Int) < (n9 : Int)) = true := by simp; omega
            have hj0 : (0 : Int) ≤ (j : Int) := Int.natCast_nonneg _
            have hj1 : (j : Int) < (n9 : Int) := by omega
            obtain ⟨b, o, rfl, hb9, hrg⟩ := (HF.out wr hlo.out.1).2.2.2.1.at_ (i := j) (by have := HN.out.1; omega)
            have hky : j < ys.length := by have := HN.out.1; have := HLY.out.1; omega
            obtain ⟨y, hy⟩ : ∃ y, ys[j] = y := ⟨_, rfl⟩
            have HYM : Hid (y ∈ ys) := Lib.hid (by rw [← hy]; exact List.getElem_mem hky)
            have hyx : (bl ++ [treeO ts])[j]? = some y.1 := by rw [← HN.out.2, List.getElem?_map, List.getElem?_eq_getElem hky, hy]; rfl
            have HYX := Lib.hid hyx
            rw [List.getElem_map, hy] at hrg
            obtain ⟨xi, hxi⟩ : ∃ i, idW y.1 = i := ⟨_, rfl⟩
            obtain ⟨xo, hxo⟩ : ∃ i, y.1.at_ y.2 nSl nSl = i := ⟨_, rfl⟩
            have HRG : Hid (wr.rangeAt b (o + j * 105) (hdC xi xo)) := Lib.hid (by rw [← hxi, ← hxo]; exact hrg)
            have OX : Hid (xo.lv.oneCell' = true ∧ xo.pv.oneCell' = true ∧ xo.ev.oneCell' = true) := Lib.hid (by rw [← hxo]; exact at_one _ _ _ _)
            have HXI := Lib.hid hxi
            have HXO := Lib.hid hxo
            clear hrg hy hyx hxi hxo
            obtain ⟨T, hT⟩ : ∃ T, wr.heap.size = T := ⟨_, rfl⟩
            obtain ⟨wA, hwA⟩ : ∃ wA, wr.alloc (.cells (hdC zI zz).toArray 57) = wA := ⟨_, rfl⟩
            obtain ⟨w5, hw5⟩ : ∃ w5, wA.setCells T 0 (hdC xi xo) = w5 := ⟨_, rfl⟩
            have YA : Hid (Lies wA T 105 (hdC zI zz)) := Lib.hid (by rw [← hwA, ← hT]; have := Lies.new wr (hdC zI zz) 57; rwa [hd_sz] at this)
            have Y5 : Hid (Lies w5 T 105 (hdC xi xo)) := Lib.hid (by rw [← hw5]; exact YA.out.set_ (hd_sz _ _))
            have C5 : Hid (Below wr.heap.size wr w5) := Lib.hid (by rw [← hw5, ← hwA]; exact below_setCells ((Below.refl _ _).alloc (Nat.le_refl _) _) (by omega) _ _)
            have RI : Hid (w5.rangeAt T 0 xi.cells) := Lib.hid (hd_rg.1 Y5.out.rg).1
            have RO : Hid (w5.rangeAt T 32 xo.cells) := Lib.hid (by have := (hd_rg.1 Y5.out.rg).2; rwa [Nat.zero_add] at this)
            have HWA := Lib.hid hwA
            have HW5 := Lib.hid hw5
            have TA := Lib.hid YA.out.th
            clear hwA hw5 YA Y5
            have TX5 : Hid (Txs w5 M N (prs bl)) := Lib.hid (hlo.out.2.below C5.out)
            have B5 : Hid (Below w4.heap.size w4 w5) := Lib.hid (hlo.out.1.trans (C5.out.mono hlo.out.1.size))
            have CI : Hid (Calls Tryd.prog 12 #[ofV xo] w5 fun e w' => e = .returned (.tuple #[idV xi, .int .i64 0]) ∧ Below w5.heap.size w5 w') := Lib.hid (by
              have he := (HF.out w5 B5.out).2.2.2.2 y HYM.out
              have h9 := Id_any he.o ⟨by have := he.n; omega, Nat.zero_le _, Nat.zero_le _⟩ (HF.out w5 B5.out).2.2.1
              rw [HP.out.ok y.1 (List.mem_of_getElem? HYX.out), HXO.out, HXI.out] at h9
              simp only [if_true] at h9
              exact h9)
            go_upto_region 21 with (first
              | ((with_reducible refine ldh (.tmp 84) ?_ ?_ b (o + j * 105) xi xo ?_ HRG.out ?_); rfl; rfl; (first | rfl | go_simp))
              | ((with_reducible refine alt 57 ?_ ?_ (hdC zI zz) ZH.out ?_); rfl; rfl; rw [HWA.out]; (try simp only [Act.put, List.setIfInBounds_toArray, List.set_cons_succ, List.set_cons_zero, hT]))
              | ((with_reducible refine sth (.tmp 11) (.tmp 85) ?_ ?_ T 0 xi xo ?_ ?_ TA.out OX.out.1 OX.out.2.1 OX.out.2.2 ?_); rfl; rfl; rfl; rfl; rw [HW5.out])
              | fail)
            go_wp2_with (first
              | ((with_reducible refine ldo (.tmp 87) ?_ ?_ T 32 xo ?_ RO.out ?_); rfl; rfl; (first | rfl | go_simp))
              | fail)
            refine CI.out.mono ?_
            rintro e w6 ⟨rfl, hb6⟩
            dsimp only
            obtain ⟨V, hV⟩ : ∃ V, w6.heap.size = V := ⟨_, rfl⟩
            obtain ⟨wB, hwB⟩ : ∃ wB, w6.alloc (.cells zI.cells.toArray 24) = wB := ⟨_, rfl⟩
            obtain ⟨w8, hw8⟩ : ∃ w8, wB.setCells V 0 xi.cells = w8 := ⟨_, rfl⟩
            have YB : Hid (Lies wB V 32 zI.cells) := Lib.hid (by rw [← hwB, ← hV]; have := Lies.new w6 zI.cells 24; rwa [id_sz] at this)
            have RV : Hid (w8.rangeAt V 0 xi.cells) := Lib.hid (by rw [← hw8]; exact (YB.out.set_ (id_sz _)).rg)
            have D8 : Hid (Below w5.heap.size w5 w8) := Lib.hid (by rw [← hw8, ← hwB]; exact hb6.trans ((below_setCells ((Below.refl w6.heap.size _).alloc (Nat.le_refl _) _) (by omega) _ _).mono hb6.size))
            have hT5 : T < w5.heap.size := Nat.lt_of_not_le fun h9 => by
              have := (RI.out 0 _ (List.getElem?_eq_getElem (by rw [id_sz]; omega)))
              rw [World.cell?, Array.getElem?_eq_none h9] at this
              cases this
            have RT : Hid (w8.rangeAt T 0 xi.cells) := Lib.hid (rangeAt_keep RI.out (D8.out.block T hT5))
            have HWB := Lib.hid hwB
            have HW8 := Lib.hid hw8
            have TV := Lib.hid YB.out.th
            clear hwB hw8 YB hb6 CI
            go_upto_region 22 with (first
              | ((with_reducible refine alt 24 ?_ ?_ zI.cells ZI.out ?_); rfl; rfl; rw [HWB.out]; (try simp only [Act.put, List.setIfInBounds_toArray, List.set_cons_succ, List.set_cons_zero, hV]))
              | ((with_reducible refine sti (.tmp 12) (.tmp 90) ?_ ?_ V 0 xi ?_ ?_ TV.out ?_); rfl; rfl; rfl; rfl; rw [HW8.out])
              | fail)
            have hnq : ∀ w : World, (binOp .neq 24 (idV xi) (idV xi)).run Tryd.prog w = .ok (.bool false) w := fun w => by rw [neq_id, beq_self_eq_true]; rfl
            go_wp2_with (first
              | ((with_reducible refine ldi (.tmp 12) ?_ ?_ V 0 xi ?_ RV.out ?_); rfl; rfl; rfl)
              | ((with_reducible refine ldi (.tmp 96) ?_ ?_ T 0 xi ?_ RT.out ?_); rfl; rfl; (first | rfl | go_simp))
              | fail)
            go_roundw
            case rel => exact ⟨j + 1, by omega, by go_num, Lib.hid ⟨B5.out.trans (D8.out.mono B5.out.size), TX5.out.below D8.out⟩⟩
            case measure => simp [intOf]; omega
          · have hd : decide ((j : Int) < (n9 : Int)) = false := by simp; omega
            obtain ⟨wp, hwp⟩ : ∃ wp : World, wp = wr := ⟨_, rfl⟩
            have TF2 : Hid (Below w4.heap.size w4 wp ∧ Txs wp M N (prs bl)) := Lib.hid (by rw [hwp]; exact hlo.out)
            go_upto_region 25 with fail
            rw [← hwp]
            clear hwp hlo hd hj TF
            obtain ⟨b, o, rfl, hb9, hrg⟩ := (HF.out wp TF2.out.1).2.2.2.1.at_ (i := N) (by have := HN.out.1; omega)
            have hky : N < ys.length := by have := HN.out.1; have := HLY.out.1; omega
            obtain ⟨⟨yv, ⟨AL, nL, cL⟩⟩, hy⟩ : ∃ y, ys[N] = y := ⟨_, rfl⟩
            have HYM : Hid ((yv, ⟨AL, nL, cL⟩) ∈ ys) := Lib.hid (by rw [← hy]; exact List.getElem_mem hky)
            have HYT : Hid (yv = treeO ts) := Lib.hid (by have h9 := HN.out.2; have h8 : (bl ++ [treeO ts])[N]? = some yv := (by rw [← h9, List.getElem?_map, List.getElem?_eq_getElem hky, hy]; rfl); rw [List.getElem?_append_right (by rw [HNL.out]; exact Nat.le_refl _), HNL.out] at h8; simp at h8; exact h8.symm)
            rw [List.getElem_map, hy] at hrg
            obtain ⟨xo, hxo⟩ : ∃ i, yv.at_ ⟨AL, nL, cL⟩ nSl nSl = i := ⟨_, rfl⟩
            have HRO : Hid (wp.rangeAt b (o + N * 105 + 32) xo.cells) := Lib.hid (by rw [← hxo]; exact (hd_rg.1 hrg).2)
            have OX : Hid (xo.lv.oneCell' = true ∧ xo.pv.oneCell' = true ∧ xo.ev.oneCell' = true) := Lib.hid (by rw [← hxo]; exact at_one _ _ _ _)
            have HXO := Lib.hid hxo
            clear hrg hy hxo hky
            obtain ⟨G, hG⟩ : ∃ T, wp.heap.size = T := ⟨_, rfl⟩
            obtain ⟨wA, hwA⟩ : ∃ wA, wp.alloc (.cells zz.cells.toArray 31) = wA := ⟨_, rfl⟩
            obtain ⟨w5, hw5⟩ : ∃ w5, wA.setCells G 0 xo.cells = w5 := ⟨_, rfl⟩
            have YA : Hid (Lies wA G 73 zz.cells) := Lib.hid (by rw [← hwA, ← hG]; have := Lies.new wp zz.cells 31; rwa [of_sz] at this)
            have Y5 : Hid (Lies w5 G 73 xo.cells) := Lib.hid (by rw [← hw5]; exact YA.out.set_ (of_sz _))
            have C5 : Hid (Below wp.heap.size wp w5) := Lib.hid (by rw [← hw5, ← hwA]; exact below_setCells ((Below.refl _ _).alloc (Nat.le_refl _) _) (by omega) _ _)
            have HWA := Lib.hid hwA
            have HW5 := Lib.hid hw5
            have TA := Lib.hid YA.out.th
            clear hwA hw5 YA
            have hni : ((n9 : Int) - 1) = (N : Int) := by have := HN.out.1; omega
            have hni2 : (N : Int) < (n9 : Int) := by have := HN.out.1; omega
            have HB5 : Hid (Below w4.heap.size w4 w5) := Lib.hid (TF2.out.1.trans (C5.out.mono TF2.out.1.size))
            go_upto_region 26 with (first
              | ((with_reducible refine ldo (.tmp 106) ?_ ?_ b (o + N * 105 + 32) xo ?_ HRO.out ?_); rfl; rfl; (first | rfl | go_simp))
              | ((with_reducible refine alt 31 ?_ ?_ zz.cells ZO.out ?_); rfl; rfl; rw [HWA.out]; (try simp only [Act.put, List.setIfInBounds_toArray, List.set_cons_succ, List.set_cons_zero, hG]))
              | ((with_reducible refine sto (.tmp 14) (.tmp 107) ?_ ?_ G 0 xo ?_ ?_ TA.out OX.out.1 OX.out.2.1 OX.out.2.2 ?_); rfl; rfl; rfl; rfl; rw [HW5.out])
              | fail)
            have HEL := Lib.hid ((HF.out w5 HB5.out).2.2.2.2 _ HYM.out)
            have hnL : nL = n1 := by
              have h9 := HEL.out.o.l.len
              rw [show ((yv, (⟨AL, nL, cL⟩ : Sl)) : El).1 = yv from rfl, HYT.out] at h9
              have h8 := HLT.out
              simp [treeO] at h9
              omega
            subst hnL
            have HLL : Hid (∀ W, Below w5.heap.size w5 W → SqL W W.heap.size AL nL cL (ts.map leafO)) := Lib.hid fun W hW => by
              have h9 := (HEL.out.o.l.below hW).more hW.size
              rw [show ((yv, (⟨AL, nL, cL⟩ : Sl)) : El).1 = yv from rfl, HYT.out] at h9
              exact h9
            have k0 : w5.cell? ⟨G, 0, none⟩ = some (.int .i64 2) := by have h9 := (of_lies Y5.out).1; rw [← HXO.out, HYT.out] at h9; exact h9
            have k2 : w5.cell? ⟨G, 2, none⟩ = some (.slice AL nL cL) := by have h9 := (of_lies Y5.out).2.2.1; rw [← HXO.out] at h9; exact h9
            have q0 := (HF.out w5 HB5.out).1
            have hnl0 : (0 : Int) ≤ (nL : Int) := Int.natCast_nonneg _
            have hnn : ((nL : Int) == (nL : Int)) = true := beq_self_eq_true _
            have TX5 : Hid (Txs w5 M N (prs bl)) := Lib.hid (TF2.out.2.below C5.out)
            go_wp2_with fail
            clear k0 k2 q0
            go_loopw [123] (fun i wr => ∃ k : Nat, k ≤ nL ∧ i = .int .i64 (k : Int) ∧ Hid (Below w5.heap.size w5 wr ∧ Txs wr M N (prs bl))) (fun i _ => nL - (intOf i).toNat)
            case atStart => exact ⟨0, Nat.zero_le _, rfl, Lib.hid ⟨Below.refl _ _, TX5.out⟩⟩
            case round =>
              obtain ⟨k, hk, rfl, hlo⟩ := hrel
              by_cases hlt3 : k < nL
              · have hd : decide ((k : Int) < (nL : Int)) = true := by simp; omega
                have hk0 : (0 : Int) ≤ (k : Int) := Int.natCast_nonneg _
                have hk1 : (k : Int) < (nL : Int) := by omega
                obtain ⟨bL, oL, rfl, hbL, hrL⟩ := (HLL.out wr hlo.out.1).at_ hlt3
                have hkt : k < ts.length := by rw [HLT.out]; exact hlt3
                obtain ⟨r, hr⟩ : ∃ r, ts[k] = r := ⟨_, rfl⟩
                rw [List.getElem_map, hr] at hrL
                obtain ⟨lf, hlf⟩ : ∃ x, leafO r = x := ⟨_, rfl⟩
                have HRL : Hid (wr.rangeAt bL (oL + k * 33) lf.cells) := Lib.hid (by rw [← hlf]; exact hrL)
                have HLK : Hid (lookT (prs bl) lf.id = some r.t) := Lib.hid (by rw [← hlf]; exact prt_leaf HP.out (by rw [← hr]; exact List.getElem_mem hkt))
                have HLP : Hid (lf.p = r.p) := Lib.hid (by rw [← hlf]; rfl)
                obtain ⟨b1, o1, rfl, hb1, hr1⟩ := (HF.out wr (HB5.out.trans (hlo.out.1.mono HB5.out.size))).2.1.at_ hlt3
                rw [hr] at hr1
                have HR1 := Lib.hid hr1
                clear hrL hlf hr1 hr hkt
                obtain ⟨T, hT⟩ : ∃ T, wr.heap.size = T := ⟨_, rfl⟩
                obtain ⟨wA, hwA⟩ : ∃ wA, wr.alloc (.cells zl.cells.toArray 60) = wA := ⟨_, rfl⟩
                obtain ⟨w6, hw6⟩ : ∃ w6, wA.setCells T 0 lf.cells = w6 := ⟨_, rfl⟩
                have YA : Hid (Lies wA T 33 zl.cells) := Lib.hid (by rw [← hwA, ← hT]; have := Lies.new wr zl.cells 60; rwa [lf_sz] at this)
                have Y6 : Hid (Lies w6 T 33 lf.cells) := Lib.hid (by rw [← hw6]; exact YA.out.set_ (lf_sz _))
                have C6 : Hid (Below wr.heap.size wr w6) := Lib.hid (by rw [← hw6, ← hwA]; exact below_setCells ((Below.refl _ _).alloc (Nat.le_refl _) _) (by omega) _ _)
                have HWA := Lib.hid hwA
                have HW6 := Lib.hid hw6
                have TA := Lib.hid YA.out.th
                clear hwA hw6 YA
                have RI : Hid (w6.rangeAt T 1 lf.id.cells) := Lib.hid (by
                  have h9 := Y6.out.rg
                  unfold Lf.cells at h9
                  rw [show (Value.string lf.p :: S3.bvs lf.id.b) = [Value.string lf.p] ++ S3.bvs lf.id.b from rfl, rangeAt_app] at h9
                  exact h9.2)
                have HB6 : Hid (Below w5.heap.size w5 w6) := Lib.hid (hlo.out.1.trans (C6.out.mono hlo.out.1.size))
                have TX6 : Hid (Txs w6 M N (prs bl)) := Lib.hid (hlo.out.2.below C6.out)
                have e0 : w6.cell? ⟨T, 0, none⟩ = some (.string r.p) := by have h9 := Y6.out.cell (j := 0) rfl; rw [HLP.out] at h9; exact h9
                have e1 := (HF.out w6 (HB5.out.trans (HB6.out.mono HB5.out.size))).1
                have RR : Hid (w6.rangeAt b1 (o1 + k * 2) (Rw.cells r)) := Lib.hid (rangeAt_keep HR1.out (C6.out.block b1 hb1))
                have e2 : w6.cell? ⟨b1, o1 + k * 2, none⟩ = some (.string r.p) := RR.out 0 _ rfl
                have e3 : w6.cell? ⟨b1, o1 + k * 2 + 1, none⟩ = some (.string r.t) := RR.out 1 _ rfl
                go_upto_region 31 with (first
                  | ((with_reducible refine ldl (.tmp 126) ?_ ?_ bL (oL + k * 33) lf ?_ HRL.out ?_); rfl; rfl; (first | rfl | go_simp))
                  | ((with_reducible refine alt 60 ?_ ?_ zl.cells ZL.out ?_); rfl; rfl; rw [HWA.out]; (try simp only [Act.put, List.setIfInBounds_toArray, List.set_cons_succ, List.set_cons_zero, hT]))
                  | ((with_reducible refine stl (.tmp 16) (.tmp 127) ?_ ?_ T 0 lf ?_ ?_ TA.out ?_); rfl; rfl; rfl; rfl; rw [HW6.out])
                  | fail)
                go_upto_region 32 with (first
                  | ((with_reducible refine ldi (.tmp 130) ?_ ?_ T 1 lf.id ?_ RI.out ?_); rfl; rfl; (first | rfl | go_simp))
                  | (at_lookup; refine Txs.lookup TX6.out rfl _ _ rfl rfl lf.id rfl true r.t (by rw [HLK.out]; rfl) (by rw [HLK.out]; rfl) ?_)
                  | fail)
                clear HWA HW6 TA
                obtain ⟨wd, hwd⟩ : ∃ wd, w6.drew = wd := ⟨_, rfl⟩
                have HBD : Hid (Below w6.heap.size w6 wd) := Lib.hid (by rw [← hwd]; exact (Below.refl _ _).drew)
                have HSD : Hid (wd.cell? ⟨T, 0, none⟩ = some (.string r.p) ∧ wd.cell? ⟨X, 0, none⟩ = some (.slice (some ⟨b1, o1, none⟩) nL c1) ∧ wd.cell? ⟨b1, o1 + k * 2, none⟩ = some (.string r.p) ∧ wd.cell? ⟨b1, o1 + k * 2 + 1, none⟩ = some (.string r.t)) := Lib.hid (by rw [← hwd]; exact ⟨e0, e1, e2, e3⟩)
                refine wp_region_br [false, false, false, false, true, false, true, false, false, false, true, false, false, false, false, false, true, false, false, false, true, false, false, false, false, false, false, false, false, false, false, false] 32 (fun w' => w'.cell? ⟨T, 0, none⟩ = some (.string r.p) ∧ w'.cell? ⟨X, 0, none⟩ = some (.slice (some ⟨b1, o1, none⟩) nL c1) ∧ w'.cell? ⟨b1, o1 + k * 2, none⟩ = some (.string r.p) ∧ w'.cell? ⟨b1, o1 + k * 2 + 1, none⟩ = some (.string r.t)) (by kernel_rfl) (by kernel_rfl) (by rw [hwd]; exact HSD.out) ?_
                rw [hwd]
                clear hwd e0 e1 e2 e3
                simp only [List.take_succ_cons, List.take_zero, List.drop_succ_cons, List.drop_zero]
                have hss : ∀ s : ByteArray, (s.toList == s.toList) = true := fun s => beq_self_eq_true _
                refine ⟨_, .inl ⟨rfl, fun w' hw' => (by clear hw'; go_simp; (try rfl))⟩, ?_⟩
                (try simp only [Act.put, List.setIfInBounds_toArray, List.set_cons_succ, List.set_cons_zero])
                refine ⟨_, .inl ⟨rfl, fun w' hw' => (by clear hw'; go_simp; (try rfl))⟩, ?_⟩
                (try simp only [Act.put, List.setIfInBounds_toArray, List.set_cons_succ, List.set_cons_zero])
                refine ⟨_, .inl ⟨rfl, fun w' hw' => (by clear hw'; go_simp; (try rfl))⟩, ?_⟩
                (try simp only [Act.put, List.setIfInBounds_toArray, List.set_cons_succ, List.set_cons_zero])
                refine ⟨_, .inl ⟨rfl, fun w' hw' => (by clear hw'; go_simp; (try rfl))⟩, ?_⟩
                (try simp only [Act.put, List.setIfInBounds_toArray, List.set_cons_succ, List.set_cons_zero])
                refine ⟨_, .inl ⟨rfl, fun w' hw' => (by obtain ⟨q0, q1, q2, q3⟩ := hw'; go_simp; (try rfl))⟩, ?_⟩
                (try simp only [Act.put, List.setIfInBounds_toArray, List.set_cons_succ, List.set_cons_zero])
                refine ⟨_, .inl ⟨rfl, fun w' hw' => (by clear hw'; go_simp; (try rfl))⟩, ?_⟩
                (try simp only [Act.put, List.setIfInBounds_toArray, List.set_cons_succ, List.set_cons_zero])
                refine ⟨_, .inl ⟨rfl, fun w' hw' => (by obtain ⟨q0, q1, q2, q3⟩ := hw'; go_simp; (try rfl))⟩, ?_⟩
                (try simp only [Act.put, List.setIfInBounds_toArray, List.set_cons_succ, List.set_cons_zero])
                refine ⟨_, .inl ⟨rfl, fun w' hw' => (by clear hw'; go_simp; (try rfl))⟩, ?_⟩
                (try simp only [Act.put, List.setIfInBounds_toArray, List.set_cons_succ, List.set_cons_zero])
                refine ⟨_, .inl ⟨rfl, fun w' hw' => (by clear hw'; go_simp; (try rfl))⟩, ?_⟩
                (try simp only [Act.put, List.setIfInBounds_toArray, List.set_cons_succ, List.set_cons_zero])
                refine ⟨_, .inl ⟨rfl, fun w' hw' => (by clear hw'; go_simp; (try rfl))⟩, ?_⟩
                (try simp only [Act.put, List.setIfInBounds_toArray, List.set_cons_succ, List.set_cons_zero])
                refine ⟨_, .inl ⟨rfl, fun w' hw' => (by obtain ⟨q0, q1, q2, q3⟩ := hw'; go_simp; (try rfl))⟩, ?_⟩
                (try simp only [Act.put, List.setIfInBounds_toArray, List.set_cons_succ, List.set_cons_zero])
                refine ⟨.bool false, .inl ⟨rfl, fun w' hw' => (by clear hw'; go_simp; (try simp); (try rfl))⟩, ?_⟩
                (try simp only [Act.put, List.setIfInBounds_toArray, List.set_cons_succ, List.set_cons_zero])
                refine ⟨_, .inl ⟨rfl, fun w' hw' => (by clear hw'; go_simp; (try rfl))⟩, ?_⟩
                (try simp only [Act.put, List.setIfInBounds_toArray, List.set_cons_succ, List.set_cons_zero])
                refine ⟨_, .inl ⟨rfl, fun w' hw' => (by clear hw'; go_simp; (try rfl))⟩, ?_⟩
                (try simp only [Act.put, List.setIfInBounds_toArray, List.set_cons_succ, List.set_cons_zero])
                refine ⟨_, .inl ⟨rfl, fun w' hw' => (by clear hw'; go_simp; (try rfl))⟩, ?_⟩
                (try simp only [Act.put, List.setIfInBounds_toArray, List.set_cons_succ, List.set_cons_zero])
                refine ⟨_, .inl ⟨rfl, fun w' hw' => (by clear hw'; go_simp; (try rfl))⟩, ?_⟩
                (try simp only [Act.put, List.setIfInBounds_toArray, List.set_cons_succ, List.set_cons_zero])
                refine ⟨_, .inl ⟨rfl, fun w' hw' => (by obtain ⟨q0, q1, q2, q3⟩ := hw'; go_simp; (try rfl))⟩, ?_⟩
                (try simp only [Act.put, List.setIfInBounds_toArray, List.set_cons_succ, List.set_cons_zero])
                refine ⟨_, .inl ⟨rfl, fun w' hw' => (by clear hw'; go_simp; (try rfl))⟩, ?_⟩
                (try simp only [Act.put, List.setIfInBounds_toArray, List.set_cons_succ, List.set_cons_zero])
                refine ⟨_, .inl ⟨rfl, fun w' hw' => (by clear hw'; go_simp; (try rfl))⟩, ?_⟩
                (try simp only [Act.put, List.setIfInBounds_toArray, List.set_cons_succ, List.set_cons_zero])
                refine ⟨_, .inl ⟨rfl, fun w' hw' => (by clear hw'; go_simp; (try rfl))⟩, ?_⟩
                (try simp only [Act.put, List.setIfInBounds_toArray, List.set_cons_succ, List.set_cons_zero])
                refine ⟨_, .inl ⟨rfl, fun w' hw' => (by obtain ⟨q0, q1, q2, q3⟩ := hw'; go_simp; (try rfl))⟩, ?_⟩
                (try simp only [Act.put, List.setIfInBounds_toArray, List.set_cons_succ, List.set_cons_zero])
                refine ⟨.bool false, .inl ⟨rfl, fun w' hw' => (by clear hw'; go_simp; (try simp); (try rfl))⟩, ?_⟩
                (try simp only [Act.put, List.setIfInBounds_toArray, List.set_cons_succ, List.set_cons_zero])
                refine ⟨_, .inl ⟨rfl, fun w' hw' => (by clear hw'; go_simp; (try rfl))⟩, ?_⟩
                (try simp only [Act.put, List.setIfInBounds_toArray, List.set_cons_succ, List.set_cons_zero])
                refine ⟨_, .inr ⟨rfl, rfl⟩, ?_⟩
                (try simp only [Act.put, List.setIfInBounds_toArray, List.set_cons_succ, List.set_cons_zero])
                refine ⟨_, .inr ⟨rfl, rfl⟩, ?_⟩
                (try simp only [Act.put, List.setIfInBounds_toArray, List.set_cons_succ, List.set_cons_zero])
                refine ⟨_, .inr ⟨rfl, rfl⟩, ?_⟩
                (try simp only [Act.put, List.setIfInBounds_toArray, List.set_cons_succ, List.set_cons_zero])
                refine ⟨_, .inr ⟨rfl, rfl⟩, ?_⟩
                (try simp only [Act.put, List.setIfInBounds_toArray, List.set_cons_succ, List.set_cons_zero])
                refine ⟨_, .inr ⟨rfl, rfl⟩, ?_⟩
                (try simp only [Act.put, List.setIfInBounds_toArray, List.set_cons_succ, List.set_cons_zero])
                refine ⟨_, .inr ⟨rfl, rfl⟩, ?_⟩
                (try simp only [Act.put, List.setIfInBounds_toArray, List.set_cons_succ, List.set_cons_zero])
                refine ⟨_, .inr ⟨rfl, rfl⟩, ?_⟩
                (try simp only [Act.put, List.setIfInBounds_toArray, List.set_cons_succ, List.set_cons_zero])
                refine ⟨_, .inl ⟨rfl, fun w' hw' => (by clear hw'; go_simp; (try rfl))⟩, ?_⟩
                (try simp only [Act.put, List.setIfInBounds_toArray, List.set_cons_succ, List.set_cons_zero])
                refine ⟨_, .inl ⟨rfl, fun w' hw' => (by clear hw'; go_simp; (try rfl))⟩, ?_⟩
                (try simp only [Act.put, List.setIfInBounds_toArray, List.set_cons_succ, List.set_cons_zero])
                rw [wpHd_nil]
                go_wp2_with fail
                refine NoPanic.normal ?_
                go_wp2_with fail
                go_roundw
                case rel => exact ⟨k + 1, by omega, by go_num, Lib.hid ⟨HB6.out.trans (HBD.out.mono HB6.out.size), TX6.out.below HBD.out⟩⟩
                case measure => simp [intOf]; omega
              · have hd : decide ((k : Int) < (nL : Int)) = false := by simp; omega
                have BZ : Hid (Below w.heap.size w wr) := Lib.hid (B4.out.1.trans ((HB5.out.trans (hlo.out.1.mono HB5.out.size)).mono B4.out.1.size))
                go_wp2_with fail
                go_ret
                exact ⟨rfl, BZ.out⟩
  · have hys : ys = [] := by have h1 := HMP.out; rw [hp] at h1; exact List.map_eq_nil_iff.1 h1
    obtain rfl : n9 = 0 := by have h1 := HLY.out.1; rw [hys] at h1; exact h1.symm
    rcases h3 with rfl | rfl | rfl
    · go_wp2_with fail
      go_ret
      exact ⟨rfl, B4.out.1⟩
    · go_wp2_with fail
      go_ret
      exact ⟨rfl, B4.out.1⟩
    · go_wp2_with fail
      go_ret
      exact ⟨rfl, B4.out.1⟩

set_option maxRecDepth 100000 in
theorem lifted (os : Os) (started : os.Started) (H : Type) (enc : TypeId × Value → H) :
    ReturnsInHanded {} Tryd.checked os 5 .any (fun w args => (Rows.objectTreesSpec.pre enc Tryd.prog Tryd.f5 [] false w args ∧ laidMetH Tryd.prog S3.laidL w) ∧ sizedMet enc Tryd.prog Tryd.f5 (OpenSpec.ofChange Rows.objectTreesSpec) false w args)
      (Rows.objectTreesSpec.post enc Tryd.prog Tryd.f5 false true false false) := by
  refine returnsInHanded_of_change_and (C := Tryd.checked) (X := fun w _ => laidMetH Tryd.prog S3.laidL w) (fun _ _ _ hh h => h.of_heap hh) S3.own started (by kernel_rfl) Tryd.func5
    (ChangeSpec.witness_shaped (enc := enc) (C := Tryd.checked) (os := os) (X := fun w _ => laidMetH Tryd.prog S3.laidL w) false (World.doorLaid Tryd.prog 14 os) #[.agg #[.slice none 0 0]] 8 rfl (World.shaped_of_RefB (by kernel_rfl) (by kernel_rfl)) (by kernel_rfl) (by kernel_rfl) (by kernel_rfl) (S3.door_met os _)) ?_
  intro W base args ds gs before hval0 hW _ _ hL _
  have hval : ∀ (j : Nat) t v, Tryd.f5.params[j]? = some t → args[j]? = some v → Value.okWide Tryd.prog W .any base t v := hval0
  have hW' := hW
  obtain ⟨p, q, hA0, hV, rfl, hfz, hnd⟩ := hW
  have hA : DataW.TrodAll enc Tryd.prog W 0 (fun _ => true) true Tryd.f5.params.toList args.toList ds p := hA0
  rw [Tryd.params5] at hA hval
  obtain ⟨v0, vs0, d0, ds0, p0, q0, hargs, rfl, rfl, h0, r0⟩ := trodAll_cons hA
  obtain ⟨rfl, rfl, rfl⟩ := trodAll_nil r0
  obtain rfl : args = #[v0] := by cases args; simp_all
  obtain ⟨rfl, rfl⟩ := trodVars_none hV
  have hGK := S3.gk_of_laid hL
  have k0 := h0
  have lt0 : ∀ x ∈ p0, x.block < W.heap.size := by obtain ⟨m, hm⟩ := k0; exact DataW.trod_lt m _ _ _ hm
  obtain ⟨A0, n0, c0, l0, rfl, s0⟩ := map_arg (hval 0 50 v0 rfl rfl) h0
  clear hA0 hval0
  refine (walk s0 hGK).mono fun e W' ⟨he, bel⟩ => ?_
  subst he
  exact ⟨_, rfl, _, _, _, [], _, [], hW', trodAll_mk1 (shut_bool Tryd.underlying4 _), (trodAll_cons_mk (Below.trod S3.laidOut (by kernel_rfl) (of_decide_eq_true (by kernel_rfl)) k0 bel lt0) trodAll_mk0), rfl, bel.frame _, fun h => by cases h⟩

theorem over : Rows.objectTreesRow.holds Tryd.pinned (OpenSpec.ofChange Rows.objectTreesSpec) :=
  OpenClaim.holds_of_wide 5 Tryd.f5 rfl rfl rfl rfl rfl rfl rfl ⟨rfl, rfl, rfl, rfl, rfl⟩ rfl rfl rfl rfl rfl (by kernel_rfl) Tryd.func5 (by kernel_rfl)
    (of_decide_eq_true (by kernel_rfl)) (by unfold Func.isWrapper; first | (rw [if_pos (by decide +kernel)]; kernel_rfl) | (rw [if_neg (by decide +kernel)]; exact ⟨rfl, rfl⟩))
    (fun os started H enc _ => lifted os started H enc)

theorem proved : Rows.ObjectTreesCardSaid :=
  Claim7.holds_tied_plain_at .later [] [.data] true Rows.objectTreesCard.stood.harness false
    over (fun _ h => by cases h) (by kernel_rfl) (fun _ h => by cases h) objectTrees_row_tie rfl ⟨rfl, rfl⟩ (by kernel_rfl) rfl
    (fun f fn hf hfn => by
      obtain rfl : f = 5 := Option.some.inj ((show Tryd.prog.funcNamed "confluence/confluencelaw06.ObjectTrees" = some 5 by kernel_rfl).symm.trans hf) |>.symm
      obtain rfl : fn = Tryd.f5 := (Option.some.inj (Tryd.func5.symm.trans hfn)).symm
      exact ⟨by kernel_rfl, fun j t ht => by
        have hall : (Tryd.f5.params.all fun u => !Tryd.prog.wantsStandIn u) = true := by kernel_rfl
        have := Array.all_eq_true_iff_forall_mem.1 hall t (Array.mem_of_getElem? ht)
        exact (by simpa using this : Tryd.prog.wantsStandIn t = false)⟩)
    (by kernel_rfl)
#print axioms proved
end Go.Proofs.YtnkhoghdfncgpaaDoor.objectTrees
