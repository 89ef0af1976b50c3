/-
  THE DOCUMENT'S OWN DISK: live.
-/
import Derived.Test.YtionbjocfepkaaaRf
namespace Go.Proofs.Ytionbjocfepkaaa
set_option linter.unusedVariables false
set_option linter.unusedSimpArgs false
open Go.RowKit Go.WideShapes Go.ChangeShapes Go.Deep

set_option maxRecDepth 100000 in
set_option maxHeartbeats 20000000 in
theorem live_any {w : World} {A : Option Addr} {l c : Nat} {es : List En} (h : Ew w A l c es) (hl : l ≤ 1000000) (all : Bool) {B : Nat} {KA : Option Addr} {kn kc : Nat} {ks : List Bool} (hk : SlV w B KA kn kc (bls ks)) (hB : B ≤ w.heap.size) :
    Calls Try.prog 54 #[.slice A l c, .bool all, .slice KA kn kc] w fun e w' => ∃ A' m c', e = .returned (.slice A' m c') ∧ Ew w' A' m c' (liveE (lvA all ks) es 0) ∧ (∀ x, A' = some x → w.heap.size ≤ x.block) ∧ Below w.heap.size w w' := by
  have HS := Lib.hid h
  have hle := h.len
  have HK := Lib.hid hk
  have hkl : ks.length = kn := by simpa [bls] using hk.len
  have hkm : (kn : Int) ≤ 9223372036854775807 := by have := hk.cap; have := hk.max; unfold maxLen at this; omega
  have hkn0 : (0 : Int) ≤ (kn : Int) := Int.natCast_nonneg _
  have HFIT := Lib.hid h.fit
  clear h hk
  go_enter Try.func54, Try.ntmps54
  go_wp2
  go_loopw [7, 8, 9] (fun v x i wr => ∃ (k : Nat) (A' : Option Addr) (m c' wc : Nat), k ≤ l ∧ i = .int .i64 (k : Int) ∧ v = .slice A' m c' ∧ m ≤ k ∧ x = .int .i64 (wc : Int) ∧ wc ≤ k ∧ Hid (wc = (waitS (es.take k)).length) ∧ Hid (wr.ownsRow w.heap.size 94 66 (.slice A' m c') m (ens (liveE (lvA all ks) (es.take k) 0))) ∧ Hid (m = 0 → A' = none) ∧ Hid (Below w.heap.size w wr)) (fun _ _ i _ => l - (intOf i).toNat)
  case atStart => exact ⟨0, none, 0, 0, 0, Nat.zero_le _, rfl, rfl, Nat.zero_le _, rfl, Nat.zero_le _, Lib.hid rfl, Lib.hid (World.ownsRow_nil _ _ _ _), Lib.hid (fun _ => rfl), Lib.hid (Below.refl _ _)⟩
  case round =>
    obtain ⟨k, A', m, c', wc, hkl', rfl, rfl, hmk, rfl, hwck, hwc, hown, hnon, hbel⟩ := hrel
    by_cases hlt : k < l
    · have hd : decide ((k : Int) < (l : Int)) = true := by simp; omega
      have hk0 : (0 : Int) ≤ (k : Int) := Int.natCast_nonneg _
      have hk1 : (k : Int) < (l : Int) := by omega
      have hw0 : (0 : Int) ≤ (wc : Int) := Int.natCast_nonneg _
      have hw1 : (wc : Int) ≤ 1000000 := by omega
      have hes := HS.out.below hbel.out
      obtain ⟨b, o, rfl, hblt, hrg⟩ := hes.pos (by omega)
      obtain ⟨e, he⟩ : ∃ e, es[k]'(by omega) = e := ⟨_, rfl⟩
      have hfe : e.b.length = 64 := hes.fit e (by rw [← he]; exact List.getElem_mem _)
      have hpe := ens_part (o := o) (b := b) hes.fit hrg k (by omega)
      rw [he] at hpe
      have PE := Lib.hid hpe
      have htk := take_succ_at (l := es) (k := k) (by omega)
      rw [he] at htk
      have HT := Lib.hid htk
      have HFE := Lib.hid hfe
      have HBW := Lib.hid (show w.heap.size ≤ wr.heap.size from hbel.out.size)
      have L1 := Lib.hid (enW_lies wr hfe)
      have L2 := Lib.hid (enW2_lies wr hfe)
      have HFE2 : Hid ((En.mk e.s e.b true).b.length = 64) := Lib.hid hfe
      clear hes hrg he hpe htk hblt
      have p1 : (enW wr e).cell? ⟨wr.heap.size, 65, none⟩ = some (.bool e.safe) := by
        have := En.safe_at hfe (rangeAt_keep L1.out.rg rfl)
        rwa [Nat.zero_add] at this
      have p2 : (enW wr e).frozen? ⟨wr.heap.size, 65, none⟩ = false := L1.out.frozen (by omega)
      clear hfe
      have HS1 := Lib.hid (enW2_size wr e)
      have HS2 := Lib.hid (show (((enW wr e).setCell ⟨wr.heap.size, 65, none⟩ (.bool true)).alloc (.cells (En.mk e.s e.b true).cells.toArray 94)).heap.size = wr.heap.size + 2 by have := enW2_size wr e; simp at this ⊢; omega)
      have XX := Lib.hid <| World.news_of_block (w := ((enW wr e).setCell ⟨wr.heap.size, 65, none⟩ (.bool true)).alloc (.cells (En.mk e.s e.b true).cells.toArray 94)) (B := wr.heap.size + 1) (cs := (En.mk e.s e.b true).cells.toArray) (t := 94) (fr := (0, 0)) (by have := heap_alloc_new ((enW wr e).setCell ⟨wr.heap.size, 65, none⟩ (.bool true)) (.cells (En.mk e.s e.b true).cells.toArray 94); rwa [enW2_size] at this)
      cases hsf : e.safe
      · rw [hsf] at p1
        have HSF := Lib.hid hsf
        clear hsf
        have hzz : 0 + (waitS (es.take k)).length = wc := by rw [Nat.zero_add]; exact hwc.out.symm
        by_cases hge : wc < kn
        · have hd2 : decide ((wc : Int) < (kn : Int)) = true := by simp; omega
          have hw2 : (wc : Int) < (kn : Int) := by omega
          obtain ⟨kb, ko, rfl, hkb, hkc⟩ := HK.out.pos (by omega)
          have hq := hkc wc (by simp [bls]; omega)
          have hkb2 := Nat.lt_of_lt_of_le hkb (Nat.le_trans hB HBW.out)
          have p3 : (enW wr e).cell? ⟨kb, ko + wc, none⟩ = some (.bool (lvB ks wc)) := by
            refine cell_of_blk (((enW_below wr e).block kb hkb2).trans (hbel.out.block kb (Nat.lt_of_lt_of_le hkb hB))) ?_
            rw [hq]
            congr 1
            simp only [bls, List.getElem_map]
            rw [lvB, getD_of_lt (by omega)]
          clear hkc hq
          cases hlv : lvB ks wc
          · rw [hlv] at p3
            cases all
            · have HLV : Hid (¬ (lvA false ks (0 + (waitS (es.take k)).length) = true)) := Lib.hid (by rw [hzz]; unfold lvA; rw [hlv]; decide)
              clear hzz hlv
              go_wp2_with (first
                | (with_reducible refine al_en rfl rfl ?_)
                | (with_reducible refine ld_en rfl _ rfl b (o + k * 66) e HFE rfl PE.out ?_)
                | (with_reducible refine st_en rfl _ _ rfl wr.heap.size 0 e HFE rfl rfl (Z66_there wr) ?_))
              have hb5 : Below w.heap.size w (enW wr e) := hbel.out.trans ((enW_below wr e).mono HBW.out)
              go_roundw
              case rel => exact ⟨k + 1, A', m, c', wc + 1, by omega, by go_num, rfl, by omega, by go_num, by omega, Lib.hid (by rw [HT.out, waitS_snoc, if_neg (by rw [HSF.out]; decide), List.length_append, ← hwc.out]; rfl), Lib.hid (by rw [HT.out, liveE_snoc, if_neg (fun hh => hh.elim (fun x => by rw [HSF.out] at x; cases x) HLV.out), List.append_nil]; exact ownsRow_keep hown.out fun g hg => (enW_below wr e).block g ((hown.out.lt g hg).2)), hnon, Lib.hid hb5⟩
              case measure => simp [intOf]; omega
            · have HLV : Hid ((lvA true ks (0 + (waitS (es.take k)).length) = true)) := Lib.hid (by rw [hzz]; unfold lvA; rw [hlv]; decide)
              clear hzz hlv
              go_wp2_with (first
                | (with_reducible refine al_en rfl rfl ?_)
                | (with_reducible refine ld_en rfl _ rfl b (o + k * 66) e HFE rfl PE.out ?_)
                | (with_reducible refine st_en rfl _ _ rfl wr.heap.size 0 e HFE rfl rfl (Z66_there wr) ?_)
                | (with_reducible refine ld_en rfl _ rfl wr.heap.size 0 ⟨e.s, e.b, true⟩ HFE2 rfl L2.out.rg ?_)
                | (with_reducible refine wpList_one_en rfl _ rfl ⟨e.s, e.b, true⟩ HFE2 rfl (wr.heap.size + 1) HS1.out ?_)
                | (at_builtin; refine app_en rfl _ _ rfl w.heap.size (.slice A' m c') m (liveE (lvA true ks) (es.take k) 0) rfl ((ownsRow_keep hown.out fun g hg => (enW2_below wr e).block g ((hown.out.lt g hg).2)).alloc _) ⟨wr.heap.size + 1, 0, none⟩ 1 1 [⟨e.s, e.b, true⟩] rfl (Lib.hid (fun x hx => by rw [List.mem_singleton.1 hx]; exact HFE2.out)) rfl (by rw [ens_one]; exact XX.out) (by omega) (by omega) (by rw [HS2.out]; have := HBW.out; omega) (wr.heap.size + 2) HS2.out ?_; intro g2 c2 w5 hown5 hg5 hat5 hlt5))
              have hz5 := hg5.size
              rw [HS2.out] at hz5
              have hb5 : Below w.heap.size w w5 := ((hbel.out.trans ((enW2_below wr e).mono HBW.out)).alloc (by have := HBW.out; rw [enW2_size]; omega) _).grown hg5 (by rw [HS2.out]; have := HBW.out; omega) fun q hq => (hown.out.lt q hq).1
              go_roundw
              case rel => exact ⟨k + 1, _, m + 1, c2, wc + 1, by omega, by go_num, rfl, by omega, by go_num, by omega, Lib.hid (by rw [HT.out, waitS_snoc, if_neg (by rw [HSF.out]; decide)]; rw [List.length_append, ← hwc.out]; rfl), Lib.hid (by rw [HT.out, liveE_snoc, if_pos (.inr HLV.out)]; exact hown5), Lib.hid (fun e => by omega), Lib.hid hb5⟩
              case measure => simp [intOf]; omega
          · rw [hlv] at p3
            cases all
            · have HLV : Hid ((lvA false ks (0 + (waitS (es.take k)).length) = true)) := Lib.hid (by rw [hzz]; unfold lvA; rw [hlv]; decide)
              clear hzz hlv
              go_wp2_with (first
                | (with_reducible refine al_en rfl rfl ?_)
                | (with_reducible refine ld_en rfl _ rfl b (o + k * 66) e HFE rfl PE.out ?_)
                | (with_reducible refine st_en rfl _ _ rfl wr.heap.size 0 e HFE rfl rfl (Z66_there wr) ?_)
                | (with_reducible refine ld_en rfl _ rfl wr.heap.size 0 ⟨e.s, e.b, true⟩ HFE2 rfl L2.out.rg ?_)
                | (with_reducible refine wpList_one_en rfl _ rfl ⟨e.s, e.b, true⟩ HFE2 rfl (wr.heap.size + 1) HS1.out ?_)
                | (at_builtin; refine app_en rfl _ _ rfl w.heap.size (.slice A' m c') m (liveE (lvA false ks) (es.take k) 0) rfl ((ownsRow_keep hown.out fun g hg => (enW2_below wr e).block g ((hown.out.lt g hg).2)).alloc _) ⟨wr.heap.size + 1, 0, none⟩ 1 1 [⟨e.s, e.b, true⟩] rfl (Lib.hid (fun x hx => by rw [List.mem_singleton.1 hx]; exact HFE2.out)) rfl (by rw [ens_one]; exact XX.out) (by omega) (by omega) (by rw [HS2.out]; have := HBW.out; omega) (wr.heap.size + 2) HS2.out ?_; intro g2 c2 w5 hown5 hg5 hat5 hlt5))
              have hz5 := hg5.size
              rw [HS2.out] at hz5
              have hb5 : Below w.heap.size w w5 := ((hbel.out.trans ((enW2_below wr e).mono HBW.out)).alloc (by have := HBW.out; rw [enW2_size]; omega) _).grown hg5 (by rw [HS2.out]; have := HBW.out; omega) fun q hq => (hown.out.lt q hq).1
              go_roundw
              case rel => exact ⟨k + 1, _, m + 1, c2, wc + 1, by omega, by go_num, rfl, by omega, by go_num, by omega, Lib.hid (by rw [HT.out, waitS_snoc, if_neg (by rw [HSF.out]; decide)]; rw [List.length_append, ← hwc.out]; rfl), Lib.hid (by rw [HT.out, liveE_snoc, if_pos (.inr HLV.out)]; exact hown5), Lib.hid (fun e => by omega), Lib.hid hb5⟩
              case measure => simp [intOf]; omega
            · have HLV : Hid ((lvA true ks (0 + (waitS (es.take k)).length) = true)) := Lib.hid (by rw [hzz]; unfold lvA; rw [hlv]; decide)
              clear hzz hlv
              go_wp2_with (first
                | (with_reducible refine al_en rfl rfl ?_)
                | (with_reducible refine ld_en rfl _ rfl b (o + k * 66) e HFE rfl PE.out ?_)
                | (with_reducible refine st_en rfl _ _ rfl wr.heap.size 0 e HFE rfl rfl (Z66_there wr) ?_)
                | (with_reducible refine ld_en rfl _ rfl wr.heap.size 0 ⟨e.s, e.b, true⟩ HFE2 rfl L2.out.rg ?_)
                | (with_reducible refine wpList_one_en rfl _ rfl ⟨e.s, e.b, true⟩ HFE2 rfl (wr.heap.size + 1) HS1.out ?_)
                | (at_builtin; refine app_en rfl _ _ rfl w.heap.size (.slice A' m c') m (liveE (lvA true ks) (es.take k) 0) rfl ((ownsRow_keep hown.out fun g hg => (enW2_below wr e).block g ((hown.out.lt g hg).2)).alloc _) ⟨wr.heap.size + 1, 0, none⟩ 1 1 [⟨e.s, e.b, true⟩] rfl (Lib.hid (fun x hx => by rw [List.mem_singleton.1 hx]; exact HFE2.out)) rfl (by rw [ens_one]; exact XX.out) (by omega) (by omega) (by rw [HS2.out]; have := HBW.out; omega) (wr.heap.size + 2) HS2.out ?_; intro g2 c2 w5 hown5 hg5 hat5 hlt5))
              have hz5 := hg5.size
              rw [HS2.out] at hz5
              have hb5 : Below w.heap.size w w5 := ((hbel.out.trans ((enW2_below wr e).mono HBW.out)).alloc (by have := HBW.out; rw [enW2_size]; omega) _).grown hg5 (by rw [HS2.out]; have := HBW.out; omega) fun q hq => (hown.out.lt q hq).1
              go_roundw
              case rel => exact ⟨k + 1, _, m + 1, c2, wc + 1, by omega, by go_num, rfl, by omega, by go_num, by omega, Lib.hid (by rw [HT.out, waitS_snoc, if_neg (by rw [HSF.out]; decide)]; rw [List.length_append, ← hwc.out]; rfl), Lib.hid (by rw [HT.out, liveE_snoc, if_pos (.inr HLV.out)]; exact hown5), Lib.hid (fun e => by omega), Lib.hid hb5⟩
              case measure => simp [intOf]; omega
        · have hd2 : decide ((wc : Int) < (kn : Int)) = false := by simp; omega
          have hlv : lvB ks wc = false := by rw [lvB, List.getD_eq_getElem?_getD, List.getElem?_eq_none (by omega)]; rfl
          cases all
          · have HLV : Hid (¬ (lvA false ks (0 + (waitS (es.take k)).length) = true)) := Lib.hid (by rw [hzz]; unfold lvA; rw [hlv]; decide)
            clear hzz hlv
            go_wp2_with (first
              | (with_reducible refine al_en rfl rfl ?_)
              | (with_reducible refine ld_en rfl _ rfl b (o + k * 66) e HFE rfl PE.out ?_)
              | (with_reducible refine st_en rfl _ _ rfl wr.heap.size 0 e HFE rfl rfl (Z66_there wr) ?_))
            have hb5 : Below w.heap.size w (enW wr e) := hbel.out.trans ((enW_below wr e).mono HBW.out)
            go_roundw
            case rel => exact ⟨k + 1, A', m, c', wc + 1, by omega, by go_num, rfl, by omega, by go_num, by omega, Lib.hid (by rw [HT.out, waitS_snoc, if_neg (by rw [HSF.out]; decide), List.length_append, ← hwc.out]; rfl), Lib.hid (by rw [HT.out, liveE_snoc, if_neg (fun hh => hh.elim (fun x => by rw [HSF.out] at x; cases x) HLV.out), List.append_nil]; exact ownsRow_keep hown.out fun g hg => (enW_below wr e).block g ((hown.out.lt g hg).2)), hnon, Lib.hid hb5⟩
            case measure => simp [intOf]; omega
          · have HLV : Hid ((lvA true ks (0 + (waitS (es.take k)).length) = true)) := Lib.hid (by rw [hzz]; unfold lvA; rw [hlv]; decide)
            clear hzz hlv
            go_wp2_with (first
              | (with_reducible refine al_en rfl rfl ?_)
              | (with_reducible refine ld_en rfl _ rfl b (o + k * 66) e HFE rfl PE.out ?_)
              | (with_reducible refine st_en rfl _ _ rfl wr.heap.size 0 e HFE rfl rfl (Z66_there wr) ?_)
              | (with_reducible refine ld_en rfl _ rfl wr.heap.size 0 ⟨e.s, e.b, true⟩ HFE2 rfl L2.out.rg ?_)
              | (with_reducible refine wpList_one_en rfl _ rfl ⟨e.s, e.b, true⟩ HFE2 rfl (wr.heap.size + 1) HS1.out ?_)
              | (at_builtin; refine app_en rfl _ _ rfl w.heap.size (.slice A' m c') m (liveE (lvA true ks) (es.take k) 0) rfl ((ownsRow_keep hown.out fun g hg => (enW2_below wr e).block g ((hown.out.lt g hg).2)).alloc _) ⟨wr.heap.size + 1, 0, none⟩ 1 1 [⟨e.s, e.b, true⟩] rfl (Lib.hid (fun x hx => by rw [List.mem_singleton.1 hx]; exact HFE2.out)) rfl (by rw [ens_one]; exact XX.out) (by omega) (by omega) (by rw [HS2.out]; have := HBW.out; omega) (wr.heap.size + 2) HS2.out ?_; intro g2 c2 w5 hown5 hg5 hat5 hlt5))
            have hz5 := hg5.size
            rw [HS2.out] at hz5
            have hb5 : Below w.heap.size w w5 := ((hbel.out.trans ((enW2_below wr e).mono HBW.out)).alloc (by have := HBW.out; rw [enW2_size]; omega) _).grown hg5 (by rw [HS2.out]; have := HBW.out; omega) fun q hq => (hown.out.lt q hq).1
            go_roundw
            case rel => exact ⟨k + 1, _, m + 1, c2, wc + 1, by omega, by go_num, rfl, by omega, by go_num, by omega, Lib.hid (by rw [HT.out, waitS_snoc, if_neg (by rw [HSF.out]; decide)]; rw [List.length_append, ← hwc.out]; rfl), Lib.hid (by rw [HT.out, liveE_snoc, if_pos (.inr HLV.out)]; exact hown5), Lib.hid (fun e => by omega), Lib.hid hb5⟩
            case measure => simp [intOf]; omega
      · rw [hsf] at p1
        have HSF := Lib.hid hsf
        clear hsf
        go_wp2_with (first
          | (with_reducible refine al_en rfl rfl ?_)
          | (with_reducible refine ld_en rfl _ rfl b (o + k * 66) e HFE rfl PE.out ?_)
          | (with_reducible refine st_en rfl _ _ rfl wr.heap.size 0 e HFE rfl rfl (Z66_there wr) ?_)
          | (with_reducible refine ld_en rfl _ rfl wr.heap.size 0 ⟨e.s, e.b, true⟩ HFE2 rfl L2.out.rg ?_)
          | (with_reducible refine wpList_one_en rfl _ rfl ⟨e.s, e.b, true⟩ HFE2 rfl (wr.heap.size + 1) HS1.out ?_)
          | (at_builtin; refine app_en rfl _ _ rfl w.heap.size (.slice A' m c') m (liveE (lvA all ks) (es.take k) 0) rfl ((ownsRow_keep hown.out fun g hg => (enW2_below wr e).block g ((hown.out.lt g hg).2)).alloc _) ⟨wr.heap.size + 1, 0, none⟩ 1 1 [⟨e.s, e.b, true⟩] rfl (Lib.hid (fun x hx => by rw [List.mem_singleton.1 hx]; exact HFE2.out)) rfl (by rw [ens_one]; exact XX.out) (by omega) (by omega) (by rw [HS2.out]; have := HBW.out; omega) (wr.heap.size + 2) HS2.out ?_; intro g2 c2 w5 hown5 hg5 hat5 hlt5))
        have hz5 := hg5.size
        rw [HS2.out] at hz5
        have hb5 : Below w.heap.size w w5 := ((hbel.out.trans ((enW2_below wr e).mono HBW.out)).alloc (by have := HBW.out; rw [enW2_size]; omega) _).grown hg5 (by rw [HS2.out]; have := HBW.out; omega) fun q hq => (hown.out.lt q hq).1
        go_roundw
        case rel => exact ⟨k + 1, _, m + 1, c2, wc, by omega, by go_num, rfl, by omega, by go_num, by omega, Lib.hid (by rw [HT.out, waitS_snoc, if_pos HSF.out]; exact hwc.out), Lib.hid (by rw [HT.out, liveE_snoc, if_pos (.inl HSF.out)]; exact hown5), Lib.hid (fun e => by omega), Lib.hid hb5⟩
        case measure => simp [intOf]; omega
    · have hd : decide ((k : Int) < (l : Int)) = false := by simp; omega
      obtain rfl : k = l := by omega
      go_wp2
      go_ret
      rw [← hle, List.take_length] at hown
      obtain ⟨h1, h2⟩ := own_ew hown.out (liveE_fit HFIT.out) hnon.out
      exact ⟨_, _, _, rfl, h1, h2, hbel.out⟩
end Go.Proofs.Ytionbjocfepkaaa
