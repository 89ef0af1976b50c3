/-
  WHAT A BLOCK DOES TO EIGHT WORDS.
-/
import Derived.Test.YtgjkahoblopddaaDoorDraw
import Derived.Deep.RegionWith
import Derived.Deep.DeepCutAuto
namespace Go.Proofs.YtgjkahoblopddaaDoor
set_option linter.unusedVariables false
set_option linter.unusedSimpArgs false
open Go.RowKit

def W8.add (s t : W8) : W8 := ⟨s.a + t.a, s.b + t.b, s.c + t.c, s.d + t.d, s.e + t.e, s.f + t.f, s.g + t.g, s.h + t.h⟩
def blockW (h : W8) (b : List UInt8) : W8 := h.add (h.run (drW b 48) 64)
theorem GK.alloc {w : World} (h : GK w) (o : Obj) : GK (w.alloc o) := h.below ((Below.refl _ _).alloc (Nat.le_refl _) o)
theorem lies8 {W : World} {b : Nat} (h : Lies W b 8 Z8.toList) (t : W8) : Lies ((((((((W.setCell ⟨b, 0, none⟩ (wv t.a)).setCell ⟨b, 1, none⟩ (wv t.b)).setCell ⟨b, 2, none⟩ (wv t.c)).setCell ⟨b, 3, none⟩ (wv t.d)).setCell ⟨b, 4, none⟩ (wv t.e)).setCell ⟨b, 5, none⟩ (wv t.f)).setCell ⟨b, 6, none⟩ (wv t.g)).setCell ⟨b, 7, none⟩ (wv t.h)) b 8 (wvs t.list) := ((((((((h.set1 0 (wv t.a)).set1 1 (wv t.b)).set1 2 (wv t.c)).set1 3 (wv t.d)).set1 4 (wv t.e)).set1 5 (wv t.f)).set1 6 (wv t.g)).set1 7 (wv t.h))
theorem below8 {a W : World} {B b : Nat} (h : Below B a W) (hb : B ≤ b) (t : W8) : Below B a ((((((((W.setCell ⟨b, 0, none⟩ (wv t.a)).setCell ⟨b, 1, none⟩ (wv t.b)).setCell ⟨b, 2, none⟩ (wv t.c)).setCell ⟨b, 3, none⟩ (wv t.d)).setCell ⟨b, 4, none⟩ (wv t.e)).setCell ⟨b, 5, none⟩ (wv t.f)).setCell ⟨b, 6, none⟩ (wv t.g)).setCell ⟨b, 7, none⟩ (wv t.h)) := ((((((((h.setCell (p := ⟨b, 0, none⟩) hb _).setCell (p := ⟨b, 1, none⟩) hb _).setCell (p := ⟨b, 2, none⟩) hb _).setCell (p := ⟨b, 3, none⟩) hb _).setCell (p := ⟨b, 4, none⟩) hb _).setCell (p := ⟨b, 5, none⟩) hb _).setCell (p := ⟨b, 6, none⟩) hb _).setCell (p := ⟨b, 7, none⟩) hb _)
theorem new8 (w : World) (t : W8) : Lies (w.alloc (.cells #[wv t.a, wv t.b, wv t.c, wv t.d, wv t.e, wv t.f, wv t.g, wv t.h] 31)) w.heap.size 8 (wvs t.list) := Lies.new w (wvs t.list) 31
/-- k of eight sums are stored. -/
def sumsW (h t : W8) (k : Nat) : List UInt32 := (h.add t).list.take k ++ h.list.drop k
theorem sums_len (h t : W8) {k : Nat} (hk : k ≤ 8) : (sumsW h t k).length = 8 := by simp [sumsW]; omega
theorem sums_at (h t : W8) {k : Nat} (hk : k < 8) : (sumsW h t k).getD k 0 = h.list.getD k 0 := by
  rcases (show k = 0 ∨ k = 1 ∨ k = 2 ∨ k = 3 ∨ k = 4 ∨ k = 5 ∨ k = 6 ∨ k = 7 by omega) with rfl | rfl | rfl | rfl | rfl | rfl | rfl | rfl <;> rfl
theorem sums_set (h t : W8) {k : Nat} (hk : k < 8) : (sumsW h t k).set k (h.list.getD k 0 + t.list.getD k 0) = sumsW h t (k + 1) := by
  rcases (show k = 0 ∨ k = 1 ∨ k = 2 ∨ k = 3 ∨ k = 4 ∨ k = 5 ∨ k = 6 ∨ k = 7 by omega) with rfl | rfl | rfl | rfl | rfl | rfl | rfl | rfl <;> rfl

set_option maxRecDepth 100000 in
set_option maxHeartbeats 1600000 in
theorem block_any (h : W8) (b : List UInt8) (hl : b.length = 64) {w : World} (hg : GK w) :
    Calls Tryd.prog 17 #[h.val, .agg (bvs b).toArray] w fun e w' => e = .returned (blockW h b).val ∧ Below w.heap.size w w' := by
  have HLB := Lib.hid hl
  have H8 := Lib.hid (show h.list.length = 8 from rfl)
  obtain ⟨w1, hw1⟩ : ∃ w1, w1 = w.alloc (.cells (wvs h.list).toArray 31) := ⟨_, rfl⟩
  have hz1 : w1.heap.size = w.heap.size + 1 := by rw [hw1]; simp
  have hb1 : Below w.heap.size w w1 := by rw [hw1]; exact (Below.refl _ _).alloc (Nat.le_refl _) _
  have l1 : Lies w1 w.heap.size 8 (wvs h.list) := by rw [hw1]; exact Lies.new w (wvs h.list) 31
  obtain ⟨w2, hw2⟩ : ∃ w2, w2 = w1.alloc (.cells (bvs b).toArray 32) := ⟨_, rfl⟩
  have hz2 : w2.heap.size = w.heap.size + 1 + 1 := by rw [hw2]; simp [hz1]
  have hb2 : Below w.heap.size w w2 := by rw [hw2]; exact hb1.alloc hb1.size _
  have l12 : Lies w2 w.heap.size 8 (wvs h.list) := by rw [hw2]; exact l1.alloc _
  have l2 : Lies w2 (w.heap.size + 1) 64 (bvs b) := by
    have := Lies.new w1 (bvs b) 32
    rw [bvs_len, hl, ← hw2, hz1] at this
    exact this
  obtain ⟨w3, hw3⟩ : ∃ w3, w3 = w2.alloc (.cells Z8 31) := ⟨_, rfl⟩
  have hz3 : w3.heap.size = w.heap.size + 1 + 1 + 1 := by rw [hw3]; simp [hz2]
  have hb3 : Below w.heap.size w w3 := by rw [hw3]; exact hb2.alloc hb2.size _
  have l13 : Lies w3 w.heap.size 8 (wvs h.list) := by rw [hw3]; exact l12.alloc _
  have l23 : Lies w3 (w.heap.size + 1) 64 (bvs b) := by rw [hw3]; exact l2.alloc _
  have l3 : Lies w3 (w.heap.size + 1 + 1) 8 Z8.toList := by
    have := Z8_new w2
    rw [← hw3, hz2] at this
    exact this
  have HW3 := Lib.hid (hw3.trans (by rw [hw2, hw1]))
  have L1 := Lib.hid l13
  have L2 := Lib.hid l23
  have L3 := Lib.hid l3
  have B3 := Lib.hid hb3
  have G3 := Lib.hid (hg.below hb3)
  have Z3 := Lib.hid hz3
  obtain ⟨t, ht⟩ : ∃ t, h.run (drW b 48) 64 = t := ⟨_, rfl⟩
  have HT := Lib.hid ht
  have HTL := Lib.hid (show t.list.length = 8 from rfl)
  have C1 := Lib.hid (fun w' => drawn_any b hl w')
  have C2 := Lib.hid (fun (w' : World) (hg' : GK w') => by
    have := stepped_any h (drW b 48) (drW_len b 48) hg'
    rw [ht] at this
    exact this)
  clear hl hw1 hz1 hb1 l1 hw2 hz2 hb2 l12 l2 hw3 hz3 hb3 l13 l23 l3 hg ht
  go_enter Tryd.func17, Tryd.ntmps17
  go_upto_region 1 with fail
  rw [show ((w.alloc (.cells #[wv h.a, wv h.b, wv h.c, wv h.d, wv h.e, wv h.f, wv h.g, wv h.h] 31)).alloc (.cells (bvs b).toArray 32)).alloc (.cells #[.int .u32 0, .int .u32 0, .int .u32 0, .int .u32 0, .int .u32 0, .int .u32 0, .int .u32 0, .int .u32 0] 31) = w3 from HW3.out.symm]
  go_cut [5] (fun s5 wx => ∃ B5 : Nat, s5 = .pointer (some ⟨B5, 0, none⟩) ∧ Hid (Lies wx B5 8 (wvs t.list)) ∧ Hid (Below w3.heap.size w3 wx))
  case first =>
    have BD := Lib.hid (show Below w3.heap.size w3 w3.drew from (Below.refl _ _).drew)
    have BA := Lib.hid (show Below w3.heap.size w3 ((w3.alloc (.cells Z8 31)).drew) from ((Below.refl _ _).alloc (Nat.le_refl _) _).drew)
    have LA0 := Lib.hid (show Lies ((w3.alloc (.cells Z8 31)).drew) w3.heap.size 8 Z8.toList from (Z8_new w3).drewN 1)
    have LD1 := Lib.hid (L1.out.below BD.out L1.out.lt)
    have LD2 := Lib.hid (L2.out.below BD.out L2.out.lt)
    have GD := Lib.hid (G3.out.below BD.out)
    have hu8 := Tryd.underlying31
    have hi8 : (Tryd.prog.info? 31).map (·.size) = some (wvs h.list).length := by rw [wvs_len]; exact size_w8
    have hu64 := Tryd.underlying32
    have hi64 : (Tryd.prog.info? 32).map (·.size) = some (bvs b).length := by rw [bvs_len, HLB.out]; exact size_b64
    have HK := Lib.hid (fun w' (hb : Below w3.heap.size w3 w') => show w'.cell? ⟨w.heap.size, 0, none⟩ = some (wv h.a) ∧ w'.cell? ⟨w.heap.size, 1, none⟩ = some (wv h.b) ∧ w'.cell? ⟨w.heap.size, 2, none⟩ = some (wv h.c) ∧ w'.cell? ⟨w.heap.size, 3, none⟩ = some (wv h.d) ∧ w'.cell? ⟨w.heap.size, 4, none⟩ = some (wv h.e) ∧ w'.cell? ⟨w.heap.size, 5, none⟩ = some (wv h.f) ∧ w'.cell? ⟨w.heap.size, 6, none⟩ = some (wv h.g) ∧ w'.cell? ⟨w.heap.size, 7, none⟩ = some (wv h.h) ∧ w'.rangeAt (w.heap.size + 1) 0 (bvs b) from ⟨(L1.out.below hb L1.out.lt).cell (j := 0) rfl, (L1.out.below hb L1.out.lt).cell (j := 1) rfl, (L1.out.below hb L1.out.lt).cell (j := 2) rfl, (L1.out.below hb L1.out.lt).cell (j := 3) rfl, (L1.out.below hb L1.out.lt).cell (j := 4) rfl, (L1.out.below hb L1.out.lt).cell (j := 5) rfl, (L1.out.below hb L1.out.lt).cell (j := 6) rfl, (L1.out.below hb L1.out.lt).cell (j := 7) rfl, (L2.out.below hb L2.out.lt).rg⟩)
    have HKD := Lib.hid (HK.out _ BD.out)
    have HKA := Lib.hid (fun o => HK.out (w3.drew.alloc o) (BD.out.alloc (Nat.le_refl _) o))
    go_region_held3 (fun w' => w'.cell? ⟨w.heap.size, 0, none⟩ = some (wv h.a) ∧ w'.cell? ⟨w.heap.size, 1, none⟩ = some (wv h.b) ∧ w'.cell? ⟨w.heap.size, 2, none⟩ = some (wv h.c) ∧ w'.cell? ⟨w.heap.size, 3, none⟩ = some (wv h.d) ∧ w'.cell? ⟨w.heap.size, 4, none⟩ = some (wv h.e) ∧ w'.cell? ⟨w.heap.size, 5, none⟩ = some (wv h.f) ∧ w'.cell? ⟨w.heap.size, 6, none⟩ = some (wv h.g) ∧ w'.cell? ⟨w.heap.size, 7, none⟩ = some (wv h.h) ∧ w'.rangeAt (w.heap.size + 1) 0 (bvs b))
      (first | with_reducible exact HKD.out | with_reducible exact HKA.out _ | with_reducible exact HK5.out | with_reducible exact HK6.out | ((with_reducible refine HK.out _ ?_); repeat' (first | with_reducible exact B6.out | with_reducible exact B6.out.size | with_reducible exact B5.out | with_reducible exact B5.out.size | with_reducible exact BD.out | with_reducible exact BD.out.size | with_reducible exact Nat.le_refl _ | with_reducible exact Below.refl _ _ | with_reducible apply Below.drew | with_reducible apply Below.setCell | with_reducible apply Below.alloc)))
      (first
        | (go_at_call 41; refine (C1.out _).mono ?_; rintro e w5 ⟨rfl, hb5⟩; have B5 : Hid (Below w3.heap.size w3 w5) := Lib.hid (by first | with_reducible exact BD.out.trans (hb5.mono BD.out.size) | with_reducible exact BA.out.trans (hb5.mono BA.out.size)); have G5 := Lib.hid (G3.out.below B5.out); have HK5 := Lib.hid (HK.out _ B5.out); (try (with_reducible have LA := Lib.hid (LA0.out.below hb5 LA0.out.lt))); clear hb5)
        | (go_at_call 40; refine (C2.out _ ?_).mono ?_; (first | with_reducible exact G5.out | with_reducible exact G5.out.alloc _); rintro e w6 ⟨rfl, hb6⟩; have B6 : Hid (Below w3.heap.size w3 w6) := Lib.hid (by first | with_reducible exact B5.out.trans (hb6.mono B5.out.size) | with_reducible exact (B5.out.alloc B5.out.size _).trans (hb6.mono (B5.out.alloc B5.out.size _).size)); have HK6 := Lib.hid (HK.out _ B6.out); (try ((with_reducible have LB := Lib.hid (LA.out.below hb6 LA.out.lt)); have z0 := LB.out.cell (j := 0) rfl; have f0 := LB.out.frozen (j := 0) (by omega); have z1 := LB.out.cell (j := 1) rfl; have f1 := LB.out.frozen (j := 1) (by omega); have z2 := LB.out.cell (j := 2) rfl; have f2 := LB.out.frozen (j := 2) (by omega); have z3 := LB.out.cell (j := 3) rfl; have f3 := LB.out.frozen (j := 3) (by omega); have z4 := LB.out.cell (j := 4) rfl; have f4 := LB.out.frozen (j := 4) (by omega); have z5 := LB.out.cell (j := 5) rfl; have f5 := LB.out.frozen (j := 5) (by omega); have z6 := LB.out.cell (j := 6) rfl; have f6 := LB.out.frozen (j := 6) (by omega); have z7 := LB.out.cell (j := 7) rfl; have f7 := LB.out.frozen (j := 7) (by omega))); (try ((with_reducible have LB := Lib.hid ((Z8_new w5).below hb6 (Z8_new w5).lt)); have z0 := LB.out.cell (j := 0) rfl; have f0 := LB.out.frozen (j := 0) (by omega); have z1 := LB.out.cell (j := 1) rfl; have f1 := LB.out.frozen (j := 1) (by omega); have z2 := LB.out.cell (j := 2) rfl; have f2 := LB.out.frozen (j := 2) (by omega); have z3 := LB.out.cell (j := 3) rfl; have f3 := LB.out.frozen (j := 3) (by omega); have z4 := LB.out.cell (j := 4) rfl; have f4 := LB.out.frozen (j := 4) (by omega); have z5 := LB.out.cell (j := 5) rfl; have f5 := LB.out.frozen (j := 5) (by omega); have z6 := LB.out.cell (j := 6) rfl; have f6 := LB.out.frozen (j := 6) (by omega); have z7 := LB.out.cell (j := 7) rfl; have f7 := LB.out.frozen (j := 7) (by omega))); clear hb6))
    all_goals (go_wp2_with fail; go_meet)
    all_goals refine ⟨_, rfl, Lib.hid ?_, Lib.hid ?_⟩
    all_goals first
      | with_reducible exact new8 w6 t
      | with_reducible exact lies8 LB.out t
      | with_reducible exact B6.out.alloc B6.out.size _
      | with_reducible exact below8 B6.out B5.out.size t
      | with_reducible exact below8 B6.out (Nat.le_refl _) t
  case rest =>
    obtain ⟨B5, rfl, hL5, hb5⟩ := hcut
    obtain ⟨w4, rfl⟩ : ∃ w4 : World, w4 = wc := ⟨_, rfl⟩
    have N1 := Lib.hid (L1.out.below hb5.out L1.out.lt)
    have N3 := Lib.hid (L3.out.below hb5.out L3.out.lt)
    have B4 := Lib.hid (B3.out.trans (hb5.out.mono B3.out.size))
    go_wp2_with (with_reducible refine ld_w8 rfl _ rfl B5 0 t.list HTL rfl hL5.out.rg ?_)
    go_loopw [13] (fun i wr => ∃ k : Nat, k ≤ 8 ∧ i = .int .i64 (k : Int) ∧ Hid (Below w.heap.size w wr) ∧ Hid (Lies wr w.heap.size 8 (wvs (sumsW h t k))) ∧ Hid (Lies wr (w.heap.size + 1 + 1) 8 Z8.toList)) (fun i _ => 8 - (intOf i).toNat)
    case atStart => exact ⟨0, by omega, rfl, B4, N1, N3⟩
    case round =>
      obtain ⟨k, hk, rfl, hB, hL1, hL3⟩ := hrel
      by_cases hlt : k < 8
      · have hd : decide ((k : Int) < 8) = true := by simp; omega
        have hk0 : (0 : Int) ≤ (k : Int) := Int.natCast_nonneg _
        have hk1 : (k : Int) < 8 := by omega
        have hix := index_words Tryd.underlying31 (show t.list.length = 8 from rfl) (show k < t.list.length from hlt)
        have hta : t.list[k]'hlt = t.list.getD k 0 := by rw [List.getD_eq_getElem?_getD, List.getElem?_eq_getElem (show k < t.list.length from hlt)]; rfl
        have hs := sums_set h t hlt
        have q1 : wr.cell? ⟨w.heap.size, k, none⟩ = some (wv (h.list.getD k 0)) := by
          rw [← sums_at h t hlt]
          have hlen := sums_len h t (k := k) (by omega)
          refine hL1.out.cell ?_
          rw [wvs_at _ (show k < (sumsW h t k).length by omega), List.getD_eq_getElem?_getD, List.getElem?_eq_getElem (show k < (sumsW h t k).length by omega)]
          rfl
        have q2 := hL1.out.frozen (j := k) hlt
        rw [hta] at hix
        generalize h.list.getD k 0 = x at q1 hs
        generalize t.list.getD k 0 = y at hix hs
        have HS := Lib.hid hs
        clear hta hs
        go_wp2
        go_roundw
        case rel =>
          refine ⟨k + 1, by omega, by go_num, Lib.hid ?_, Lib.hid ?_, Lib.hid ?_⟩
          · exact hB.out.setCell (Nat.le_refl _) _
          · rw [← w_sum, ← HS.out]
            have h1 := hL1.out.set1 k (wv (x + y))
            rw [show (wvs (sumsW h t k)).set k (wv (x + y)) = wvs ((sumsW h t k).set k (x + y)) by simp [wvs, List.map_set]] at h1
            exact h1
          · exact hL3.out.other (b' := w.heap.size) (by omega) k [_]
        case measure => simp [intOf]; omega
      · have hd : decide ((k : Int) < 8) = false := by simp; omega
        obtain rfl : k = 8 := by omega
        have HBB := hB
        have HL1 : Hid (Lies wr w.heap.size 8 (wvs (h.add t).list)) := hL1
        have HL3 := hL3
        have HAL := Lib.hid (show (h.add t).list.length = 8 from rfl)
        clear hB hL1 hL3
        go_wp2_with (first
          | (with_reducible refine ld_w8 rfl _ rfl w.heap.size 0 (h.add t).list HAL rfl HL1.out.rg ?_)
          | (with_reducible refine st_w8 rfl _ _ rfl (w.heap.size + 1 + 1) 0 (h.add t).list HAL rfl rfl HL3.out.th ?_))
        refine bodyPost_ret (res_w8 rfl _ _ (w.heap.size + 1 + 1) (h.add t).list rfl rfl (HL3.out.set_ (l' := wvs (h.add t).list) rfl).rg) rfl ⟨by unfold blockW; rw [HT.out]; rfl, below_setCells HBB.out (by omega) _ _⟩
end Go.Proofs.YtgjkahoblopddaaDoor
