/-
  WHAT A BLOCK DOES TO EIGHT WORDS.
  THE WORDS AS BYTES: a digest's id.
  BYTES, FILLED UP.
-/
import Derived.Test.YtcofkhmgmemkmaaGreatDoorK03
import Derived.Deep.RegionWith
import Derived.Deep.DeepCutAuto
import Derived.Laws.Cover3
import Derived.Deep.CutBlock
namespace Go.Proofs.YtcofkhmgmemkmaaGreatDoor.S3
set_option maxRecDepth 100000
set_option linter.unusedVariables false
set_option linter.unusedSimpArgs false
open Go.RowKit

def W8.add (s t : W8) : W8 := ⟨s.a + t.a, s.b + t.b, s.c + t.c, s.d + t.d, s.e + t.e, s.f + t.f, s.g + t.g, s.h + t.h⟩
def blockW (h : W8) (b : List UInt8) : W8 := h.add (h.run (drW b 48) 64)
theorem GK.alloc {w : World} (h : GK w) (o : Obj) : GK (w.alloc o) := h.below ((Below.refl _ _).alloc (Nat.le_refl _) o)
theorem lies8 {W : World} {b : Nat} (h : Lies W b 8 Z8.toList) (t : W8) : Lies ((((((((W.setCell ⟨b, 0, none⟩ (wv t.a)).setCell ⟨b, 1, none⟩ (wv t.b)).setCell ⟨b, 2, none⟩ (wv t.c)).setCell ⟨b, 3, none⟩ (wv t.d)).setCell ⟨b, 4, none⟩ (wv t.e)).setCell ⟨b, 5, none⟩ (wv t.f)).setCell ⟨b, 6, none⟩ (wv t.g)).setCell ⟨b, 7, none⟩ (wv t.h)) b 8 (wvs t.list) := ((((((((h.set1 0 (wv t.a)).set1 1 (wv t.b)).set1 2 (wv t.c)).set1 3 (wv t.d)).set1 4 (wv t.e)).set1 5 (wv t.f)).set1 6 (wv t.g)).set1 7 (wv t.h))
theorem below8 {a W : World} {B b : Nat} (h : Below B a W) (hb : B ≤ b) (t : W8) : Below B a ((((((((W.setCell ⟨b, 0, none⟩ (wv t.a)).setCell ⟨b, 1, none⟩ (wv t.b)).setCell ⟨b, 2, none⟩ (wv t.c)).setCell ⟨b, 3, none⟩ (wv t.d)).setCell ⟨b, 4, none⟩ (wv t.e)).setCell ⟨b, 5, none⟩ (wv t.f)).setCell ⟨b, 6, none⟩ (wv t.g)).setCell ⟨b, 7, none⟩ (wv t.h)) := ((((((((h.setCell (p := ⟨b, 0, none⟩) hb _).setCell (p := ⟨b, 1, none⟩) hb _).setCell (p := ⟨b, 2, none⟩) hb _).setCell (p := ⟨b, 3, none⟩) hb _).setCell (p := ⟨b, 4, none⟩) hb _).setCell (p := ⟨b, 5, none⟩) hb _).setCell (p := ⟨b, 6, none⟩) hb _).setCell (p := ⟨b, 7, none⟩) hb _)
theorem new8 (w : World) (t : W8) : Lies (w.alloc (.cells #[wv t.a, wv t.b, wv t.c, wv t.d, wv t.e, wv t.f, wv t.g, wv t.h] 129)) w.heap.size 8 (wvs t.list) := Lies.new w (wvs t.list) 129
/-- k of eight sums are stored. -/
def sumsW (h t : W8) (k : Nat) : List UInt32 := (h.add t).list.take k ++ h.list.drop k
theorem sums_len (h t : W8) {k : Nat} (hk : k ≤ 8) : (sumsW h t k).length = 8 := by simp [sumsW]; omega
theorem sums_at (h t : W8) {k : Nat} (hk : k < 8) : (sumsW h t k).getD k 0 = h.list.getD k 0 := by
  rcases (show k = 0 ∨ k = 1 ∨ k = 2 ∨ k = 3 ∨ k = 4 ∨ k = 5 ∨ k = 6 ∨ k = 7 by omega) with rfl | rfl | rfl | rfl | rfl | rfl | rfl | rfl <;> rfl
theorem sums_set (h t : W8) {k : Nat} (hk : k < 8) : (sumsW h t k).set k (h.list.getD k 0 + t.list.getD k 0) = sumsW h t (k + 1) := by
  rcases (show k = 0 ∨ k = 1 ∨ k = 2 ∨ k = 3 ∨ k = 4 ∨ k = 5 ∨ k = 6 ∨ k = 7 by omega) with rfl | rfl | rfl | rfl | rfl | rfl | rfl | rfl <;> rfl

set_option maxRecDepth 100000 in
set_option maxHeartbeats 1600000 in
theorem block_any (h : W8) (b : List UInt8) (hl : b.length = 64) {w : World} (hg : GK w) :
    Calls Tryz.prog 101 #[h.val, .agg (bvs b).toArray] w fun e w' => e = .returned (blockW h b).val ∧ Below w.heap.size w w' := by
  have HLB := Lib.hid hl
  have H8 := Lib.hid (show h.list.length = 8 from rfl)
  obtain ⟨w1, hw1⟩ : ∃ w1, w1 = w.alloc (.cells (wvs h.list).toArray 129) := ⟨_, rfl⟩
  have hz1 : w1.heap.size = w.heap.size + 1 := by rw [hw1]; simp
  have hb1 : Below w.heap.size w w1 := by rw [hw1]; exact (Below.refl _ _).alloc (Nat.le_refl _) _
  have l1 : Lies w1 w.heap.size 8 (wvs h.list) := by rw [hw1]; exact Lies.new w (wvs h.list) 129
  obtain ⟨w2, hw2⟩ : ∃ w2, w2 = w1.alloc (.cells (bvs b).toArray 149) := ⟨_, rfl⟩
  have hz2 : w2.heap.size = w.heap.size + 1 + 1 := by rw [hw2]; simp [hz1]
  have hb2 : Below w.heap.size w w2 := by rw [hw2]; exact hb1.alloc hb1.size _
  have l12 : Lies w2 w.heap.size 8 (wvs h.list) := by rw [hw2]; exact l1.alloc _
  have l2 : Lies w2 (w.heap.size + 1) 64 (bvs b) := by
    have := Lies.new w1 (bvs b) 149
    rw [bvs_len, hl, ← hw2, hz1] at this
    exact this
  obtain ⟨w3, hw3⟩ : ∃ w3, w3 = w2.alloc (.cells Z8 129) := ⟨_, rfl⟩
  have hz3 : w3.heap.size = w.heap.size + 1 + 1 + 1 := by rw [hw3]; simp [hz2]
  have hb3 : Below w.heap.size w w3 := by rw [hw3]; exact hb2.alloc hb2.size _
  have l13 : Lies w3 w.heap.size 8 (wvs h.list) := by rw [hw3]; exact l12.alloc _
  have l23 : Lies w3 (w.heap.size + 1) 64 (bvs b) := by rw [hw3]; exact l2.alloc _
  have l3 : Lies w3 (w.heap.size + 1 + 1) 8 Z8.toList := by
    have := Z8_new w2
    rw [← hw3, hz2] at this
    exact this
  have HW3 := Lib.hid (hw3.trans (by rw [hw2, hw1]))
  have L1 := Lib.hid l13
  have L2 := Lib.hid l23
  have L3 := Lib.hid l3
  have B3 := Lib.hid hb3
  have G3 := Lib.hid (hg.below hb3)
  have Z3 := Lib.hid hz3
  obtain ⟨t, ht⟩ : ∃ t, h.run (drW b 48) 64 = t := ⟨_, rfl⟩
  have HT := Lib.hid ht
  have HTL := Lib.hid (show t.list.length = 8 from rfl)
  have C1 := Lib.hid (fun w' => drawn_any b hl w')
  have C2 := Lib.hid (fun (w' : World) (hg' : GK w') => by
    have := stepped_any h (drW b 48) (drW_len b 48) hg'
    rw [ht] at this
    exact this)
  clear hl hw1 hz1 hb1 l1 hw2 hz2 hb2 l12 l2 hw3 hz3 hb3 l13 l23 l3 hg ht
  go_enter Tryz.func101, Tryz.ntmps101
  go_upto_region 1 with fail
  rw [show ((w.alloc (.cells #[wv h.a, wv h.b, wv h.c, wv h.d, wv h.e, wv h.f, wv h.g, wv h.h] 129)).alloc (.cells (bvs b).toArray 149)).alloc (.cells #[.int .u32 0, .int .u32 0, .int .u32 0, .int .u32 0, .int .u32 0, .int .u32 0, .int .u32 0, .int .u32 0] 129) = w3 from HW3.out.symm]
  go_cut [5] (fun s5 wx => ∃ B5 : Nat, s5 = .pointer (some ⟨B5, 0, none⟩) ∧ Hid (Lies wx B5 8 (wvs t.list)) ∧ Hid (Below w3.heap.size w3 wx))
  case first =>
    have BD := Lib.hid (show Below w3.heap.size w3 w3.drew from (Below.refl _ _).drew)
    have BA := Lib.hid (show Below w3.heap.size w3 ((w3.alloc (.cells Z8 129)).drew) from ((Below.refl _ _).alloc (Nat.le_refl _) _).drew)
    have LA0 := Lib.hid (show Lies ((w3.alloc (.cells Z8 129)).drew) w3.heap.size 8 Z8.toList from (Z8_new w3).drewN 1)
    have LD1 := Lib.hid (L1.out.below BD.out L1.out.lt)
    have LD2 := Lib.hid (L2.out.below BD.out L2.out.lt)
    have GD := Lib.hid (G3.out.below BD.out)
    have hu8 := Tryz.underlying129
    have hi8 : (Tryz.prog.info? 129).map (·.size) = some (wvs h.list).length := by rw [wvs_len]; exact size_w8
    have hu64 := Tryz.underlying149
    have hi64 : (Tryz.prog.info? 149).map (·.size) = some (bvs b).length := by rw [bvs_len, HLB.out]; exact size_b64
    have HK := Lib.hid (fun w' (hb : Below w3.heap.size w3 w') => show w'.cell? ⟨w.heap.size, 0, none⟩ = some (wv h.a) ∧ w'.cell? ⟨w.heap.size, 1, none⟩ = some (wv h.b) ∧ w'.cell? ⟨w.heap.size, 2, none⟩ = some (wv h.c) ∧ w'.cell? ⟨w.heap.size, 3, none⟩ = some (wv h.d) ∧ w'.cell? ⟨w.heap.size, 4, none⟩ = some (wv h.e) ∧ w'.cell? ⟨w.heap.size, 5, none⟩ = some (wv h.f) ∧ w'.cell? ⟨w.heap.size, 6, none⟩ = some (wv h.g) ∧ w'.cell? ⟨w.heap.size, 7, none⟩ = some (wv h.h) ∧ w'.rangeAt (w.heap.size + 1) 0 (bvs b) from ⟨(L1.out.below hb L1.out.lt).cell (j := 0) rfl, (L1.out.below hb L1.out.lt).cell (j := 1) rfl, (L1.out.below hb L1.out.lt).cell (j := 2) rfl, (L1.out.below hb L1.out.lt).cell (j := 3) rfl, (L1.out.below hb L1.out.lt).cell (j := 4) rfl, (L1.out.below hb L1.out.lt).cell (j := 5) rfl, (L1.out.below hb L1.out.lt).cell (j := 6) rfl, (L1.out.below hb L1.out.lt).cell (j := 7) rfl, (L2.out.below hb L2.out.lt).rg⟩)
    have HKD := Lib.hid (HK.out _ BD.out)
    have HKA := Lib.hid (fun o => HK.out (w3.drew.alloc o) (BD.out.alloc (Nat.le_refl _) o))
    go_region_held3 (fun w' => w'.cell? ⟨w.heap.size, 0, none⟩ = some (wv h.a) ∧ w'.cell? ⟨w.heap.size, 1, none⟩ = some (wv h.b) ∧ w'.cell? ⟨w.heap.size, 2, none⟩ = some (wv h.c) ∧ w'.cell? ⟨w.heap.size, 3, none⟩ = some (wv h.d) ∧ w'.cell? ⟨w.heap.size, 4, none⟩ = some (wv h.e) ∧ w'.cell? ⟨w.heap.size, 5, none⟩ = some (wv h.f) ∧ w'.cell? ⟨w.heap.size, 6, none⟩ = some (wv h.g) ∧ w'.cell? ⟨w.heap.size, 7, none⟩ = some (wv h.h) ∧ w'.rangeAt (w.heap.size + 1) 0 (bvs b))
      (first | with_reducible exact HKD.out | with_reducible exact HKA.out _ | with_reducible exact HK5.out | with_reducible exact HK6.out | ((with_reducible refine HK.out _ ?_); repeat' (first | with_reducible exact B6.out | with_reducible exact B6.out.size | with_reducible exact B5.out | with_reducible exact B5.out.size | with_reducible exact BD.out | with_reducible exact BD.out.size | with_reducible exact Nat.le_refl _ | with_reducible exact Below.refl _ _ | with_reducible apply Below.drew | with_reducible apply Below.setCell | with_reducible apply Below.alloc)))
      (first
        | (go_at_call 107; refine (C1.out _).mono ?_; rintro e w5 ⟨rfl, hb5⟩; have B5 : Hid (Below w3.heap.size w3 w5) := Lib.hid (by first | with_reducible exact BD.out.trans (hb5.mono BD.out.size) | with_reducible exact BA.out.trans (hb5.mono BA.out.size)); have G5 := Lib.hid (G3.out.below B5.out); have HK5 := Lib.hid (HK.out _ B5.out); (try (with_reducible have LA := Lib.hid (LA0.out.below hb5 LA0.out.lt))); clear hb5)
        | (go_at_call 106; refine (C2.out _ ?_).mono ?_; (first | with_reducible exact G5.out | with_reducible exact G5.out.alloc _); rintro e w6 ⟨rfl, hb6⟩; have B6 : Hid (Below w3.heap.size w3 w6) := Lib.hid (by first | with_reducible exact B5.out.trans (hb6.mono B5.out.size) | with_reducible exact (B5.out.alloc B5.out.size _).trans (hb6.mono (B5.out.alloc B5.out.size _).size)); have HK6 := Lib.hid (HK.out _ B6.out); (try ((with_reducible have LB := Lib.hid (LA.out.below hb6 LA.out.lt)); have z0 := LB.out.cell (j := 0) rfl; have f0 := LB.out.frozen (j := 0) (by omega); have z1 := LB.out.cell (j := 1) rfl; have f1 := LB.out.frozen (j := 1) (by omega); have z2 := LB.out.cell (j := 2) rfl; have f2 := LB.out.frozen (j := 2) (by omega); have z3 := LB.out.cell (j := 3) rfl; have f3 := LB.out.frozen (j := 3) (by omega); have z4 := LB.out.cell (j := 4) rfl; have f4 := LB.out.frozen (j := 4) (by omega); have z5 := LB.out.cell (j := 5) rfl; have f5 := LB.out.frozen (j := 5) (by omega); have z6 := LB.out.cell (j := 6) rfl; have f6 := LB.out.frozen (j := 6) (by omega); have z7 := LB.out.cell (j := 7) rfl; have f7 := LB.out.frozen (j := 7) (by omega))); (try ((with_reducible have LB := Lib.hid ((Z8_new w5).below hb6 (Z8_new w5).lt)); have z0 := LB.out.cell (j := 0) rfl; have f0 := LB.out.frozen (j := 0) (by omega); have z1 := LB.out.cell (j := 1) rfl; have f1 := LB.out.frozen (j := 1) (by omega); have z2 := LB.out.cell (j := 2) rfl; have f2 := LB.out.frozen (j := 2) (by omega); have z3 := LB.out.cell (j := 3) rfl; have f3 := LB.out.frozen (j := 3) (by omega); have z4 := LB.out.cell (j := 4) rfl; have f4 := LB.out.frozen (j := 4) (by omega); have z5 := LB.out.cell (j := 5) rfl; have f5 := LB.out.frozen (j := 5) (by omega); have z6 := LB.out.cell (j := 6) rfl; have f6 := LB.out.frozen (j := 6) (by omega); have z7 := LB.out.cell (j := 7) rfl; have f7 := LB.out.frozen (j := 7) (by omega))); clear hb6))
    all_goals (go_wp2_with fail; go_meet)
    all_goals refine ⟨_, rfl, Lib.hid ?_, Lib.hid ?_⟩
    all_goals first
      | with_reducible exact new8 w6 t
      | with_reducible exact lies8 LB.out t
      | with_reducible exact B6.out.alloc B6.out.size _
      | with_reducible exact below8 B6.out B5.out.size t
      | with_reducible exact below8 B6.out (Nat.le_refl _) t
  case rest =>
    obtain ⟨B5, rfl, hL5, hb5⟩ := hcut
    obtain ⟨w4, rfl⟩ : ∃ w4 : World, w4 = wc := ⟨_, rfl⟩
    have N1 := Lib.hid (L1.out.below hb5.out L1.out.lt)
    have N3 := Lib.hid (L3.out.below hb5.out L3.out.lt)
    have B4 := Lib.hid (B3.out.trans (hb5.out.mono B3.out.size))
    go_wp2_with (with_reducible refine ld_w8 rfl _ rfl B5 0 t.list HTL rfl hL5.out.rg ?_)
    go_loopw [13] (fun i wr => ∃ k : Nat, k ≤ 8 ∧ i = .int .i64 (k : Int) ∧ Hid (Below w.heap.size w wr) ∧ Hid (Lies wr w.heap.size 8 (wvs (sumsW h t k))) ∧ Hid (Lies wr (w.heap.size + 1 + 1) 8 Z8.toList)) (fun i _ => 8 - (intOf i).toNat)
    case atStart => exact ⟨0, by omega, rfl, B4, N1, N3⟩
    case round =>
      obtain ⟨k, hk, rfl, hB, hL1, hL3⟩ := hrel
      by_cases hlt : k < 8
      · have hd : decide ((k : Int) < 8) = true := by simp; omega
        have hk0 : (0 : Int) ≤ (k : Int) := Int.natCast_nonneg _
        have hk1 : (k : Int) < 8 := by omega
        have hix := index_words Tryz.underlying129 (show t.list.length = 8 from rfl) (show k < t.list.length from hlt)
        have hta : t.list[k]'hlt = t.list.getD k 0 := by rw [List.getD_eq_getElem?_getD, List.getElem?_eq_getElem (show k < t.list.length from hlt)]; rfl
        have hs := sums_set h t hlt
        have q1 : wr.cell? ⟨w.heap.size, k, none⟩ = some (wv (h.list.getD k 0)) := by
          rw [← sums_at h t hlt]
          have hlen := sums_len h t (k := k) (by omega)
          refine hL1.out.cell ?_
          rw [wvs_at _ (show k < (sumsW h t k).length by omega), List.getD_eq_getElem?_getD, List.getElem?_eq_getElem (show k < (sumsW h t k).length by omega)]
          rfl
        have q2 := hL1.out.frozen (j := k) hlt
        rw [hta] at hix
        generalize h.list.getD k 0 = x at q1 hs
        generalize t.list.getD k 0 = y at hix hs
        have HS := Lib.hid hs
        clear hta hs
        go_wp2
        go_roundw
        case rel =>
          refine ⟨k + 1, by omega, by go_num, Lib.hid ?_, Lib.hid ?_, Lib.hid ?_⟩
          · exact hB.out.setCell (Nat.le_refl _) _
          · rw [← w_sum, ← HS.out]
            have h1 := hL1.out.set1 k (wv (x + y))
            rw [show (wvs (sumsW h t k)).set k (wv (x + y)) = wvs ((sumsW h t k).set k (x + y)) by simp [wvs, List.map_set]] at h1
            exact h1
          · exact hL3.out.other (b' := w.heap.size) (by omega) k [_]
        case measure => simp [intOf]; omega
      · have hd : decide ((k : Int) < 8) = false := by simp; omega
        obtain rfl : k = 8 := by omega
        have HBB := hB
        have HL1 : Hid (Lies wr w.heap.size 8 (wvs (h.add t).list)) := hL1
        have HL3 := hL3
        have HAL := Lib.hid (show (h.add t).list.length = 8 from rfl)
        clear hB hL1 hL3
        go_wp2_with (first
          | (with_reducible refine ld_w8 rfl _ rfl w.heap.size 0 (h.add t).list HAL rfl HL1.out.rg ?_)
          | (with_reducible refine st_w8 rfl _ _ rfl (w.heap.size + 1 + 1) 0 (h.add t).list HAL rfl rfl HL3.out.th ?_))
        refine bodyPost_ret (res_w8 rfl _ _ (w.heap.size + 1 + 1) (h.add t).list rfl rfl (HL3.out.set_ (l' := wvs (h.add t).list) rfl).rg) rfl ⟨by unfold blockW; rw [HT.out]; rfl, below_setCells HBB.out (by omega) _ _⟩
end Go.Proofs.YtcofkhmgmemkmaaGreatDoor.S3
namespace Go.Proofs.YtcofkhmgmemkmaaGreatDoor.S3
set_option maxRecDepth 100000
set_option linter.unusedVariables false
set_option linter.unusedSimpArgs false
open Go.RowKit

/-- The bytes of words, the highest first. -/
def wbytes (l : List UInt32) : List UInt8 := l.flatMap fun x => be 4 x.toNat
theorem wbytes_len (l : List UInt32) : (wbytes l).length = 4 * l.length := by
  induction l with
  | nil => rfl
  | cons x r ih =>
    have h : wbytes (x :: r) = be 4 x.toNat ++ wbytes r := by simp [wbytes]
    rw [h, List.length_append, be_len, ih, List.length_cons]
    omega
theorem wbytes_take (l : List UInt32) {k : Nat} (hk : k < l.length) : wbytes (l.take (k + 1)) = wbytes (l.take k) ++ be 4 (l.getD k 0).toNat := by
  rw [List.take_succ_eq_append_getElem hk]
  have : l.getD k 0 = l[k] := by rw [List.getD_eq_getElem?_getD, List.getElem?_eq_getElem hk]; rfl
  rw [this]
  unfold wbytes
  rw [List.flatMap_append]
  simp
def idW (s : W8) : List UInt8 := wbytes s.list
theorem idW_len (s : W8) : (idW s).length = 32 := wbytes_len s.list
def Zi : List UInt8 := List.replicate 32 0
theorem Zi_len : Zi.length = 32 := List.length_replicate
theorem zero_id (w : World) : (zeroValue 27).run Tryz.prog w = .ok (.agg (bvs Zi).toArray) w := by kernel_rfl
theorem al_id {ops : Array Oper} {rest : List Oper} {op : Oper} {a : Act} {w : World} {Q : Exit → Act → World → Prop} (hgd : op.guard = none) (ho : op.op = .alloc 27)
    (h : wpList Tryz.prog ops Q rest (a.put op.dst (.pointer (some ⟨w.heap.size, 0, none⟩))) (w.alloc (.cells (bvs Zi).toArray 27))) : wpList Tryz.prog ops Q (op :: rest) a w :=
  wpList_alloc_as hgd _ ho _ zero_id h
theorem Zi_new (w : World) : Lies (w.alloc (.cells (bvs Zi).toArray 27)) w.heap.size 32 (bvs Zi) := by
  have := Lies.new w (bvs Zi) 27
  rwa [bvs_len, Zi_len] at this

set_option maxRecDepth 100000 in
set_option maxHeartbeats 1600000 in
theorem id_any (s : W8) (w : World) :
    Calls Tryz.prog 90 #[s.val] w fun e w' => e = .returned (.agg (bvs (idW s)).toArray) ∧ Below w.heap.size w w' := by
  have H8 := Lib.hid (show s.list.length = 8 from rfl)
  obtain ⟨w1, hw1⟩ : ∃ w1, w1 = w.alloc (.cells #[wv s.a, wv s.b, wv s.c, wv s.d, wv s.e, wv s.f, wv s.g, wv s.h] 132) := ⟨_, rfl⟩
  have hz1 : w1.heap.size = w.heap.size + 1 := by rw [hw1]; simp
  have hb1 : Below w.heap.size w w1 := by rw [hw1]; exact (Below.refl _ _).alloc (Nat.le_refl _) _
  have l1 : Lies w1 w.heap.size 8 (wvs s.list) := by rw [hw1]; exact Lies.new w (wvs s.list) 132
  obtain ⟨w2, hw2⟩ : ∃ w2, w2 = w1.alloc (.cells (bvs Zi).toArray 27) := ⟨_, rfl⟩
  have hz2 : w2.heap.size = w.heap.size + 1 + 1 := by rw [hw2]; simp [hz1]
  have hb2 : Below w.heap.size w w2 := by rw [hw2]; exact hb1.alloc hb1.size _
  have l12 : Lies w2 w.heap.size 8 (wvs s.list) := by rw [hw2]; exact l1.alloc _
  have l2 : Lies w2 (w.heap.size + 1) 32 (bvs Zi) := by
    have := Zi_new w1
    rw [← hw2, hz1] at this
    exact this
  have HW2 := Lib.hid (hw2.trans (by rw [hw1]))
  have L1 := Lib.hid l12
  have L2 := Lib.hid l2
  have B2 := Lib.hid hb2
  have Z2 := Lib.hid hz2
  clear hw1 hz1 hb1 l1 hw2 hz2 hb2 l12 l2
  go_enter Tryz.func90, Tryz.ntmps90
  go_wp2_with (first
    | (with_reducible refine al_id rfl rfl ?_)
    | fail)
  rw [← HW2.out]
  go_loopw [3, 8] (fun row i wr => ∃ (k m c : Nat) (A : Option Addr), k ≤ 8 ∧ i = .int .i64 (k : Int) ∧ row = .slice A m c ∧ Hid (m = 4 * k) ∧ Hid (SlB wr wr.heap.size A m c (wbytes (s.list.take k))) ∧ Hid (Below w.heap.size w wr) ∧ Hid (Lies wr (w.heap.size + 1) 32 (bvs Zi))) (fun _ i _ => 8 - (intOf i).toNat)
  case atStart => exact ⟨0, 0, 0, none, by omega, rfl, rfl, Lib.hid rfl, Lib.hid SlB.nil_, B2, L2⟩
  case round =>
    obtain ⟨k, m, c, A, hk, rfl, rfl, hm, hs, hB, hL⟩ := hrel
    by_cases hlt : k < 8
    · have hd : decide ((k : Int) < 8) = true := by simp; omega
      have hk0 : (0 : Int) ≤ (k : Int) := Int.natCast_nonneg _
      have hk1 : (k : Int) < 8 := by omega
      have hkl : k < s.list.length := hlt
      have hix : ∀ w, (Instr.index 129 s.val (.int .i64 (k : Int))).run Tryz.prog w = .ok (wv s.list[k]) w := index_words Tryz.underlying129 (show s.list.length = 8 from rfl) hkl
      have hta : s.list[k] = s.list.getD k 0 := by rw [List.getD_eq_getElem?_getD, List.getElem?_eq_getElem hkl]; rfl
      have htk := wbytes_take s.list hkl
      rw [hta] at hix
      generalize s.list.getD k 0 = x at hix htk
      have HTK := Lib.hid htk
      have HX := Lib.hid x.toNat_lt
      clear hta htk
      go_wp2_with fail
      refine (put_u32 hs.out (Nat.le_refl _) x.toNat _ rfl HX.out (by have := hm.out; omega)).mono ?_
      rintro e w5 ⟨g, hg, rfl, hb5, hw5⟩
      have S5 : Hid (SlB w5 w5.heap.size (some ⟨g, 0, none⟩) (m + 4) (m + 4) (wbytes (s.list.take (k + 1)))) := Lib.hid (by
        rw [HTK.out]
        have hlen := hs.out.len
        have hl2 : (wbytes (s.list.take k) ++ be 4 x.toNat).length = m + 4 := by rw [List.length_append, be_len, hlen]
        have := hb5.sl (B := w5.heap.size) hb5.lt (by rw [hl2]; have := hm.out; unfold maxLen; omega)
        rwa [hl2] at this)
      have B5 := Lib.hid (hB.out.trans (hw5.mono hB.out.size))
      have L5 := Lib.hid (hL.out.below hw5 hL.out.lt)
      clear hg hb5 hw5
      go_wp2
      go_roundw
      case rel => exact ⟨k + 1, m + 4, m + 4, _, by omega, by go_num, rfl, Lib.hid (by have := hm.out; omega), S5, B5, L5⟩
      case measure => simp [intOf]; omega
    · have hd : decide ((k : Int) < 8) = false := by simp; omega
      obtain rfl : k = 8 := by omega
      obtain rfl : m = 32 := hm.out
      obtain ⟨b, o, rfl, hlt2, hcs⟩ := hs.out.pos (by omega)
      have HID := Lib.hid (idW_len s)
      have R := Lib.hid (show wr.rangeAt b o (bvs (idW s)) from fun j v hv => by
        obtain ⟨hj, rfl⟩ := bvs_at _ _ _ hv
        exact hcs j hj)
      have hc32 : 32 ≤ c := hs.out.cap
      have HBB := hB
      have HL := hL
      have har := fun w => run_arrayAt (P := Tryz.prog) w 27 5 32 (some ⟨b, o, none⟩) 32 c Tryz.underlying27 (Nat.le_refl _)
      clear hcs hB hL hm hs
      go_wp2_with (first
        | (with_reducible refine ld_id rfl _ rfl b o (idW s) HID rfl R.out ?_)
        | (with_reducible refine st_id rfl _ _ rfl (w.heap.size + 1) 0 (idW s) HID rfl rfl HL.out.th ?_))
      refine bodyPost_ret (res_id rfl _ _ (w.heap.size + 1) (idW s) HID.out rfl (HL.out.set_ (l' := bvs (idW s)) (by rw [bvs_len]; exact HID.out)).rg) rfl ⟨rfl, below_setCells HBB.out (by omega) _ _⟩
end Go.Proofs.YtcofkhmgmemkmaaGreatDoor.S3
namespace Go.Proofs.YtcofkhmgmemkmaaGreatDoor.S3
set_option maxRecDepth 100000
set_option linter.unusedVariables false
set_option linter.unusedSimpArgs false
open Go.RowKit

/-- How many bytes there are ahead of the length. -/
def fillN (n : Nat) : Nat := if (n + 9) % 64 = 0 then n + 1 else n + 1 + (64 - (n + 9) % 64)
theorem fillN_bd (n : Nat) : n + 1 ≤ fillN n ∧ fillN n ≤ n + 64 ∧ (fillN n + 8) % 64 = 0 := by
  unfold fillN
  split <;> omega
/-- The bytes, a one, noughts, and how many bits there are. -/
def padW (l : List UInt8) : List UInt8 := l ++ 128 :: List.replicate (fillN l.length - l.length - 1) 0 ++ be 8 (8 * l.length)
theorem padW_len (l : List UInt8) : (padW l).length = fillN l.length + 8 := by
  have := fillN_bd l.length
  simp only [padW, List.length_append, List.length_cons, List.length_replicate, be_len]
  omega

set_option maxRecDepth 100000 in
set_option maxHeartbeats 1000000 in
theorem pad_any {A : Option Addr} {n c : Nat} {l : List UInt8} {w : World} {B : Nat} (hs : SlB w B A n c l) (hB : B ≤ w.heap.size) (hn : n ≤ 1000000000) :
    Calls Tryz.prog 88 #[.slice A n c] w fun e w' => ∃ g m, e = .returned (.slice (some ⟨g, 0, none⟩) m m) ∧ m = fillN n + 8 ∧ w.heap.size ≤ g ∧ Bl w' g 5 (bvs (padW l)) ∧ Below w.heap.size w w' := by
  obtain ⟨m, hm⟩ : ∃ m, fillN n = m := ⟨_, rfl⟩
  have hbd := fillN_bd n
  rw [hm] at hbd
  have hmk := make_bytes m (m : Int) rfl (by omega)
  have hl := hs.le
  have hz8 := size_u8
  have hcp : (bvs l).length = Nat.min n m := by rw [bvs_len, hs.len]; exact (Nat.min_eq_left (by omega)).symm
  have hpos : 0 < (bvs l).length → some (⟨w.heap.size, 0, none⟩ : Addr) = some ⟨w.heap.size, 0, none⟩ ∧ ∃ ad, A = some ad ∧ ∀ j v, (bvs l)[j]? = some v → (w.alloc (.cells (bvs (List.replicate m 0)).toArray 5)).cell? (ad.add j) = some v := by
    intro h0
    rw [bvs_len, hs.len] at h0
    obtain ⟨ad, e, hc⟩ := (hs.below ((Below.refl B w).alloc hB (.cells (bvs (List.replicate m 0)).toArray 5))).src h0
    exact ⟨rfl, ad, e, hc⟩
  have hfit : 0 + (bvs l).length ≤ (bvs (List.replicate m 0)).length := by have := hs.len; simp only [bvs_len, List.length_replicate]; omega
  have hlen := Lib.hid hs.len
  have HM := Lib.hid hmk
  have HN := Lib.hid hn
  have HBD := Lib.hid hbd
  have HFM := Lib.hid hm
  have hn0 : (0 : Int) ≤ (n : Int) := Int.natCast_nonneg _
  have hn1 : (n : Int) ≤ 1000000000 := by omega
  clear hmk hn hl hm
  go_enter Tryz.func88, Tryz.ntmps88
  go_upto_if 13 with fail
  go_cut [3] (fun f wx => f = .int .i64 (m : Int) ∧ wx = w)
  case first =>
    by_cases hc0 : (n + 9) % 64 = 0
    · have hmm : m = n + 1 := by have := HFM.out; unfold fillN at this; rw [if_pos hc0] at this; exact this.symm
      have hd : decide ((0 : Int) < ((n : Int) + 1 + 8) % 64) = false := by simp; omega
      go_wp2_with fail
      go_meet
      case rel => exact ⟨by rw [hmm]; go_num, rfl⟩
    · have hmm : m = n + 1 + (64 - (n + 9) % 64) := by have := HFM.out; unfold fillN at this; rw [if_neg hc0] at this; exact this.symm
      have hd : decide ((0 : Int) < ((n : Int) + 1 + 8) % 64) = true := by simp; omega
      have hr0 : (0 : Int) ≤ ((n : Int) + 1 + 8) % 64 := by omega
      have hr1 : ((n : Int) + 1 + 8) % 64 < 64 := by omega
      go_wp2_with fail
      go_meet
      case rel => exact ⟨congrArg (Value.int IntKind.i64) (by omega), rfl⟩
  case rest =>
    obtain ⟨rfl, hwc⟩ := hcut
    rw [hwc]
    clear hwc
    have hm0 : (0 : Int) ≤ (m : Int) := Int.natCast_nonneg _
    have hm1 : (m : Int) ≤ 1000000064 := by have := HBD.out; omega
    have hnm : (n : Int) < (m : Int) := by have := HBD.out; omega
    have hmk := HM.out
    have HPW := Lib.hid (show padW l = l ++ 128 :: List.replicate (m - n - 1) 0 ++ be 8 (8 * n) by unfold padW; rw [hlen.out, HFM.out])
    have HREP := Lib.hid (show List.replicate (m - n) (0 : UInt8) = 0 :: List.replicate (m - n - 1) 0 by rw [← List.replicate_succ]; congr 1; have := HBD.out; omega)
    go_wp2_with (
      (with_reducible refine wpList_copy_splice rfl (.tmp 20) (.tmp 21) 24 24 rfl 5 Tryz.underlying24 hz8 _ _ _ _ _ _ rfl rfl w.heap.size 0 (bvs (List.replicate m 0)) 5 (heap_alloc_new w _) (bvs l) hcp hpos hfit (bvs_one l) w.heap.size w ((Below.refl _ w).alloc (Nat.le_refl _) _) (Nat.le_refl _) ?_)
      intro w1 hw1 hb1
      have HBL : Hid (Bl w1 w.heap.size 5 (bvs (l ++ List.replicate (m - n) 0))) := Lib.hid (by
        have h2 := hw1.out
        unfold Bl
        rw [h2]
        congr 3
        rw [splice_front _ _ hfit, bvs_len, bvs_app]
        congr 1
        simp only [bvs, ← List.map_drop, List.drop_replicate]
        rw [hlen.out])
      have q1 : w1.cell? ⟨w.heap.size, n, none⟩ = some (bv 0) := (by
        rw [HBL.out.cell n, HREP.out]
        have := hlen.out
        simp only [bvs, List.map_append]
        rw [List.getElem?_append_right (by simp; omega)]
        simp [this])
      have q2 := HBL.out.frozen n
      )
    have hbl2 := HBL.out.set_ n (bv 128)
    have HB2 : Hid (Bl (w1.setCell ⟨w.heap.size, n, none⟩ (bv 128)) w.heap.size 5 (bvs (l ++ 128 :: List.replicate (m - n - 1) 0))) := Lib.hid (by
      have e : (bvs (l ++ List.replicate (m - n) 0)).set n (bv 128) = bvs (l ++ 128 :: List.replicate (m - n - 1) 0) := by
        rw [HREP.out]
        have hl2 := hlen.out
        simp only [bvs, List.map_append]
        rw [List.set_append_right _ _ (by simp; omega)]
        simp [hl2]
      rw [e] at hbl2
      exact hbl2)
    have hb2 : Below w.heap.size w (w1.setCell ⟨w.heap.size, n, none⟩ (bv 128)) := hb1.setCell (Nat.le_refl _) _
    have HBE := Lib.hid hb2
    have S2 : Hid (SlB (w1.setCell ⟨w.heap.size, n, none⟩ (bv 128)) (w1.setCell ⟨w.heap.size, n, none⟩ (bv 128)).heap.size (some ⟨w.heap.size, 0, none⟩) m m (l ++ 128 :: List.replicate (m - n - 1) 0)) := Lib.hid (by
      have hl2 : (l ++ 128 :: List.replicate (m - n - 1) (0 : UInt8)).length = m := by have := HBD.out; have := hlen.out; simp; omega
      have := HB2.out.sl (B := (w1.setCell ⟨w.heap.size, n, none⟩ (bv 128)).heap.size) HB2.out.lt (by rw [hl2]; have := HBD.out; have := HN.out; unfold maxLen; omega)
      rwa [hl2] at this)
    clear hbl2 hb2
    refine (put_u64 S2.out (Nat.le_refl _) (8 * n) _ (by omega) (by have := HN.out; omega) (by have := HBD.out; have := HN.out; omega)).mono ?_
    rintro e w5 ⟨g, hg, rfl, hb5, hw5⟩
    have HB5 := Lib.hid hb5
    have HW5 := Lib.hid hw5
    have HG := Lib.hid hg
    clear hb5 hw5 hg
    go_wp2
    go_ret
    exact ⟨g, m + 8, rfl, by rw [HFM.out], Nat.le_trans HBE.out.size HG.out, by rw [HPW.out]; exact HB5.out, HBE.out.trans (HW5.out.mono HBE.out.size)⟩
end Go.Proofs.YtcofkhmgmemkmaaGreatDoor.S3
