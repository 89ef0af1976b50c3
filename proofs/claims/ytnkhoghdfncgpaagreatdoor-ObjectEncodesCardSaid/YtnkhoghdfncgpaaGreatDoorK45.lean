/-
  THE DOCUMENT'S DIGEST OF BYTES.
-/
import Derived.Test.YtnkhoghdfncgpaaGreatDoorK44
namespace Go.Proofs.YtnkhoghdfncgpaaGreatDoor.S3
set_option maxRecDepth 100000
set_option linter.unusedVariables false
set_option linter.unusedSimpArgs false
open Go.RowKit Go.WideShapes Go.ChangeShapes

theorem known_any (w : World) : Calls Tryz.prog 60 #[] w fun e w' => ∃ g, e = .returned (.slice (some ⟨g, 0, none⟩) 64 64) ∧ w.heap.size ≤ g ∧ Lies w' g 64 (wvs ksW) ∧ Below w.heap.size w w' := by
  have L := Lib.hid (show Lies (w.alloc (.cells (wvs ksW).toArray 31)) w.heap.size 64 (wvs ksW) from Lies.new w (wvs ksW) 31)
  have B := Lib.hid (show Below w.heap.size w (w.alloc (.cells (wvs ksW).toArray 31)) from (Below.refl _ _).alloc (Nat.le_refl _) _)
  go_enter Tryz.func60, Tryz.ntmps60
  go_wp2
  go_ret
  exact ⟨w.heap.size, rfl, Nat.le_refl _, L.out, B.out⟩
theorem wbytes_at : ∀ (l : List UInt32) {i r : Nat}, i < l.length → r < 4 → (wbytes l)[4 * i + r]? = (be 4 (l.getD i 0).toNat)[r]?
  | [], i, r, h, _ => by simp at h
  | x :: t, i, r, h, hr => by
    have e : wbytes (x :: t) = be 4 x.toNat ++ wbytes t := by unfold wbytes; rw [List.flatMap_cons]
    have hl := be_len 4 x.toNat
    rw [e]
    cases i with
    | zero => rw [List.getElem?_append_left (by omega)]; simp
    | succ j =>
      rw [List.getElem?_append_right (by omega), hl, show 4 * (j + 1) + r - 4 = 4 * j + r by omega, wbytes_at t (by simpa using h) hr]
      simp
def idP (F : W8) (j : Nat) : List UInt8 := (wbytes F.list).take j ++ List.replicate (32 - j) 0
theorem idP_set (F : W8) {j : Nat} {y : UInt8} (hj : j < 32) (hy : (wbytes F.list)[4 * (j / 4) + j % 4]? = some y) : (idP F j).set j y = idP F (j + 1) := by
  rw [show 4 * (j / 4) + j % 4 = j by omega] at hy
  have hl : (wbytes F.list).length = 32 := wbytes_len F.list
  have ht : ((wbytes F.list).take j).length = j := by rw [List.length_take, hl]; omega
  obtain ⟨h1, h2⟩ := List.getElem?_eq_some_iff.1 hy
  unfold idP
  rw [List.set_append_right _ _ (by omega), ht, Nat.sub_self, show 32 - j = (32 - (j + 1)) + 1 by omega, List.replicate_succ, List.set_cons_zero, List.take_succ_eq_append_getElem h1, h2, List.append_assoc]
  rfl
structure Su (w wr : World) (g4 gk : Nat) (L : List UInt8) (F : W8) : Prop where
  h : Lies wr (w.heap.size + 1) 8 (wvs F.list)
  r : Lies wr w.heap.size 32 (bvs Zi)
  a : wr.rangeAt g4 0 (bvs L)
  ag : g4 < wr.heap.size
  k : Lies wr gk 64 (wvs ksW)
  bel : Below w.heap.size w wr
section
variable {w wr w' : World} {g4 gk : Nat} {L : List UInt8} {F F' : W8}
theorem Su.below (H : Su w wr g4 gk L F) (hb : Below wr.heap.size wr w') : Su w w' g4 gk L F :=
  ⟨H.h.below hb H.h.lt, H.r.below hb H.r.lt, rangeAt_keep H.a (hb.block g4 H.ag), Nat.lt_of_lt_of_le H.ag hb.size, H.k.below hb H.k.lt, H.bel.trans (hb.mono H.bel.size)⟩
theorem Su.set_ (H : Su w wr g4 gk L F) (h1 : w.heap.size + 1 < g4) (h2 : w.heap.size + 1 < gk) : Su w (wr.setCells (w.heap.size + 1) 0 (wvs F'.list)) g4 gk L F' :=
  ⟨H.h.set_ rfl, H.r.other (by omega) 0 _, rangeAt_keep H.a ((setCells_os (w.heap.size + 1) (wvs F'.list) 0 wr).2.2.2.2 g4 (by omega)), by rw [size_setCells]; exact H.ag, H.k.other (by omega) 0 _, below_setCells H.bel (by omega) _ _⟩
end

set_option maxRecDepth 100000 in
set_option maxHeartbeats 2400000 in
theorem sum_ref {A : Option Addr} {n c : Nat} {l : List UInt8} {w : World} {B : Nat} (hs : SlB w B A n c l) (hB : B ≤ w.heap.size) (hn : n ≤ 800) :
    Calls Tryz.prog 36 #[.slice A n c] w fun e w' => e = .returned (.agg (bvs (sumW l)).toArray) ∧ Below w.heap.size w w' := by
  have S0 := Lib.hid hs
  have HB := Lib.hid hB
  have HLN := Lib.hid hs.len
  have L1 := Lib.hid (Zi_new w)
  have Z1 := Lib.hid (show (w.alloc (.cells (bvs Zi).toArray 26)).heap.size = w.heap.size + 1 by simp)
  have B1 := Lib.hid (show Below w.heap.size w (w.alloc (.cells (bvs Zi).toArray 26)) from (Below.refl _ _).alloc (Nat.le_refl _) _)
  clear hs hB
  obtain ⟨w1, hw1⟩ : ∃ w1, w1 = w.alloc (.cells (bvs Zi).toArray 26) := ⟨_, rfl⟩
  rw [← hw1] at L1 Z1 B1
  have HW1 := Lib.hid hw1
  clear hw1
  have HS8 := Lib.hid (show startW.list.length = 8 from rfl)
  have L2 := Lib.hid (Z8_new w1)
  have D2 := Lib.hid (below_setCells ((Below.refl w1.heap.size w1).alloc (Nat.le_refl _) (.cells Z8 105)) (Nat.le_refl _) 0 (wvs startW.list))
  have K2 := Lib.hid (L2.out.set_ (l' := wvs startW.list) rfl)
  have M2 := Lib.hid (L1.out.below D2.out L1.out.lt)
  have B2 := Lib.hid (B1.out.trans (D2.out.mono B1.out.size))
  go_enter Tryz.func36, Tryz.ntmps36
  go_wp2_with (first
    | ((with_reducible refine al_id rfl rfl ?_); (try simp only [Act.put, List.setIfInBounds_toArray, List.set_cons_succ, List.set_cons_zero, World.size_alloc]))
    | (rw [← HW1.out]; (try rw [← Z1.out]); with_reducible refine st_w8 rfl _ _ rfl w1.heap.size 0 startW.list HS8 rfl rfl L2.out.th ?_)
    | (with_reducible refine st_w8 rfl _ _ rfl (w.heap.size + 1) 0 startW.list HS8 rfl rfl (by have := L2.out.th; rw [Z1.out, HW1.out] at this; exact this) ?_))
  generalize (w1.alloc (.cells Z8 105)).setCells w1.heap.size 0 (wvs startW.list) = v2 at D2 K2 M2 B2 ⊢
  rw [Z1.out] at K2 ⊢
  clear D2 L2 L1
  have S2 := Lib.hid (S0.out.below (B2.out.mono HB.out))
  refine (pad_ref S2.out (Nat.le_trans HB.out B2.out.size) hn).mono ?_
  rintro e w3 ⟨A3, c3, rfl, ho3, hb3⟩
  have hbd := fillN_bd n
  obtain ⟨M, hM⟩ : ∃ M, fillN n + 8 = M := ⟨_, rfl⟩
  rw [hM] at ho3 ⊢
  have how : w3.ownsRow v2.heap.size 5 1 (.slice A3 M c3) M (bvs (padW l)) := ho3
  obtain ⟨g4, cap4, hv, hg4⟩ := how.form (by omega)
  cases hv
  have HPL := Lib.hid (show (padW l).length = M by rw [padW_len, HLN.out]; exact hM)
  have hcap : M ≤ c3 ∧ c3 ≤ maxLen := by
    rcases how.2 with ⟨h1, h2⟩ | ⟨q, cap, cur, h1, _, _, h2, h3, _⟩
    · cases h1
    · cases h1; exact ⟨h2, h3⟩
  have R3 : Hid (w3.rangeAt g4 0 (bvs (padW l))) := Lib.hid (fun j v hv => by
    have hj := (List.getElem?_eq_some_iff.1 hv).1
    rw [bvs_len] at hj
    have h1 := how.cellAt j (by have := HPL.out; omega)
    rw [Nat.zero_add, h1]
    exact hv)
  have G3 := Lib.hid (how.lt g4 rfl)
  have K3 := Lib.hid (K2.out.below hb3 K2.out.lt)
  have M3 := Lib.hid (M2.out.below hb3 M2.out.lt)
  have B3 := Lib.hid (B2.out.trans (hb3.mono B2.out.size))
  have HK2 := Lib.hid K2.out.lt
  clear ho3 how hb3 K2 M2 S2 B2
  go_wp2_with fail
  refine (known_any _).mono ?_
  rintro e w4 ⟨gk, rfl, hgk, hlk, hb4⟩
  have HB8 := Lib.hid (show w.heap.size + 1 < g4 ∧ w.heap.size + 1 < gk by have := G3.out; have := HK2.out; omega)
  have I4 : Hid (Su w w4 g4 gk (padW l) startW) := Lib.hid ⟨K3.out.below hb4 K3.out.lt, M3.out.below hb4 M3.out.lt, rangeAt_keep R3.out (hb4.block g4 G3.out.2), Nat.lt_of_lt_of_le G3.out.2 hb4.size, hlk, B3.out.trans (hb4.mono B3.out.size)⟩
  clear hgk hlk hb4 K3 M3 R3 B3 G3 HK2
  obtain ⟨q, hq⟩ : ∃ q, M = 64 * q := ⟨M / 64, by omega⟩
  have HQ := Lib.hid hq
  have hM2 : M ≤ 1000 := by omega
  have hMI : (M : Int) ≤ 1000 := by omega
  have HBD := Lib.hid hbd
  have HMM := Lib.hid hM
  unfold maxLen at hcap
  have HCAP := Lib.hid hcap
  have hci : (M : Int) ≤ (c3 : Int) := by omega
  clear hq hbd hM
  go_wp2_with fail
  go_loopw [6] (fun i wr => ∃ k : Nat, k ≤ q ∧ i = .int .i64 ((64 * k : Nat) : Int) ∧ Hid (Su w wr g4 gk (padW l) (foldW startW (padW l) k))) (fun i _ => M - (intOf i).toNat)
  case atStart => exact ⟨0, Nat.zero_le _, rfl, I4⟩
  case round =>
    obtain ⟨k, hk, rfl, HI⟩ := hrel
    obtain ⟨i, hi⟩ : ∃ i, 64 * k = i := ⟨_, rfl⟩
    have HIK := Lib.hid hi
    rw [hi]
    clear hi
    by_cases hlt : k < q
    · have hi1 : i + 64 ≤ M := by have := HIK.out; have := HQ.out; omega
      have hi0 : (0 : Int) ≤ (i : Int) := Int.natCast_nonneg _
      have hi2 : (i : Int) + 64 ≤ (M : Int) := by omega
      have hd : decide ((i : Int) < (M : Int)) = true := by simp; omega
      obtain ⟨F, hF⟩ : ∃ F, foldW startW (padW l) k = F := ⟨_, rfl⟩
      obtain ⟨blk, hblk⟩ : ∃ blk, ((padW l).drop i).take 64 = blk := ⟨_, rfl⟩
      have HFK : Hid (foldW startW (padW l) (k + 1) = blockW F blk) := Lib.hid (by rw [← hF, ← hblk, ← HIK.out]; rfl)
      have hbl : blk.length = 64 := by rw [← hblk, List.length_take, List.length_drop, HPL.out]; omega
      rw [hF] at HI
      have BD := Lib.hid (show Below wr.heap.size wr wr.drew from (Below.refl _ _).drew)
      have ID := Lib.hid (HI.out.below BD.out)
      have HSL : Hid (SlB wr.drew wr.drew.heap.size (some ⟨g4, i, none⟩) 64 (c3 - i) blk) := Lib.hid ⟨hbl, by have := HCAP.out; omega, by have := HCAP.out; unfold maxLen; omega, fun e => (by cases e), fun _ => ⟨g4, i, rfl, ID.out.ag, fun j hj => by
        have h1 := ID.out.a (i + j) (bv ((padW l)[i + j]'(by rw [HPL.out]; omega))) (by simp [bvs, List.getElem?_eq_getElem (show i + j < (padW l).length by rw [HPL.out]; omega)])
        rw [Nat.zero_add] at h1
        rw [h1]
        simp [← hblk]⟩⟩
      have H8 := Lib.hid (show (wvs F.list).length = 8 from rfl)
      have hs1 : (0 : Int) ≤ (i : Int) + 64 := by omega
      have hs2 : (i : Int) + 64 ≤ (c3 : Int) := by have := HCAP.out; omega
      have hs3 : i ≤ ((i : Int) + 64).toNat := by omega
      have hs4 : ¬ c3 = i := by have := HCAP.out; omega
      have hs5 : ((i : Int) + 64).toNat - i = 64 := by omega
      have hwi : IntKind.i64.wrap ((i : Int) + 64) = (i : Int) + 64 := by rw [IntKind.wrap_i64]; omega
      clear hF hblk hbl
      go_wp2_with fail
      refine wp_region_bk 7 8 8 (fun w' => w'.rangeAt (w.heap.size + 1) 0 (wvs F.list)) (by kernel_rfl) (by kernel_rfl) ID.out.h.rg ?_
      simp only [List.take_succ_cons, List.take_zero, List.drop_succ_cons, List.drop_zero]
      refine ⟨_, yieldsIf_load_mid rfl 105 _ rfl (w.heap.size + 1) 0 rfl (wvs F.list) _ (fun w' hw' => hw') Tryz.underlying105 rfl (by rw [H8.out]; exact size_w8), ?_⟩
      (try simp only [Act.put, List.setIfInBounds_toArray, List.set_cons_succ, List.set_cons_zero])
      refine ⟨_, .inl ⟨rfl, fun w' hw' => (by clear hw'; first | (go_simp; done) | (go_simp; rfl))⟩, ?_⟩
      (try simp only [Act.put, List.setIfInBounds_toArray, List.set_cons_succ, List.set_cons_zero])
      refine ⟨_, .inl ⟨rfl, fun w' hw' => (by clear hw'; first | (go_simp; done) | (go_simp; rfl))⟩, ?_⟩
      (try simp only [Act.put, List.setIfInBounds_toArray, List.set_cons_succ, List.set_cons_zero])
      refine ⟨_, .inl ⟨rfl, fun w' hw' => (by clear hw'; first | (go_simp; done) | (go_simp; rfl))⟩, ?_⟩
      (try simp only [Act.put, List.setIfInBounds_toArray, List.set_cons_succ, List.set_cons_zero])
      refine ⟨.int .i64 ((i : Int) + 64), .inl ⟨rfl, fun w' hw' => (by clear hw'; first | (go_simp; done) | (go_simp; rw [hwi]; done) | (go_simp; simp only [hwi]; done))⟩, ?_⟩
      (try simp only [Act.put, List.setIfInBounds_toArray, List.set_cons_succ, List.set_cons_zero])
      refine ⟨.slice (some ⟨g4, i, none⟩) 64 (c3 - i), .inl ⟨rfl, fun w' hw' => (by clear hw'; first | (go_simp; done) | (go_simp; rw [if_pos ⟨hs1, hs2⟩, if_pos hs3, if_neg hs4, hs5]; done) | (go_simp; simp [hs1, hs2, hs3, hs4, hs5]; done))⟩, ?_⟩
      (try simp only [Act.put, List.setIfInBounds_toArray, List.set_cons_succ, List.set_cons_zero])
      refine ⟨_, .inl ⟨rfl, fun w' hw' => (by clear hw'; first | (go_simp; done) | (go_simp; rfl))⟩, ?_⟩
      (try simp only [Act.put, List.setIfInBounds_toArray, List.set_cons_succ, List.set_cons_zero])
      rw [wpHead_nil]
      rw [wpMid_cons]
      refine ⟨rfl, ?_⟩
      refine wp_fn (f := 61) (xs := #[F.val, .slice (some ⟨g4, i, none⟩) 64 (c3 - i), .slice (some ⟨gk, 0, none⟩) 64 64]) (by first | (go_simp; done) | (go_simp; rfl)) ((into_ref F g4 i (c3 - i) gk 0 64 blk _ HSL.out ID.out.ag ID.out.k.rg ID.out.k.lt (by omega) (by omega)).mono ?_)
      rintro e wn ⟨rfl, hbn⟩
      have IN := Lib.hid (ID.out.below hbn)
      clear hbn
      refine ⟨_, rfl, IN.out.h.rg, ?_⟩
      rw [wpMid_nil]
      (try simp only [Act.put, List.setIfInBounds_toArray, List.set_cons_succ, List.set_cons_zero])
      rw [wpHead_nil]
      (try simp only [Act.put, List.setIfInBounds_toArray, List.set_cons_succ, List.set_cons_zero])
      have HN8 := Lib.hid (show (blockW F blk).list.length = 8 from rfl)
      have IX := Lib.hid (IN.out.set_ (F' := blockW F blk) HB8.out.1 HB8.out.2)
      go_wp2_with (first
        | (with_reducible refine st_w8 rfl _ _ rfl (w.heap.size + 1) 0 (blockW F blk).list HN8 rfl rfl IN.out.h.th ?_))
      refine NoPanic.normal ?_
      go_wp2_with fail
      go_roundw
      case rel => exact ⟨k + 1, by omega, by have := HIK.out; go_num, Lib.hid (by rw [HFK.out]; exact IX.out)⟩
      case measure => simp [intOf]; omega
    · obtain rfl : k = q := by omega
      have hiM : i = M := by have := HIK.out; have := HQ.out; omega
      have hd : decide ((i : Int) < (M : Int)) = false := by simp; omega
      have hdn : decide (i < M) = false := by simp; omega
      have hdi : ¬ (i < M) := by omega
      obtain ⟨F, hF⟩ : ∃ F, foldW startW (padW l) k = F := ⟨_, rfl⟩
      have HSW : Hid (sumW l = wbytes F.list) := Lib.hid (by
        rw [← hF]
        unfold sumW
        rw [HPL.out, HQ.out, Nat.mul_div_cancel_left _ (by omega)]
        rfl)
      rw [hF] at HI
      obtain ⟨wo, hwo⟩ : ∃ wo : World, wo = wr := ⟨wr, rfl⟩
      rw [← hwo] at HI ⊢
      clear hwo hF hiM
      have N7 := Lib.hid (Zi_new wo)
      have D7 := Lib.hid (show Below wo.heap.size wo (wo.alloc (.cells (bvs Zi).toArray 26)) from (Below.refl _ _).alloc (Nat.le_refl _) _)
      have H7 := Lib.hid (HI.out.h.below D7.out HI.out.h.lt)
      have R7 := Lib.hid (HI.out.r.below D7.out HI.out.r.lt)
      have B7 := Lib.hid (HI.out.bel.trans (D7.out.mono HI.out.bel.size))
      have Z7 := Lib.hid (show w.heap.size + 1 < wo.heap.size from HI.out.h.lt)
      have HZP : Hid (idP F 0 = Zi) := Lib.hid (by simp [idP, Zi])
      go_wp2_with (first | ((with_reducible refine al_id rfl rfl ?_); (try simp only [Act.put, List.setIfInBounds_toArray, List.set_cons_succ, List.set_cons_zero, World.size_alloc])))
      generalize wo.alloc (.cells (bvs Zi).toArray 26) = w7 at N7 D7 H7 R7 B7 ⊢
      clear D7 HI
      generalize wo.heap.size = b7 at N7 Z7 ⊢
      (try go_wp2_with fail)
      go_loopw [8] (fun i wr => ∃ j : Nat, j ≤ 32 ∧ i = .int .i64 (j : Int) ∧ Hid (Lies wr (w.heap.size + 1) 8 (wvs F.list)) ∧ Hid (Lies wr w.heap.size 32 (bvs Zi)) ∧ Hid (Lies wr b7 32 (bvs (idP F j))) ∧ Hid (Below w.heap.size w wr)) (fun i _ => 32 - (intOf i).toNat)
      case atStart => exact ⟨0, by omega, rfl, H7, R7, Lib.hid (by rw [HZP.out]; exact N7.out), B7⟩
      case round =>
        obtain ⟨j, hj, rfl, hh, hr, hl, hb⟩ := hrel
        by_cases hlt8 : j < 32
        · have hd8 : decide ((j : Int) < 32) = true := by simp; omega
          have hj0 : (0 : Int) ≤ (j : Int) := Int.natCast_nonneg _
          have hj1 : (j : Int) < 32 := by omega
          have hjm : (j : Int).tmod 4 = ((j % 4 : Nat) : Int) := by rw [Int.tmod_eq_emod_of_nonneg hj0]; omega
          obtain ⟨x, hx⟩ : ∃ x, F.list.getD (j / 4) 0 = x := ⟨_, rfl⟩
          have hcx : wr.cell? ⟨w.heap.size + 1, j / 4, none⟩ = some (wv x) := by
            refine hh.out.cell ?_
            have h8 : j / 4 < F.list.length := by show j / 4 < 8; omega
            rw [wvs_at _ h8, ← hx, List.getD_eq_getElem?_getD, List.getElem?_eq_getElem h8]
            rfl
          have hxl := x.toNat_lt
          have hx0 : (0 : Int) ≤ (x.toNat : Int) := Int.natCast_nonneg _
          have hx1 : (x.toNat : Int) < 4294967296 := by omega
          have HHI := Lib.hid (fun w => high_any 4 x.toNat (x.toNat : Int) 4 w rfl (by omega) rfl (by omega))
          obtain ⟨y, hy⟩ : ∃ y, (be 4 x.toNat)[j % 4]? = some y := ⟨_, List.getElem?_eq_getElem (by rw [be_len]; omega)⟩
          have HPS : Hid ((idP F j).set j y = idP F (j + 1)) := Lib.hid (idP_set F hlt8 (by rw [wbytes_at F.list (show j / 4 < F.list.length by show j / 4 < 8; omega) (Nat.mod_lt j (by omega)), hx]; exact hy))
          have HY := Lib.hid hy
          have HH := hh
          have HR := hr
          have HL := hl
          have HBL := hb
          clear hx hy hh hr hl hb
          go_wp2_with fail
          refine (HHI.out _).mono ?_
          rintro e w9 ⟨A9, c9, rfl, ho9, hb9⟩
          have how9 : w9.ownsRow wr.heap.size 5 1 (.slice A9 4 c9) 4 (bvs (be 4 x.toNat)) := ho9
          obtain ⟨g9, cap9, hv9, hg9⟩ := how9.form (by omega)
          cases hv9
          have hc9 : w9.cell? ⟨g9, j % 4, none⟩ = some (.int .u8 (y.toNat : Int)) := by
            rw [how9.cellAt (j % 4) (by omega)]
            simp only [bvs, List.getElem?_map, HY.out]
            rfl
          have H9 := Lib.hid (HH.out.below hb9 HH.out.lt)
          have R9 := Lib.hid (HR.out.below hb9 HR.out.lt)
          have L9 := Lib.hid (HL.out.below hb9 HL.out.lt)
          have B9 := Lib.hid (HBL.out.trans (hb9.mono HBL.out.size))
          have hfz : w9.frozen? ⟨b7, j, none⟩ = false := L9.out.frozen (by omega)
          obtain ⟨z, hz⟩ : ∃ z, w9.cell? ⟨b7, j, none⟩ = some (bv z) := by
            have hil : (idP F j).length = 32 := by have := L9.out.len; rw [bvs_len] at this; exact this
            exact ⟨(idP F j)[j]'(by omega), L9.out.cell (by simp [bvs, List.getElem?_eq_getElem (show j < (idP F j).length by omega)])⟩
          unfold bv at hz
          have hm0 : (0 : Int) ≤ ((j % 4 : Nat) : Int) := Int.natCast_nonneg _
          have hm1 : ((j % 4 : Nat) : Int) < 4 := by omega
          have LN : Hid (Lies (w9.setCell ⟨b7, j, none⟩ (bv y)) b7 32 (bvs (idP F (j + 1)))) := Lib.hid (by
            rw [← HPS.out]
            have := L9.out.set1 j (bv y)
            simpa [bvs, List.map_set] using this)
          have HNN : Hid (Lies (w9.setCell ⟨b7, j, none⟩ (bv y)) (w.heap.size + 1) 8 (wvs F.list)) := Lib.hid (H9.out.keep2 (Below.heap_setCell _ _ _ _ (by show w.heap.size + 1 ≠ b7; have := Z7.out; omega)) (by simp))
          have RNN : Hid (Lies (w9.setCell ⟨b7, j, none⟩ (bv y)) w.heap.size 32 (bvs Zi)) := Lib.hid (R9.out.keep2 (Below.heap_setCell _ _ _ _ (by show w.heap.size ≠ b7; have := Z7.out; omega)) (by simp))
          have BNN : Hid (Below w.heap.size w (w9.setCell ⟨b7, j, none⟩ (bv y))) := Lib.hid (B9.out.setCell (by show w.heap.size ≤ b7; have := Z7.out; omega) _)
          clear ho9 hb9 how9
          go_wp2_with fail
          go_roundw
          case rel => exact ⟨j + 1, by omega, by go_num, HNN, RNN, LN, BNN⟩
          case measure => simp [intOf]; omega
        · obtain rfl : j = 32 := by omega
          have hil : (wbytes F.list).length = 32 := wbytes_len F.list
          have e32 : idP F 32 = sumW l := by
            rw [HSW.out]
            unfold idP
            rw [List.take_of_length_le (by omega)]
            simp
          rw [e32] at hl
          have HSL := Lib.hid (sumW_len l)
          have HRR := hr
          have HLL := hl
          have HBB := hb
          clear e32 hil hr hl hb hh
          go_wp2_with (first
            | (with_reducible refine ld_id rfl (.tmp 7) rfl b7 0 (sumW l) HSL rfl HLL.out.rg ?_)
            | (with_reducible refine st_id rfl _ _ rfl w.heap.size 0 (sumW l) HSL rfl rfl HRR.out.th ?_))
          refine bodyPost_ret (res_id rfl _ _ w.heap.size (sumW l) HSL.out rfl (HRR.out.set_ (l' := bvs (sumW l)) (by rw [bvs_len]; exact HSL.out)).rg) rfl ⟨rfl, below_setCells HBB.out (Nat.le_refl _) _ _⟩
end Go.Proofs.YtnkhoghdfncgpaaGreatDoor.S3
