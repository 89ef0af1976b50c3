/-
  PROVED HERE: the law ShaFolds of layer 3 (sha), the stage's theorem: the bytes of any slice (its first 700), filled up, are whole blocks, begin with the bytes and 128, end with their number of bits, and have noughts between; the digest is what the beginning comes to by these blocks, one behind the other, as bytes. Conditions: the package variable sha.constants holds what the program's text lays (the card ties it).
-/
import Derived.Test.YtgbpbbjglikheaaDoorFold
import Derived.Test.YtgbpbbjglikheaaDoorFrame
import Derived.Test.YtgbpbbjglikheaaDoorCards
import Derived.Test.YtgbpbbjglikheaaDoorTie
import Derived.SevenTiedAt
namespace Go.Proofs.YtgbpbbjglikheaaDoor.shaFolds
open Go.ChangeShapes Go.WideShapes Go.ChangeAt Go.RowKit
set_option linter.unusedVariables false
set_option linter.unusedSimpArgs false

theorem wbytes_drop (l : List UInt32) {k : Nat} (hk : k < l.length) : wbytes (l.drop k) = be 4 l[k].toNat ++ wbytes (l.drop (k + 1)) := by
  unfold wbytes
  rw [List.drop_eq_getElem_cons hk, List.flatMap_cons]
theorem word_off (l : List UInt32) {k : Nat} (hk : k < l.length) : offT (wbytes (l.drop k)) 0 4 = be 4 l[k].toNat ∧ offL (wbytes (l.drop k)) 0 4 = wbytes (l.drop (k + 1)) ∧ offE (wbytes (l.drop k)) 0 4 = 0 := by
  rw [wbytes_drop l hk]
  have h4 := be_len 4 l[k].toNat
  have hc : (0 : Int) = 0 ∧ (0 : Int) ≤ 4 ∧ (4 : Int) ≤ ((be 4 l[k].toNat ++ wbytes (l.drop (k + 1))).length : Int) := by
    rw [List.length_append, h4]
    omega
  unfold offT offL offE
  rw [if_pos hc, if_pos hc, if_pos rfl, if_neg (by omega), if_pos hc.2.2]
  refine ⟨?_, ?_, rfl⟩
  · exact List.take_left' h4
  · exact List.drop_left' h4
theorem below_drew0 (w : World) : Below w.heap.size w w.drew := (Below.refl _ _).drew
theorem padW_head (l : List UInt8) : (padW l).take (l.length + 1) = l ++ [128] := by
  unfold padW
  rw [List.append_assoc, List.take_append]
  simp
  exact List.take_of_length_le (by omega)
theorem padW_tail (l : List UInt8) : (padW l).drop ((padW l).length - 8) = be 8 (8 * l.length) := by
  have hb := fillN_bd l.length
  have e : (padW l).length - 8 = (l ++ 128 :: List.replicate (fillN l.length - l.length - 1) 0).length := by
    rw [padW_len]
    simp
    omega
  rw [e]
  unfold padW
  rw [List.drop_left]
theorem padW_mid (l : List UInt8) {i : Nat} (h : i < fillN l.length - l.length - 1) : (padW l)[l.length + 1 + i]? = some 0 := by
  have hb := fillN_bd l.length
  unfold padW
  rw [List.getElem?_append_left (by simp; omega), List.getElem?_append_right (by omega)]
  have e : l.length + 1 + i - l.length = i + 1 := by omega
  rw [e, List.getElem?_cons_succ, List.getElem?_replicate, if_pos h]

/-- A row that the call owns, with bytes more: whatever guard stands before it. -/
theorem wpList_app_want {w : World} {ops : Array Oper} {rest : List Oper} {o : Oper} {a : Act} {Q : Exit → Act → World → Prop} (hw : Region.wanted o (yielded ops a.tmps) = true) (s x : Operand)
    (ho : o.op = .call { callee := .builtin .append, args := #[s, x], argTypes := #[22, 22] })
    (base : Nat) (v : Value) (n : Nat) (l0 : List UInt8) (hs : a.eval s = v) (hown : w.ownsRow base 5 1 v n (bvs l0))
    (ad : Addr) (m c : Nat) (l : List UInt8) (hx : a.eval x = .slice (some ad) m c) (hl : l.length = m) (hnews : ∀ j u, (bvs l)[j]? = some u → w.cell? (ad.add j) = some u)
    (hm : 0 < m) (h63 : n + m ≤ 1000000) (hbase : base ≤ w.heap.size)
    (h : ∀ v' w', w'.ownsRow base 5 1 v' (n + m) (bvs (l0 ++ l)) → w.grownBy w' v.ownBlock → wpList Tryd.prog ops Q rest (a.put o.dst v') w') : wpList Tryd.prog ops Q (o :: rest) a w := by
  obtain ⟨i0, hi0, hz0, hz1, hz2⟩ := info_parts info_u8
  refine wpList_want hw ?_
  have h1 := step_append_lies (P := Tryd.prog) (ops := ops) (o := { o with guard := none }) (a := a) (K := wpList Tryd.prog ops Q rest) (Q := Q) (E := True) w rfl s x 22 ho base 5 i0 (.int .u8 0) 1 1 Tryd.underlying22 hi0 hz0 hz1 hz2 rfl (by omega) v n (bvs l0) hs hown ad m c (bvs l) hx (by rw [bvs_len, hl, Nat.mul_one]) hnews (bvs_one _) hm (by unfold maxLen; omega) (by omega) hbase w.heap.size rfl
    (fun g cap w' h1 h2 _ _ => h _ w' (by unfold bvs; rw [List.map_append]; exact h1) h2)
  have hw0 : Region.wanted { o with guard := none } (yielded ops a.tmps) = true := rfl
  rw [if_pos hw0] at h1
  exact h1

set_option maxRecDepth 100000 in
set_option maxHeartbeats 3200000 in
theorem walk {A : Option Addr} {n c : Nat} {l : List UInt8} {w : World} (hs : SlB w w.heap.size A n c l) (hg : GK w) :
    Calls Tryd.prog 7 #[.slice A n c] w fun e w' => e = .returned (.bool true) ∧ Below w.heap.size w w' := by
  have HS := Lib.hid hs
  have HG := Lib.hid hg
  obtain ⟨m, hm⟩ : ∃ m, min n 700 = m := ⟨_, rfl⟩
  have hbl : (l.take 700).length = m := by rw [List.length_take, hs.len, Nat.min_comm]; exact hm
  obtain ⟨bl, hbe⟩ : ∃ bl, l.take 700 = bl := ⟨_, rfl⟩
  rw [hbe] at hbl
  have HBL := Lib.hid hbl
  have HBE := Lib.hid hbe
  have HM := Lib.hid hm
  have hm7 : m ≤ 700 := by omega
  clear hs hg hbl hbe hm
  go_enter Tryd.func7, Tryd.ntmps7
  go_wp2_with fail
  refine (wakes_any HG.out).mono ?_
  rintro e w1 ⟨rfl, hb1⟩
  have B1 := Lib.hid hb1
  clear hb1
  go_wp2_with fail
  refine (own_any (HS.out.below B1.out) B1.out.size).mono ?_
  rintro e w2 ⟨A2, c2, rfl, ho2, hb2⟩
  rw [HM.out, HBE.out] at ho2
  rw [HM.out]
  have B2 := Lib.hid (B1.out.trans (hb2.mono B1.out.size))
  have O2 := Lib.hid (ho2.sl (Nat.le_refl _))
  clear ho2 hb2
  go_wp2_with fail
  refine (pad_any O2.out (Nat.le_refl _) (by omega)).mono ?_
  rintro e w3 ⟨g, M, rfl, hM, hgb, hbl3, hb3⟩
  have hbd := fillN_bd m
  have HFM := Lib.hid hM
  have hM1 : m + 9 ≤ M := by omega
  have hM2 : M ≤ m + 72 := by omega
  have hM3 : M % 64 = 0 := by omega
  have HPL := Lib.hid (show (padW bl).length = M by rw [padW_len, HBL.out, hM])
  have P3 : Hid (Lies w3 g M (bvs (padW bl))) := Lib.hid (by
    have := hbl3.lies
    rwa [bvs_len, HPL.out] at this)
  have B3 := Lib.hid (B2.out.trans (hb3.mono B2.out.size))
  have O3 := Lib.hid (O2.out.below hb3)
  have S3 := Lib.hid (HS.out.below B3.out)
  have Z23 := Lib.hid hb3.size
  have GB := Lib.hid (show w.heap.size ≤ g from Nat.le_trans B2.out.size hgb)
  clear hbl3 hb3 hbd hM hgb
  have hmI : (m : Int) ≤ 700 := by omega
  have hm0 : (0 : Int) ≤ (m : Int) := Int.natCast_nonneg _
  have hMI1 : (m : Int) + 9 ≤ (M : Int) := by omega
  have hMI2 : (M : Int) ≤ (m : Int) + 72 := by omega
  have hMI3 : (M : Int) % 64 = 0 := by omega
  have hd1 : decide ((M : Int) < (m : Int) + 9) = false := by simp; omega
  have hd2 : decide ((m : Int) + 72 < (M : Int)) = false := by simp; omega
  have hMI4 : (M : Int).tmod 64 = 0 := by rw [Int.tmod_eq_emod_of_nonneg (by omega)]; exact hMI3
  go_wp2_with fail
  refine (own_any S3.out B3.out.size).mono ?_
  rintro e w4 ⟨A4, c4, rfl, ho4, hb4⟩
  rw [HM.out, HBE.out] at ho4
  rw [HM.out]
  have B4 := Lib.hid (B3.out.trans (hb4.mono B3.out.size))
  have O4 := Lib.hid (O3.out.below (hb4.mono Z23.out))
  have P4 := Lib.hid (P3.out.below hb4 P3.out.lt)
  have W4 := Lib.hid ho4
  have hsz34 := hb4.size
  have Z24 := Lib.hid (Nat.le_trans Z23.out hsz34)
  clear ho4 hb4
  have X4 : Hid ((w4.alloc (.cells #[.int .u8 128] 5)).ownsRow w3.heap.size 5 1 (.slice A4 m c4) m (bvs bl)) := Lib.hid (World.ownsRow.alloc (show w4.ownsRow w3.heap.size 5 1 (.slice A4 m c4) m (bvs bl) from W4.out) _)
  have N4 : Hid (∀ j u, (bvs [128])[j]? = some u → (w4.alloc (.cells #[.int .u8 128] 5)).cell? ((⟨w4.heap.size, 0, none⟩ : Addr).add j) = some u) := Lib.hid (fun j u hu => by
    have h := Bl.cell (Bl.new w4 5 (bvs [128])) j
    rw [addr_add, Nat.zero_add]
    exact h.trans hu)
  have C4 := Lib.hid (show Below w4.heap.size w4 (w4.alloc (.cells #[.int .u8 128] 5)) from (Below.refl _ _).alloc (Nat.le_refl _) _)
  have Z4 := Lib.hid (show w3.heap.size ≤ w4.heap.size + 1 from Nat.le_trans hsz34 (by omega))
  have D4 := Lib.hid (P4.out.alloc (.cells #[.int .u8 128] 5))
  have E4 := Lib.hid (B4.out.alloc B4.out.size (.cells #[.int .u8 128] 5))
  have F4 := Lib.hid (O4.out.below (C4.out.mono Z24.out))
  have HGL := Lib.hid P3.out.lt
  have HHD := Lib.hid (show (padW bl).take (m + 1) = bl ++ [128] by have := padW_head bl; rwa [HBL.out] at this)
  have HTL := Lib.hid (show (padW bl).drop (M - 8) = be 8 (8 * m) by have := padW_tail bl; rwa [HPL.out, HBL.out] at this)
  go_wp2_with (first
    | (at_builtin; go_loud (with_reducible refine wpList_app_want rfl (.tmp 42) (.tmp 43) rfl w3.heap.size (.slice A4 m c4) m bl rfl X4.out ⟨w4.heap.size, 0, none⟩ 1 1 [128] rfl rfl N4.out (by omega) (by omega) (by rw [World.size_alloc]; exact Z4.out) ?_); intro v5 w5 ho5 hg5; obtain ⟨A5, c5, rfl⟩ := own_form ho5; go_loud (have P5 := Lib.hid (D4.out.keep (hg5.block g D4.out.lt (fun hq => by have := (X4.out.lt _ hq.symm).1; have := HGL.out; omega)) hg5.size)); go_loud (have B5 := Lib.hid (Below.grown E4.out hg5 E4.out.size (fun q hq => by have := (X4.out.lt q hq).1; have := B3.out.size; omega))); go_loud (have O5 := Lib.hid (F4.out.grown hg5 (by rw [World.size_alloc]; have := Z24.out; omega) (fun q hq => by have := (X4.out.lt q hq).1; have := Z23.out; omega))); go_loud (have Y5 := Lib.hid (show Ow w5 w3.heap.size A5 (m + 1) c5 (bl ++ [128]) from ho5)); have Y5z := Lib.hid (show w3.heap.size ≤ w5.heap.size by have := hg5.size; rw [World.size_alloc] at this; have := Z4.out; omega); clear ho5 hg5))
  refine (prefix_yes (P5.out.slb HPL.out (by omega)) (Y5.out.sl (Nat.le_refl _)) (by omega) HHD.out).mono ?_
  rintro e w6 ⟨rfl, rfl⟩
  go_wp2_with fail
  refine (put_u64 SlB.nil_ (Nat.zero_le _) (8 * m) _ ?_ (by omega) (by omega)).mono ?_
  · omega
  rintro e w7 ⟨g7, hg7, rfl, hbl7, hb7⟩
  have B7 := Lib.hid (B5.out.trans (hb7.mono B5.out.size))
  have P7 := Lib.hid (P5.out.below hb7 P5.out.lt)
  have Z25 := Lib.hid (show w2.heap.size ≤ w5.heap.size from Nat.le_trans Z23.out Y5z.out)
  have O7 := Lib.hid (O5.out.below (hb7.mono Z25.out))
  have Z27 := Lib.hid (Nat.le_trans Z25.out hb7.size)
  have Q7 : Hid (Lies w7 g7 8 (bvs (be 8 (8 * m)))) := Lib.hid (by
    have := hbl7.lies
    rw [List.nil_append, bvs_len, be_len] at this
    exact this)
  clear hbl7 hb7 hg7
  go_wp2_with fail
  refine (suffix_yes P7.out HPL.out (Nat.le_refl _) (by omega) (Q7.out.slb (be_len _ _) (by omega)) (by omega) (by omega) HTL.out).mono ?_
  rintro e w8 ⟨rfl, rfl⟩
  obtain ⟨K, hK⟩ : ∃ K, M - 8 - (m + 1) = K := ⟨_, rfl⟩
  have HK := Lib.hid hK
  have hk1 : (m : Int) + 1 ≤ (M : Int) - 8 := by omega
  have hk2 : ((M : Int) - 8).toNat - ((m : Int) + 1).toNat = K := by omega
  have hk3 : M - 8 - (m + 1) = K := hK
  clear hK
  have hk4 : (K : Int) = ((M - 8 - (m + 1) : Nat) : Int) := by omega
  go_wp2_with fail
  go_loopw [67] (fun i wr => ∃ j : Nat, j ≤ K ∧ i = .int .i64 (j : Int) ∧ wr = w7) (fun i _ => K - (intOf i).toNat)
  case atStart => exact ⟨0, Nat.zero_le _, rfl, rfl⟩
  case round =>
    obtain ⟨j, hj, rfl, rfl⟩ := hrel
    by_cases hlt : j < K
    · have hd : decide ((j : Int) < (K : Int)) = true := by simp; omega
      have hj0 : (0 : Int) ≤ (j : Int) := Int.natCast_nonneg _
      have hj1 : (j : Int) < ((M - 8 - (m + 1) : Nat) : Int) := by omega
      have hj2 : j < M - 8 - (m + 1) := by omega
      have hcell : wr.cell? ⟨g, m + 1 + j, none⟩ = some (.int .u8 0) := P7.out.cell (by
        have h := padW_mid bl (i := j) (by rw [HBL.out]; have := HFM.out; omega)
        rw [HBL.out] at h
        simp only [bvs, List.getElem?_map, h]
        rfl)
      go_wp2_with fail
      go_roundw
      case rel => exact ⟨j + 1, by omega, by go_num, trivial⟩
      case measure => simp [intOf]; omega
    · obtain rfl : j = K := by omega
      go_wp2_with fail
      refine (start_any _).mono ?_
      rintro e w9 ⟨rfl, hb9⟩
      have B9 := Lib.hid (B7.out.trans (hb9.mono B7.out.size))
      have P9 := Lib.hid (P7.out.below hb9 P7.out.lt)
      have O9 := Lib.hid (O7.out.below (hb9.mono Z27.out))
      have Z29 := Lib.hid (Nat.le_trans Z27.out hb9.size)
      clear hb9
      have HS8 := Lib.hid (show startW.list.length = 8 from rfl)
      have L9 := Lib.hid (Z8_new w9)
      have D9 := Lib.hid (below_setCells ((Below.refl w9.heap.size w9).alloc (Nat.le_refl _) (.cells Z8 31)) (Nat.le_refl _) 0 (wvs startW.list))
      have K9 := Lib.hid (L9.out.set_ (l' := wvs startW.list) rfl)
      have H9 := Lib.hid (P9.out.below D9.out P9.out.lt)
      have E9 := Lib.hid (B9.out.trans (D9.out.mono B9.out.size))
      have V9 := Lib.hid (O9.out.below (D9.out.mono Z29.out))
      have hgb : Hid (g < w9.heap.size) := Lib.hid P9.out.lt
      go_wp2_with (with_reducible refine st_w8 rfl _ _ rfl w9.heap.size 0 startW.list HS8 rfl rfl L9.out.th ?_)
      generalize (w9.alloc (.cells Z8 31)).setCells w9.heap.size 0 (wvs startW.list) = v9 at D9 K9 H9 E9 V9 ⊢
      have hbw := B9.out.size
      have ZV9 := Lib.hid (Nat.le_trans Z29.out D9.out.size)
      clear D9 L9
      generalize w9.heap.size = bh at hgb K9 Z29 hbw ⊢
      have HBW := Lib.hid hbw
      clear hbw
      obtain ⟨q, hq0⟩ : ∃ q, M = 64 * q := ⟨M / 64, by omega⟩
      have HQ0 := Lib.hid hq0
      have hq12 : q ≤ 12 := by omega
      clear hq0
      go_loopw [8] (fun r wr => ∃ k o L C : Nat, k ≤ q ∧ r = .slice (some ⟨g, o, none⟩) L C ∧ Hid (L = 64 * (q - k) ∧ C = 64 * (q - k) ∧ (k < q → o = 64 * k)) ∧ Hid (Lies wr bh 8 (wvs (foldW startW (padW bl) k).list)) ∧ Hid (Lies wr g M (bvs (padW bl))) ∧ Hid (SlB wr w2.heap.size A2 m c2 bl ∧ w2.heap.size ≤ wr.heap.size) ∧ Hid (Below w.heap.size w wr)) (fun r _ => match r with | .slice _ l _ => l | _ => 0)
      case atStart => exact ⟨0, 0, M, M, Nat.zero_le _, rfl, Lib.hid ⟨by have := HQ0.out; omega, by have := HQ0.out; omega, fun _ => rfl⟩, K9, H9, Lib.hid ⟨V9.out, ZV9.out⟩, E9⟩
      case round =>
        obtain ⟨k, o, L, C, hk, rfl, hq, hl, hp, ho, hb⟩ := hrel
        have BD := Lib.hid (below_drew0 wr)
        by_cases hlt : k < q
        · have hL0 : 64 ≤ L := by have := hq.out.1; omega
          obtain rfl : L = C := by have := hq.out; omega
          have hC1 : L ≤ 1000 := by have := hq.out; omega
          have hi0 : (0 : Int) < (L : Int) := by omega
          have hi3 : (64 : Int) ≤ (L : Int) := by omega
          obtain rfl : o = 64 * k := hq.out.2.2 hlt
          obtain ⟨blk, hblk⟩ : ∃ blk, ((padW bl).drop (64 * k)).take 64 = blk := ⟨_, rfl⟩
          have hbl : blk.length = 64 := by rw [← hblk, List.length_take, List.length_drop, HPL.out]; have := HQ0.out; omega
          have HB6 := Lib.hid hbl
          have HFK : Hid (foldW startW (padW bl) (k + 1) = blockW (foldW startW (padW bl) k) blk) := Lib.hid (by rw [← hblk]; rfl)
          have hrg : ∀ w', Lies w' g M (bvs (padW bl)) → w'.rangeAt g (64 * k) (bvs blk) := fun w' h j v hv => by
            obtain ⟨hj, rfl⟩ := bvs_at _ _ _ hv
            rw [hbl] at hj
            refine h.cell (j := 64 * k + j) ?_
            simp only [bvs, ← hblk, List.getElem?_map, List.getElem_take, List.getElem_drop]
            rw [List.getElem?_eq_getElem (by rw [HPL.out]; have := HQ0.out; omega)]
            rfl
          have HRG := Lib.hid hrg
          have H8 := Lib.hid (show (wvs (foldW startW (padW bl) k).list).length = 8 from rfl)
          generalize foldW startW (padW bl) k = fk at hl HFK H8
          clear hblk hbl hrg
          have har := fun w => run_arrayAt (P := Tryd.prog) w 32 5 64 (some ⟨g, 64 * k, none⟩) L L Tryd.underlying32 hL0
          go_wp2_with fail
          refine wp_region_bk 4 5 5 (fun w' => w'.rangeAt bh 0 (wvs fk.list) ∧ w'.rangeAt g (64 * k) (bvs blk)) (by kernel_rfl) (by kernel_rfl) ⟨(hl.out.below BD.out hl.out.lt).rg, HRG.out _ (hp.out.below BD.out hp.out.lt)⟩ ?_
          simp only [List.take_succ_cons, List.take_zero, List.drop_succ_cons, List.drop_zero]
          refine ⟨_, yieldsIf_load_mid rfl 31 _ rfl bh 0 rfl (wvs fk.list) _ (fun w' hw' => hw'.1) Tryd.underlying31 rfl (by rw [H8.out]; exact size_w8), ?_⟩
          refine ⟨_, .inl ⟨rfl, fun w' hw' => (by clear hw'; go_simp; rfl)⟩, ?_⟩
          refine ⟨_, .inl ⟨rfl, fun w' hw' => (by clear hw'; go_simp; rfl)⟩, ?_⟩
          refine ⟨_, yieldsIf_load_mid rfl 32 _ rfl g (64 * k) rfl (bvs blk) _ (fun w' hw' => hw'.2) Tryd.underlying32 rfl (by rw [bvs_len, HB6.out]; exact size_b64), ?_⟩
          rw [wpHead_nil]
          rw [wpMid_cons]
          refine ⟨rfl, ?_⟩
          refine wp_fn (f := 17) (xs := #[fk.val, .agg (bvs blk).toArray]) (by go_simp; rfl) ((block_any fk blk HB6.out (HG.out.below (hb.out.trans (BD.out.mono hb.out.size)))).mono ?_)
          rintro e w3' ⟨rfl, hb3⟩
          have B3 := Lib.hid (BD.out.trans hb3)
          have L3 := Lib.hid (hl.out.below B3.out hl.out.lt)
          have Q3 := Lib.hid (hp.out.below B3.out hp.out.lt)
          have HZR := Lib.hid (show w2.heap.size ≤ wr.heap.size from ho.out.2)
          have O3' := Lib.hid (ho.out.1.below (B3.out.mono HZR.out))
          have E3 := Lib.hid (hb.out.trans (B3.out.mono hb.out.size))
          clear hb3
          refine ⟨_, rfl, ⟨L3.out.rg, HRG.out _ Q3.out⟩, ?_⟩
          rw [wpMid_nil]
          simp only [Act.put, List.setIfInBounds_toArray, List.set_cons_succ, List.set_cons_zero]
          rw [wpHead_nil]
          (try simp only [Act.put, List.setIfInBounds_toArray, List.set_cons_succ, List.set_cons_zero])
          have HN8 := Lib.hid (show (blockW fk blk).list.length = 8 from rfl)
          have L4 := Lib.hid (L3.out.set_ (l' := wvs (blockW fk blk).list) rfl)
          have Q4 := Lib.hid (Q3.out.other (b' := bh) (by have := hgb.out; omega) 0 (wvs (blockW fk blk).list))
          have B4' := Lib.hid (below_setCells E3.out HBW.out 0 (wvs (blockW fk blk).list))
          have R4 := Lib.hid (below_setCells (Below.refl w2.heap.size w3') Z29.out 0 (wvs (blockW fk blk).list))
          have O4' := Lib.hid (O3'.out.below R4.out)
          have Z4' := Lib.hid (Nat.le_trans (Nat.le_trans HZR.out B3.out.size) R4.out.size)
          go_wp2_with (first
            | (with_reducible refine st_w8 rfl _ _ rfl bh 0 (blockW fk blk).list HN8 rfl rfl L3.out.th ?_))
          refine NoPanic.normal ?_
          generalize w3'.setCells bh 0 (wvs (blockW fk blk).list) = v4 at L4 Q4 B4' O4' Z4' ⊢
          rw [← HFK.out] at L4
          by_cases hC : L = 64
          · subst hC
            go_wp2
            go_roundw
            case rel => exact ⟨k + 1, _, 0, 0, by omega, rfl, Lib.hid ⟨by have := hq.out; omega, by have := hq.out; omega, fun h => by have := hq.out; omega⟩, L4, Q4, Lib.hid ⟨O4'.out, Z4'.out⟩, B4'⟩
            case measure => simp
          · have hC2 : (64 : Int) < (L : Int) := by omega
            go_wp2
            go_roundw
            case rel => exact ⟨k + 1, 64 * k + 64, L - 64, L - 64, by omega, rfl, Lib.hid ⟨by have := hq.out; omega, by have := hq.out; omega, fun h => by omega⟩, L4, Q4, Lib.hid ⟨O4'.out, Z4'.out⟩, B4'⟩
            case measure => simp; omega
        · obtain rfl : k = q := by omega
          obtain rfl : L = 0 := by have := hq.out.1; omega
          obtain ⟨wq, hwq⟩ : ∃ wq, wq = wr := ⟨_, rfl⟩
          rw [← hwq] at hl hp ho hb
          subst hwq
          have SU := Lib.hid (sum_any ho.out.1 ho.out.2 (by omega) (HG.out.below hb.out))
          have hsw : sumW bl = wbytes (foldW startW (padW bl) k).list := by
            unfold sumW
            rw [HPL.out, HQ0.out, Nat.mul_div_cancel_left _ (by omega)]
            rfl
          have HSL := Lib.hid (sumW_len bl)
          generalize foldW startW (padW bl) k = F at hl hsw
          have HSW := Lib.hid hsw
          have HF8 := Lib.hid (show F.list.length = 8 from rfl)
          clear hsw
          go_wp2_with fail
          refine (SU.out).mono ?_
          rintro e wa ⟨rfl, hba⟩
          have BA := Lib.hid (hb.out.trans (hba.mono hb.out.size))
          have LA := Lib.hid (hl.out.below hba hl.out.lt)
          have NA := Lib.hid (Zi_new wa)
          have DA := Lib.hid (below_setCells ((Below.refl wa.heap.size wa).alloc (Nat.le_refl _) (.cells (bvs Zi).toArray 26)) (Nat.le_refl _) 0 (bvs (sumW bl)))
          have KA := Lib.hid (NA.out.set_ (l' := bvs (sumW bl)) (by rw [bvs_len]; exact HSL.out))
          have LB := Lib.hid (LA.out.below DA.out LA.out.lt)
          have BB := Lib.hid (BA.out.trans (DA.out.mono BA.out.size))
          clear hba
          go_wp2_with (first
            | ((with_reducible refine al_id rfl rfl ?_); (try simp only [Act.put, List.setIfInBounds_toArray, List.set_cons_succ, List.set_cons_zero, World.size_alloc]))
            | (with_reducible refine st_id rfl _ _ rfl wa.heap.size 0 (sumW bl) HSL rfl rfl NA.out.th ?_))
          generalize (wa.alloc (.cells (bvs Zi).toArray 26)).setCells wa.heap.size 0 (bvs (sumW bl)) = va at DA KA LB BB ⊢
          clear DA NA
          generalize wa.heap.size = ba at KA ⊢
          refine (read_any (KA.out.slb HSL.out (by omega)) (Nat.le_refl _) (by omega)).mono ?_
          rintro e wb ⟨gr, hgr, rfl, hrd, hbb⟩
          rw [HSW.out] at hrd
          have LC := Lib.hid (LB.out.below hbb LB.out.lt)
          have BC := Lib.hid (BB.out.trans (hbb.mono BB.out.size))
          have HGR := Lib.hid (show w.heap.size ≤ gr from Nat.le_trans BB.out.size hgr)
          have HRD := Lib.hid hrd
          clear hrd hbb hgr
          go_wp2_with (first
            | (with_reducible refine ld_w8 rfl (.tmp 7) rfl bh 0 F.list HF8 rfl LC.out.rg ?_))
          go_loopw [91] (fun i wr => ∃ k : Nat, k ≤ 8 ∧ i = .int .i64 (k : Int) ∧ Hid (Rd wr gr (wbytes (F.list.drop k)) 0) ∧ Hid (Below w.heap.size w wr)) (fun i _ => 8 - (intOf i).toNat)
          case atStart => exact ⟨0, by omega, rfl, HRD, BC⟩
          case round =>
            obtain ⟨i, hi, rfl, hr, hbel⟩ := hrel
            by_cases hlt8 : i < 8
            · have hd : decide ((i : Int) < 8) = true := by simp; omega
              have hi0 : (0 : Int) ≤ (i : Int) := Int.natCast_nonneg _
              have hi1 : (i : Int) < 8 := by omega
              have hil : i < F.list.length := by rw [HF8.out]; exact hlt8
              have hix := index_words Tryd.underlying31 HF8.out hil
              have TU := take_u32 hr.out
              obtain ⟨e1, e2, e3⟩ := word_off F.list hil
              rw [e1, e2, e3] at TU
              have TU' := Lib.hid TU
              generalize F.list[i] = x at hix TU'
              have hnum : ((num (be 4 x.toNat) : Nat) : Int) = (x.toNat : Int) := by rw [num_be, Nat.mod_eq_of_lt (by have := x.toNat_lt; omega)]
              clear TU e1 e2 e3
              unfold wv at hix
              go_wp2_with (go_at_call 32; refine (TU'.out).mono ?_; rintro e w5 ⟨rfl, hR, hG⟩; have R5 := Lib.hid hR; have B5 := Lib.hid (hbel.out.grown hG hbel.out.size (fun q hq => by have := HGR.out; cases hq; omega)); clear hR hG)
              go_roundw
              case rel => exact ⟨i + 1, by omega, by go_num, R5, B5⟩
              case measure => simp [intOf]; omega
            · obtain rfl : i = 8 := by omega
              have LF := Lib.hid (left_any hr.out)
              go_wp2_with (go_at_call 33; refine (LF.out).mono ?_; rintro e w5 ⟨rfl, kk, rfl⟩)
              go_ret
              exact ⟨rfl, below_drewN hbel.out _⟩

set_option maxRecDepth 100000 in
theorem lifted (os : Os) (started : os.Started) (H : Type) (enc : TypeId × Value → H) :
    ReturnsInHanded {} Tryd.checked os 7 .any (fun w args => (Rows.shaFoldsSpec.pre enc Tryd.prog Tryd.f7 [] false w args ∧ laidMetH Tryd.prog laidL w) ∧ sizedMet enc Tryd.prog Tryd.f7 (OpenSpec.ofChange Rows.shaFoldsSpec) false w args)
      (Rows.shaFoldsSpec.post enc Tryd.prog Tryd.f7 false true false false) := by
  refine returnsInHanded_of_change_and (C := Tryd.checked) (X := fun w _ => laidMetH Tryd.prog laidL w) (fun _ _ _ hh h => h.of_heap hh) own started (by kernel_rfl) Tryd.func7
    (ChangeSpec.witness_shaped (enc := enc) (C := Tryd.checked) (os := os) (X := fun w _ => laidMetH Tryd.prog laidL w) false (World.doorLaid Tryd.prog 14 os) #[.slice none 0 0] 8 rfl (World.shaped_of_RefB (by kernel_rfl) (by kernel_rfl)) (by kernel_rfl) (by kernel_rfl) (by kernel_rfl) (door_met os _)) ?_
  intro W base args ds gs before hval0 hW _ _ hL _
  have hval : ∀ (j : Nat) t v, Tryd.f7.params[j]? = some t → args[j]? = some v → Value.okWide Tryd.prog W .any base t v := hval0
  have hW' := hW
  obtain ⟨p, q, hA0, hV, rfl, hfz, hnd⟩ := hW
  have hA : DataW.TrodAll enc Tryd.prog W 0 (fun _ => true) true Tryd.f7.params.toList args.toList ds p := hA0
  rw [Tryd.params7] at hA hval
  obtain ⟨v0, vs0, d0, ds0, p0, q0, hargs, rfl, rfl, h0, r0⟩ := trodAll_cons hA
  obtain ⟨rfl, rfl, rfl⟩ := trodAll_nil r0
  obtain rfl : args = #[v0] := by cases args; simp_all
  obtain ⟨rfl, rfl⟩ := trodVars_none hV
  have hGK := gk_of_laid hL
  have k0 := h0
  have lt0 : ∀ x ∈ p0, x.block < W.heap.size := by obtain ⟨m, hm⟩ := k0; exact DataW.trod_lt m _ _ _ hm
  obtain ⟨a0, len0, cap0, rfl⟩ := okWide_slice Tryd.underlying22 (hval 0 22 v0 rfl rfl)
  obtain ⟨l0, s0⟩ : ∃ l, SlB W W.heap.size a0 len0 cap0 l := by
    obtain ⟨fuel, hf⟩ := h0
    rcases open_ints Tryd.underlying22 Tryd.underlying5 (by kernel_rfl) hf with ⟨hcs, _⟩ | ⟨x, l, c, zs, hcs, _, hl, hm, hz, _, hcell, hwz⟩
    · simp [Value.cells] at hcs
      obtain ⟨rfl, rfl, rfl⟩ := hcs
      exact ⟨[], SlB.nil_⟩
    · simp [Value.cells] at hcs
      obtain ⟨rfl, rfl, rfl⟩ := hcs
      exact sl_arg hl hm (by simpa using hz) hcell hwz
  clear hA0 hval0
  refine (walk s0 hGK).mono fun e W' ⟨he, bel⟩ => ?_
  subst he
  exact ⟨_, rfl, _, _, _, [], _, [], hW', trodAll_mk1 (shut_bool Tryd.underlying4 _), (trodAll_cons_mk (Below.trod laidOut (by kernel_rfl) (of_decide_eq_true (by kernel_rfl)) k0 bel lt0) trodAll_mk0), rfl, bel.frame _, fun h => by cases h⟩

theorem over : Rows.shaFoldsRow.holds Tryd.pinned (OpenSpec.ofChange Rows.shaFoldsSpec) :=
  OpenClaim.holds_of_wide 7 Tryd.f7 rfl rfl rfl rfl rfl rfl rfl ⟨rfl, rfl, rfl, rfl, rfl⟩ rfl rfl rfl rfl rfl (by kernel_rfl) Tryd.func7 (by kernel_rfl)
    (of_decide_eq_true (by kernel_rfl)) (by unfold Func.isWrapper; first | (rw [if_pos (by decide +kernel)]; kernel_rfl) | (rw [if_neg (by decide +kernel)]; exact ⟨rfl, rfl⟩))
    (fun os started H enc _ => lifted os started H enc)

theorem proved : Rows.ShaFoldsCardSaid :=
  Claim7.holds_tied_plain_at .later [] [.data] true Rows.shaFoldsCard.stood.harness false
    over (fun _ h => by cases h) (by kernel_rfl) (fun _ h => by cases h) shaFolds_row_tie rfl ⟨rfl, rfl⟩ (by kernel_rfl) rfl
    (fun f fn hf hfn => by
      obtain rfl : f = 7 := Option.some.inj ((show Tryd.prog.funcNamed "confluence/confluencelaw03.ShaFolds" = some 7 by kernel_rfl).symm.trans hf) |>.symm
      obtain rfl : fn = Tryd.f7 := (Option.some.inj (Tryd.func7.symm.trans hfn)).symm
      exact ⟨by kernel_rfl, fun j t ht => by
        have hall : (Tryd.f7.params.all fun u => !Tryd.prog.wantsStandIn u) = true := by kernel_rfl
        have := Array.all_eq_true_iff_forall_mem.1 hall t (Array.mem_of_getElem? ht)
        exact (by simpa using this : Tryd.prog.wantsStandIn t = false)⟩)
    (by kernel_rfl)
#print axioms proved
end Go.Proofs.YtgbpbbjglikheaaDoor.shaFolds
