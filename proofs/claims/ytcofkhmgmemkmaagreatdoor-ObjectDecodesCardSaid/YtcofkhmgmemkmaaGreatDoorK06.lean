/-
  A DIGEST.
  THE DIGEST OF BYTES.
  TWO BLOCKS COMPARED.
-/
import Derived.Test.YtcofkhmgmemkmaaGreatDoorK05
import Derived.Laws.StructEq
namespace Go.Proofs.YtcofkhmgmemkmaaGreatDoor.S3
set_option maxRecDepth 100000
set_option linter.unusedVariables false
set_option linter.unusedSimpArgs false
open Go.RowKit Go.WideShapes Go.ChangeShapes

/-- What k blocks of a row come to. -/
def foldW (s : W8) (row : List UInt8) : Nat → W8
  | 0 => s
  | k + 1 => blockW (foldW s row k) ((row.drop (64 * k)).take 64)
def startW : W8 := ⟨1779033703, 3144134277, 1013904242, 2773480762, 1359893119, 2600822924, 528734635, 1541459225⟩
def sumW (l : List UInt8) : List UInt8 := idW (foldW startW (padW l) ((padW l).length / 64))

theorem start_any (w : World) : Calls Tryz.prog 86 #[] w fun e w' => e = .returned startW.val ∧ Below w.heap.size w w' := by
  go_enter Tryz.func86, Tryz.ntmps86
  have HS := Lib.hid (show startW.list.length = 8 from rfl)
  have L := Lib.hid (Z8_new w)
  go_wp2_with (with_reducible refine st_w8 rfl _ _ rfl w.heap.size 0 startW.list HS rfl rfl L.out.th ?_)
  refine bodyPost_ret (res_w8 rfl _ _ w.heap.size startW.list rfl rfl (L.out.set_ (l' := wvs startW.list) rfl).rg) rfl ⟨rfl, below_setCells ((Below.refl _ _).alloc (Nat.le_refl _) _) (Nat.le_refl _) _ _⟩

set_option maxRecDepth 100000 in
set_option maxHeartbeats 1600000 in
/-- The blocks of a row go into the sum in block g. -/
theorem each_any (s : W8) (row : List UInt8) (n : Nat) (hn : row.length = 64 * n) (hn2 : n ≤ 100000000) {w : World} (hg : GK w) {g : Nat} (hL : Lies w g 8 (wvs s.list)) {b : Nat} (hr : Lies w b (64 * n) (bvs row)) (hne : b ≠ g) (h0 : g ≠ 0) {c : Nat} (hc : 64 * n ≤ c) (hcm : c ≤ 6400000064) :
    Calls Tryz.prog 87 #[.slice (some ⟨b, 0, none⟩) (64 * n) c, .func (.func 89) #[rp g] #[]] w fun e w' => e = .returned (.tuple #[]) ∧ Lies w' g 8 (wvs (foldW s row n).list) ∧ Mv (fun k => k = g) w w' := by
  have HG := Lib.hid hg
  have HL := Lib.hid hL
  have HR := Lib.hid hr
  have HN := Lib.hid hn
  have HC := Lib.hid (And.intro hc hcm)
  clear hg hL hr hn hc hcm
  go_enter Tryz.func87, Tryz.ntmps87
  go_wp2_with fail
  go_loopw [0] (fun r wr => ∃ k o L C : Nat, k ≤ n ∧ r = .slice (some ⟨b, o, none⟩) L C ∧ Hid (L = 64 * (n - k) ∧ C = c - 64 * k ∧ (k < n → o = 64 * k)) ∧ Hid (Lies wr g 8 (wvs (foldW s row k).list)) ∧ Hid (Mv (fun x => x = g) w wr)) (fun r _ => match r with | .slice _ l _ => l | _ => 0)
  case atStart => exact ⟨0, 0, 64 * n, c, Nat.zero_le _, rfl, Lib.hid ⟨by simp, by simp, fun _ => rfl⟩, HL, Lib.hid (Mv.refl _ _)⟩
  case round =>
    obtain ⟨k, o, L, C, hk, rfl, hq, hl, hm⟩ := hrel
    by_cases hlt : k < n
    · have hL0 : 64 ≤ L := by have := hq.out.1; omega
      have hLC : L ≤ C := by have := hq.out; have := HC.out; omega
      have hC1 : C ≤ 6400000064 := by have := hq.out; have := HC.out; omega
      have hi0 : (64 : Int) ≤ (L : Int) := by omega
      have hi1 : (64 : Int) ≤ (C : Int) := by omega
      have hi2 : (L : Int) ≤ (C : Int) := by omega
      have hi3 : (C : Int) ≤ 6400000064 := by omega
      obtain rfl : o = 64 * k := hq.out.2.2 hlt
      have hbl : ((row.drop (64 * k)).take 64).length = 64 := by rw [List.length_take, List.length_drop, HN.out]; omega
      have hrg : wr.rangeAt b (64 * k) (bvs ((row.drop (64 * k)).take 64)) := fun j v hv => by
        obtain ⟨hj, rfl⟩ := bvs_at _ _ _ hv
        rw [hbl] at hj
        have h1 := (HR.out.mv hm.out (by exact hne)).cell (j := 64 * k + j) (v := bv (((row.drop (64 * k)).take 64)[j]'(by rw [hbl]; exact hj))) (by
          simp only [bvs, List.getElem?_map, List.getElem_take, List.getElem_drop]
          rw [List.getElem?_eq_getElem (by rw [HN.out]; omega)]
          rfl)
        exact h1
      have hgk : GK wr := ⟨Nat.lt_of_lt_of_le HG.out.lt hm.out.size, fun j v hv => (World.cell?_of_block (a := ⟨0, 0 + j, none⟩) (hm.out.block 0 HG.out.lt (fun e => h0 e.symm))).trans (HG.out.rg j v hv)⟩
      have HT := Lib.hid (take_any (foldW s row k) ((row.drop (64 * k)).take 64) hbl hgk hl.out (c := 64) hrg (Nat.lt_of_lt_of_le HR.out.lt hm.out.size))
      clear hbl hrg hgk
      go_wp2_with fail
      refine (HT.out).mono ?_
      rintro e w5 ⟨rfl, hL5, hm5⟩
      have L5 : Hid (Lies w5 g 8 (wvs (foldW s row (k + 1)).list)) := Lib.hid hL5
      have M5 := Lib.hid (hm.out.trans hm5)
      clear hL5 hm5
      by_cases hC : C = 64
      · subst hC
        obtain rfl : L = 64 := by omega
        go_wp2
        go_roundw
        case rel => exact ⟨k + 1, _, 0, 0, by omega, rfl, Lib.hid ⟨by have := hq.out; omega, by have := hq.out; omega, fun h => by have := hq.out; omega⟩, L5, M5⟩
        case measure => simp
      · have hC2 : (64 : Int) < (C : Int) := by omega
        go_wp2
        go_roundw
        case rel => exact ⟨k + 1, 64 * k + 64, L - 64, C - 64, by omega, rfl, Lib.hid ⟨by have := hq.out; omega, by have := hq.out; omega, fun h => by omega⟩, L5, M5⟩
        case measure => simp; omega
    · obtain rfl : k = n := by omega
      obtain rfl : L = 0 := by have := hq.out.1; omega
      have L6 := hl
      have M6 := hm
      clear hl hm
      go_wp2
      go_end0
      exact ⟨rfl, L6.out, M6.out⟩
end Go.Proofs.YtcofkhmgmemkmaaGreatDoor.S3
namespace Go.Proofs.YtcofkhmgmemkmaaGreatDoor.S3
set_option maxRecDepth 100000
set_option linter.unusedVariables false
set_option linter.unusedSimpArgs false
open Go.RowKit Go.WideShapes Go.ChangeShapes

theorem sumW_len (l : List UInt8) : (sumW l).length = 32 := idW_len _

set_option maxRecDepth 100000 in
set_option maxHeartbeats 1600000 in
theorem sum_any {A : Option Addr} {n c : Nat} {l : List UInt8} {w : World} {B : Nat} (hs : SlB w B A n c l) (hB : B ≤ w.heap.size) (hn : n ≤ 1000000000) (hg : GK w) :
    Calls Tryz.prog 74 #[.slice A n c] w fun e w' => e = .returned (.agg (bvs (sumW l)).toArray) ∧ Below w.heap.size w w' := by
  have HS := Lib.hid hs
  have HG := Lib.hid hg
  have HN := Lib.hid hn
  have HBB := Lib.hid hB
  have hlen := Lib.hid hs.len
  have L0 := Lib.hid (Zi_new w)
  have hb0 : Below w.heap.size w (w.alloc (.cells (bvs Zi).toArray 27)) := (Below.refl _ _).alloc (Nat.le_refl _) _
  have B0 := Lib.hid hb0
  have Z0 := Lib.hid (show (w.alloc (.cells (bvs Zi).toArray 27)).heap.size = w.heap.size + 1 by simp)
  clear hs hg hn hB hb0
  go_enter Tryz.func74, Tryz.ntmps74
  go_wp2_with (first | (with_reducible refine al_id rfl rfl ?_))
  generalize w.alloc (.cells (bvs Zi).toArray 27) = w0 at L0 B0 Z0 ⊢
  refine (start_any w0).mono ?_
  rintro e w1 ⟨rfl, hb1⟩
  have B1 := Lib.hid (B0.out.trans (hb1.mono B0.out.size))
  have L1 := Lib.hid (L0.out.below hb1 L0.out.lt)
  have HW1 := Lib.hid (show w.heap.size < w1.heap.size from Nat.lt_of_lt_of_le L0.out.lt hb1.size)
  clear hb1
  go_wp2_with fail
  have L2 : Hid (Lies (w1.alloc (.cells #[wv startW.a, wv startW.b, wv startW.c, wv startW.d, wv startW.e, wv startW.f, wv startW.g, wv startW.h] 134)) w1.heap.size 8 (wvs startW.list)) := Lib.hid (Lies.new w1 (wvs startW.list) 134)
  have hb2 : Below w1.heap.size w1 (w1.alloc (.cells #[wv startW.a, wv startW.b, wv startW.c, wv startW.d, wv startW.e, wv startW.f, wv startW.g, wv startW.h] 134)) := (Below.refl _ _).alloc (Nat.le_refl _) _
  have B2 := Lib.hid (B1.out.trans (hb2.mono B1.out.size))
  have R2 := Lib.hid (L1.out.below hb2 L1.out.lt)
  clear hb2
  generalize w1.alloc (.cells #[wv startW.a, wv startW.b, wv startW.c, wv startW.d, wv startW.e, wv startW.f, wv startW.g, wv startW.h] 134) = w2 at L2 B2 R2 ⊢
  refine (pad_any (HS.out.below (B2.out.mono HBB.out)) (Nat.le_trans HBB.out B2.out.size) HN.out).mono ?_
  rintro e w3 ⟨g, m, rfl, hm, hgb, hbl, hb3⟩
  obtain ⟨q, rfl⟩ : ∃ q, m = 64 * q := ⟨m / 64, by have := (fillN_bd n).2.2; omega⟩
  have HM := Lib.hid hm
  have hpl : (padW l).length = 64 * q := by rw [padW_len, hlen.out, hm]
  have HPL := Lib.hid hpl
  have LR : Hid (Lies w3 g (64 * q) (bvs (padW l))) := Lib.hid (by
    have := hbl.lies
    rwa [bvs_len, hpl] at this)
  have L3 := Lib.hid (L2.out.below hb3 L2.out.lt)
  have B3 := Lib.hid (B2.out.trans (hb3.mono B2.out.size))
  have R3 := Lib.hid (R2.out.below hb3 R2.out.lt)
  have HQ := Lib.hid (show q ≤ 100000000 by have := (fillN_bd n).2.1; have := HN.out; omega)
  have HE := Lib.hid (each_any startW (padW l) q hpl HQ.out (HG.out.below B3.out) L3.out LR.out (by have := L2.out.lt; omega) (by have := HW1.out; omega) (c := 64 * q) (Nat.le_refl _) (by have := HQ.out; omega))
  clear hm hgb hbl hb3 hpl
  go_wp2_with fail
  refine (HE.out).mono ?_
  rintro e w4 ⟨rfl, hL4, hm4⟩
  have L4 := Lib.hid hL4
  have B4 := Lib.hid (B3.out.trans ((hm4.below (B := w.heap.size) (fun b hb => by have := HW1.out; omega) B3.out.size)))
  have R4 := Lib.hid (R3.out.mv hm4 (by have := HW1.out; omega))
  have H8 := Lib.hid (show (foldW startW (padW l) q).list.length = 8 from rfl)
  clear hL4 hm4
  go_wp2_with (first | (with_reducible refine ld_wd rfl _ rfl w1.heap.size 0 (foldW startW (padW l) q).list H8 rfl L4.out.rg ?_))
  refine (id_any (foldW startW (padW l) q) _).mono ?_
  rintro e w5 ⟨rfl, hb5⟩
  have B5 := Lib.hid (B4.out.trans (hb5.mono B4.out.size))
  have R5 := Lib.hid (R4.out.below hb5 R4.out.lt)
  have HI := Lib.hid (idW_len (foldW startW (padW l) q))
  clear hb5
  go_wp2_with (first | (with_reducible refine st_id rfl _ _ rfl w.heap.size 0 (idW (foldW startW (padW l) q)) HI rfl rfl R5.out.th ?_))
  refine bodyPost_ret (res_id rfl _ _ w.heap.size (idW (foldW startW (padW l) q)) HI.out rfl (R5.out.set_ (l' := bvs (idW (foldW startW (padW l) q))) (by rw [bvs_len]; exact HI.out)).rg) rfl ⟨?_, below_setCells B5.out (Nat.le_refl _) _ _⟩
  unfold sumW
  rw [HPL.out, Nat.mul_div_cancel_left _ (by omega : 0 < 64)]
end Go.Proofs.YtcofkhmgmemkmaaGreatDoor.S3
namespace Go.Proofs.YtcofkhmgmemkmaaGreatDoor.S3
set_option maxRecDepth 100000
set_option linter.unusedVariables false
open Go.RowKit Go.WideShapes Go.ChangeShapes

theorem run_part_bvs (l : List UInt8) (i : Nat) (h : i < l.length) (w : World) : (part 5 (bvs l).toArray (i * 1)).run Tryz.prog w = .ok (bv l[i]) w := by
  have e : (bvs l)[i]? = some (bv l[i]) := by simp [bvs, h]
  simp only [part, isAgg, Sem.run_bind, run_underlying Tryz.underlying5, Result.andThen_ok, Sem.run_pure, Bool.false_eq_true, if_false, Nat.mul_one, List.getElem?_toArray, e]
theorem run_equalIn_rows (D : Nat) (a b : List UInt8) (n : Nat) (t : TypeId) (ht : Tryz.prog.underlying t = some (.array n 5)) (ha : a.length = n) (hb : b.length = n) (hel : ∀ (x y : Int) (w : World), (Op.equalIn D 5 (.int .u8 x) (.int .u8 y)).run Tryz.prog w = .ok (x == y) w) (w : World) :
    (Op.equalIn (D + 1) t (.agg (bvs a).toArray) (.agg (bvs b).toArray)).run Tryz.prog w = .ok (a == b) w := by
  have hsz : ∀ w : World, (sizeOf 5).run Tryz.prog w = .ok 1 w := fun w => by kernel_rfl
  simp only [Op.equalIn, Sem.run_bind, run_underlying ht, Result.andThen_ok, hsz]
  rw [Std.Legacy.Range.forIn_eq_forIn_range']
  simp only [Std.Legacy.Range.size, Nat.sub_zero, Nat.add_sub_cancel, Nat.div_one]
  have key : ∀ (m k : Nat) (w : World), k + m = n → ((forIn (List.range' k m 1) (none, ()) fun (i : Nat) (__s : Option Bool × Unit) => do
      let x ← part 5 (bvs a).toArray (i * 1)
      let y ← part 5 (bvs b).toArray (i * 1)
      let r ← Op.equalIn D 5 x y
      if (!r) = true then pure (ForInStep.done (some false, ())) else pure (ForInStep.yield (none, ()))) : Sem (Option Bool × Unit)).run Tryz.prog w = .ok (if a.drop k = b.drop k then (none, ()) else (some false, ())) w := by
    intro m
    induction m with
    | zero =>
      intro k w hk
      have e1 : a.drop k = [] := List.drop_eq_nil_of_le (by omega)
      have e2 : b.drop k = [] := List.drop_eq_nil_of_le (by omega)
      simp [e1, e2]
    | succ m ih =>
      intro k w hk
      have d1 : a.drop k = a[k]'(by omega) :: a.drop (k + 1) := List.drop_eq_getElem_cons (by omega)
      have d2 : b.drop k = b[k]'(by omega) :: b.drop (k + 1) := List.drop_eq_getElem_cons (by omega)
      rw [List.range'_succ, List.forIn_cons]
      simp only [Sem.run_bind, run_part_bvs a k (by omega), run_part_bvs b k (by omega), Result.andThen_ok, bv, hel]
      by_cases he : a[k]'(by omega) = b[k]'(by omega)
      · have hb : (((a[k]'(by omega)).toNat : Int) == ((b[k]'(by omega)).toNat : Int)) = true := by rw [he]; simp
        simp only [hb, Bool.not_true, Bool.false_eq_true, if_false, Sem.run_pure, Result.andThen_ok]
        rw [ih (k + 1) w (by omega)]
        have hiff : (a.drop k = b.drop k) = (a.drop (k + 1) = b.drop (k + 1)) := propext ⟨fun e => by rw [d1, d2] at e; injection e, fun e => by rw [d1, d2, he, e]⟩
        simp only [hiff]
      · have hb : (((a[k]'(by omega)).toNat : Int) == ((b[k]'(by omega)).toNat : Int)) = false := by
          rw [beq_eq_false_iff_ne]
          intro e
          exact he (UInt8.toNat_inj.1 (by omega))
        simp only [hb, Bool.not_false, if_true, Sem.run_pure, Result.andThen_ok]
        rw [if_neg (by rw [d1, d2]; intro e; injection e with e1 e2; exact he e1)]
  rw [key n 0 w (by omega)]
  simp only [List.drop_zero, Result.andThen_ok]
  by_cases he : a = b
  · simp [he]
  · have : (a == b) = false := by simpa using he
    simp [he]
end Go.Proofs.YtcofkhmgmemkmaaGreatDoor.S3
