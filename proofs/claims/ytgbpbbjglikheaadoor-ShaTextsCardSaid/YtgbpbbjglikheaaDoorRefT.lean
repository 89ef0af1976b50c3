/-
  THE DOCUMENT'S TEXT OF A DIGEST, AND ITS DIGEST OF A TEXT.
-/
import Derived.Test.YtgbpbbjglikheaaDoorWake
namespace Go.Proofs.YtgbpbbjglikheaaDoor
set_option linter.unusedVariables false
set_option linter.unusedSimpArgs false
open Go.RowKit Go.WideShapes Go.ChangeShapes

theorem wp_new {P : Program} {o : Oper} {a : Act} {w w' : World} {K : Act → World → Prop} {Q : Exit → Act → World → Prop} {v : Value} (hr : (execOp a.eval o).run P w = .ok (.value v) w') (h : K (a.put o.dst v) w') : o.wp P a w K Q := by
  unfold Oper.wp
  rw [hr]
  exact h
theorem sign_ref (n : Nat) (hn : n < 16) (N : Int) (hN : N = (n : Int)) (w : World) :
    Calls Tryd.prog 48 #[.int .u8 N] w fun e w' => e = .returned (.int .u8 ((sgn16 n).toNat : Int)) ∧ w = w' := by
  subst hN
  rcases (show n = 0 ∨ n = 1 ∨ n = 2 ∨ n = 3 ∨ n = 4 ∨ n = 5 ∨ n = 6 ∨ n = 7 ∨ n = 8 ∨ n = 9 ∨ n = 10 ∨ n = 11 ∨ n = 12 ∨ n = 13 ∨ n = 14 ∨ n = 15 by omega) with rfl | rfl | rfl | rfl | rfl | rfl | rfl | rfl | rfl | rfl | rfl | rfl | rfl | rfl | rfl | rfl
  all_goals
    go_enter Tryd.func48, Tryd.ntmps48
    go_wp2
    go_ret
    exact ⟨rfl, rfl⟩
theorem hx_none (c : UInt8) (h : ∀ j, j < 16 → sgn16 j ≠ c) : hx c = -1 := by
  have hb := hx_bd c
  by_cases h0 : 0 ≤ hx c
  · exact absurd (hx_sgn c h0) (h _ (by omega))
  · omega

set_option maxRecDepth 100000 in
set_option maxHeartbeats 1600000 in
theorem digit_ref (c : UInt8) (w : World) :
    Calls Tryd.prog 47 #[.int .u8 (c.toNat : Int)] w fun e w' => e = .returned (.int .i64 (hx c)) ∧ w = w' := by
  go_enter Tryd.func47, Tryd.ntmps47
  go_wp2
  go_loopw [3] (fun i wr => ∃ n : Nat, n ≤ 16 ∧ i = .int .u8 (n : Int) ∧ Hid (∀ j, j < n → sgn16 j ≠ c) ∧ wr = w) (fun i _ => 16 - (intOf i).toNat)
  case atStart => exact ⟨0, by omega, rfl, Lib.hid (fun j hj => absurd hj (by omega)), rfl⟩
  case round =>
    obtain ⟨n, hn, rfl, hno, rfl⟩ := hrel
    by_cases hlt : n < 16
    · have hd : decide ((n : Int) < 16) = true := by simp; omega
      have hsr := sign_ref n hlt (n : Int) rfl
      have hb := (sgn16 n).toNat_lt
      by_cases he : sgn16 n = c
      · have hv : Hid (hx c = (n : Int)) := Lib.hid (by rw [← he]; exact sgn_hx n hlt)
        rw [he] at hsr
        clear he hb
        go_wp2_with (go_at_call 48; refine (hsr _).mono ?_; rintro e w5 ⟨rfl, rfl⟩)
        go_ret
        exact ⟨by rw [hv.out]; rfl, rfl⟩
      · have hne : ¬ (((sgn16 n).toNat : Int) = (c.toNat : Int)) := fun e => he (UInt8.toNat_inj.1 (by omega))
        have HO : Hid (∀ j, j < n + 1 → sgn16 j ≠ c) := Lib.hid (fun j hj => by
          by_cases e : j = n
          · rw [e]; exact he
          · exact hno.out j (by omega))
        clear he
        generalize sgn16 n = s at *
        go_wp2_with (go_at_call 48; refine (hsr _).mono ?_; rintro e w5 ⟨rfl, rfl⟩)
        go_roundw
        case rel => exact ⟨n + 1, by omega, by go_num, HO, trivial⟩
        case measure => simp [intOf]; omega
    · obtain rfl : n = 16 := by omega
      go_wp2
      go_ret
      exact ⟨by rw [hx_none c hno.out]; rfl, rfl⟩

set_option maxRecDepth 100000 in
set_option maxHeartbeats 1600000 in
theorem text_ref (x : List UInt8) (hx : x.length = 32) (w : World) :
    Calls Tryd.prog 27 #[.agg (bvs x).toArray] w fun e w' => e = .returned (.string ⟨(textW x).toArray⟩) ∧ Below w.heap.size w w' := by
  have HX := Lib.hid hx
  have L1 : Hid (Lies (w.alloc (.cells (bvs x).toArray 26)) w.heap.size 32 (bvs x)) := Lib.hid (by
    have := Lies.new w (bvs x) 26
    rwa [bvs_len, hx] at this)
  have B1 := Lib.hid (show Below w.heap.size w (w.alloc (.cells (bvs x).toArray 26)) from (Below.refl _ _).alloc (Nat.le_refl _) _)
  clear hx
  go_enter Tryd.func27, Tryd.ntmps27
  go_wp2
  go_loopw [3, 4] (fun row i wr => ∃ k m : Nat, k ≤ 32 ∧ i = .int .i64 (k : Int) ∧ Hid (m = 2 * k) ∧ Hid (wr.ownsRow (w.heap.size + 1) 5 1 row m (bvs (textW (x.take k)))) ∧ Hid (Lies wr w.heap.size 32 (bvs x)) ∧ Hid (Below w.heap.size w wr)) (fun _ i _ => 32 - (intOf i).toNat)
  case atStart => exact ⟨0, 0, by omega, rfl, Lib.hid rfl, Lib.hid (World.ownsRow_nil _ _ _ _), L1, B1⟩
  case round =>
    obtain ⟨k, m, hk, rfl, hm, hown, hL, hB⟩ := hrel
    by_cases hlt : k < 32
    · have hd : decide ((k : Int) < 32) = true := by simp; omega
      have hk0 : (0 : Int) ≤ (k : Int) := Int.natCast_nonneg _
      have hk1 : (k : Int) < 32 := by omega
      have hkl : k < x.length := by rw [HX.out]; exact hlt
      have hta : x[k] = x.getD k 0 := by rw [List.getD_eq_getElem?_getD, List.getElem?_eq_getElem hkl]; rfl
      have htk := textW_take x hkl
      have hcell : ∀ w', Lies w' w.heap.size 32 (bvs x) → w'.cell? ⟨w.heap.size, k, none⟩ = some (.int .u8 ((x.getD k 0).toNat : Int)) := fun w' h => h.cell (by rw [← hta]; simp [bvs, bv, hkl])
      generalize x.getD k 0 = y at htk hcell
      have HTK := Lib.hid htk
      have HCELL := Lib.hid hcell
      have hy0 : (0 : Int) ≤ (y.toNat : Int) := Int.natCast_nonneg _
      have hy1 : (y.toNat : Int) < 256 := by have := y.toNat_lt; omega
      have hw1 : IntKind.u8.wrap ((y.toNat : Int) / 16) = (y.toNat : Int) / 16 := by rw [wrap8]; omega
      have hw2 : IntKind.u8.wrap ((y.toNat : Int) % 16) = (y.toNat : Int) % 16 := by rw [wrap8]; omega
      clear hta htk hcell
      have KS := Lib.hid (hL.out.below (Below.refl _ _).drew hL.out.lt)
      have BS := Lib.hid (hB.out.drew)
      have OW := Lib.hid (hown.out.drew)
      obtain ⟨i0, hi0, hz0, hz1, hz2⟩ := info_parts info_u8
      have HI0 := Lib.hid hi0
      have HM := Lib.hid (show m ≤ 64 by have := hm.out; omega)
      have HROOM := Lib.hid (show w.heap.size + 1 ≤ wr.heap.size from hL.out.lt)
      clear hown hL hB hi0
      go_wp2_with fail
      refine wp_region_noPanic ?_
      refine wp_region_held_drew (S := fun w' => Lies w' w.heap.size 32 (bvs x)) (by kernel_rfl) KS.out (fun _ => ?_)
      refine wpAnyH_take (i := 0)  rfl (by kernel_rfl) (by kernel_rfl) (by kernel_rfl) (fun _ _ _ h => h) (.inl ⟨rfl, fun w' hw' => (by clear hw'; go_simp; rfl)⟩) KS.out ?_
      simp only [List.getElem_toArray, List.getElem_cons_zero, List.getElem_cons_succ, Act.put, List.setIfInBounds_toArray, List.set_cons_succ, List.set_cons_zero]
      refine wpAnyH_take (i := 1)  rfl (by kernel_rfl) (by kernel_rfl) (by kernel_rfl) (fun _ _ _ h => h) (.inl ⟨rfl, fun w' hw' => (by clear hw'; go_simp; rfl)⟩) KS.out ?_
      simp only [List.getElem_toArray, List.getElem_cons_zero, List.getElem_cons_succ, Act.put, List.setIfInBounds_toArray, List.set_cons_succ, List.set_cons_zero]
      refine wpAnyH_take (i := 2)  rfl (by kernel_rfl) (by kernel_rfl) (by kernel_rfl) (fun _ _ _ h => h) (.inl ⟨rfl, fun w' hw' => (by clear hw'; go_simp; rfl)⟩) KS.out ?_
      simp only [List.getElem_toArray, List.getElem_cons_zero, List.getElem_cons_succ, Act.put, List.setIfInBounds_toArray, List.set_cons_succ, List.set_cons_zero]
      refine wpAnyH_take (i := 3)  rfl (by kernel_rfl) (by kernel_rfl) (by kernel_rfl) (fun _ _ _ h => h) (.inl ⟨rfl, fun w' hw' => (by have hc := HCELL.out w' hw'; clear hw'; go_simp; rfl)⟩) KS.out ?_
      simp only [List.getElem_toArray, List.getElem_cons_zero, List.getElem_cons_succ, Act.put, List.setIfInBounds_toArray, List.set_cons_succ, List.set_cons_zero]
      refine wpAnyH_take (i := 4) (v := .int .u8 ((y.toNat : Int) / 16)) rfl (by kernel_rfl) (by kernel_rfl) (by kernel_rfl) (fun _ _ _ h => h) (.inl ⟨rfl, fun w' hw' => (by clear hw'; first | (go_simp; done) | (go_simp; omega) | (go_simp; simp [hw1, hw2]; done) | (go_simp; exact Int.tmod_eq_emod_of_nonneg hy0))⟩) KS.out ?_
      simp only [List.getElem_toArray, List.getElem_cons_zero, List.getElem_cons_succ, Act.put, List.setIfInBounds_toArray, List.set_cons_succ, List.set_cons_zero]
      refine wpAnyH_take (i := 6)  rfl (by kernel_rfl) (by kernel_rfl) (by kernel_rfl) (fun _ _ _ h => h) (.inl ⟨rfl, fun w' hw' => (by clear hw'; go_simp; rfl)⟩) KS.out ?_
      simp only [List.getElem_toArray, List.getElem_cons_zero, List.getElem_cons_succ, Act.put, List.setIfInBounds_toArray, List.set_cons_succ, List.set_cons_zero]
      refine wpAnyH_take (i := 7)  rfl (by kernel_rfl) (by kernel_rfl) (by kernel_rfl) (fun _ _ _ h => h) (.inl ⟨rfl, fun w' hw' => (by clear hw'; go_simp; rfl)⟩) KS.out ?_
      simp only [List.getElem_toArray, List.getElem_cons_zero, List.getElem_cons_succ, Act.put, List.setIfInBounds_toArray, List.set_cons_succ, List.set_cons_zero]
      refine wpAnyH_take (i := 8)  rfl (by kernel_rfl) (by kernel_rfl) (by kernel_rfl) (fun _ _ _ h => h) (.inl ⟨rfl, fun w' hw' => (by have hc := HCELL.out w' hw'; clear hw'; go_simp; rfl)⟩) KS.out ?_
      simp only [List.getElem_toArray, List.getElem_cons_zero, List.getElem_cons_succ, Act.put, List.setIfInBounds_toArray, List.set_cons_succ, List.set_cons_zero]
      refine wpAnyH_take (i := 9) (v := .int .u8 ((y.toNat : Int) % 16)) rfl (by kernel_rfl) (by kernel_rfl) (by kernel_rfl) (fun _ _ _ h => h) (.inl ⟨rfl, fun w' hw' => (by clear hw'; first | (go_simp; done) | (go_simp; omega) | (go_simp; simp [hw1, hw2]; done) | (go_simp; exact Int.tmod_eq_emod_of_nonneg hy0))⟩) KS.out ?_
      simp only [List.getElem_toArray, List.getElem_cons_zero, List.getElem_cons_succ, Act.put, List.setIfInBounds_toArray, List.set_cons_succ, List.set_cons_zero]
      refine wpAnyH_ready (rs := [5]) (by kernel_rfl) (by simp) (AllReadyH.cons rfl (fun K hK => ?_) AllReadyH.nil)
      rw [if_pos (by rfl)]
      refine wp_fn (f := 48) (xs := #[.int .u8 ((y.toNat : Int) / 16)]) (by go_simp) ((sign_ref (y.toNat / 16) (by omega) ((y.toNat : Int) / 16) (by omega) _).mono ?_)
      rintro e wn ⟨rfl, rfl⟩
      refine ⟨_, rfl, hK.out _ _ KS.out (fun _ => ?_)⟩
      simp only [List.getElem_toArray, List.getElem_cons_zero, List.getElem_cons_succ, Act.put, List.setIfInBounds_toArray, List.set_cons_succ, List.set_cons_zero]
      refine wpAnyH_ready (rs := [10]) (by kernel_rfl) (by simp) (AllReadyH.cons rfl (fun K hK => ?_) AllReadyH.nil)
      rw [if_pos (by rfl)]
      refine wp_fn (f := 48) (xs := #[.int .u8 ((y.toNat : Int) % 16)]) (by go_simp) ((sign_ref (y.toNat % 16) (by omega) ((y.toNat : Int) % 16) (by omega) _).mono ?_)
      rintro e wn ⟨rfl, rfl⟩
      refine ⟨_, rfl, hK.out _ _ KS.out (fun _ => ?_)⟩
      simp only [List.getElem_toArray, List.getElem_cons_zero, List.getElem_cons_succ, Act.put, List.setIfInBounds_toArray, List.set_cons_succ, List.set_cons_zero]
      refine wpAnyH_ready (rs := [11]) (by kernel_rfl) (by simp) (AllReadyH.cons rfl (fun K hK => ?_) AllReadyH.nil)
      rw [if_pos (by rfl)]
      refine wp_new (v := .slice (some ⟨wr.heap.size, 0, none⟩) 2 2) (w' := wr.drew.alloc (.cells #[.int .u8 ((sgn16 (y.toNat / 16)).toNat : Int), .int .u8 ((sgn16 (y.toNat % 16)).toNat : Int)] 5)) (by go_simp; first | done | exact ⟨rfl, rfl⟩ | rfl) ?_
      have KA := Lib.hid (KS.out.alloc (.cells #[.int .u8 ((sgn16 (y.toNat / 16)).toNat : Int), .int .u8 ((sgn16 (y.toNat % 16)).toNat : Int)] 5))
      refine hK.out _ _ KA.out (fun _ => ?_)
      simp only [List.getElem_toArray, List.getElem_cons_zero, List.getElem_cons_succ, Act.put, List.setIfInBounds_toArray, List.set_cons_succ, List.set_cons_zero]
      have OA : Hid ((wr.drew.alloc (.cells #[.int .u8 ((sgn16 (y.toNat / 16)).toNat : Int), .int .u8 ((sgn16 (y.toNat % 16)).toNat : Int)] 5)).ownsRow (w.heap.size + 1) 5 1 u3 m (bvs (textW (x.take k)))) := Lib.hid (OW.out.alloc _)
      have NEWS : Hid (∀ j u, (bvs [sgn16 (y.toNat / 16), sgn16 (y.toNat % 16)])[j]? = some u → (wr.drew.alloc (.cells #[.int .u8 ((sgn16 (y.toNat / 16)).toNat : Int), .int .u8 ((sgn16 (y.toNat % 16)).toNat : Int)] 5)).cell? ((⟨wr.heap.size, 0, none⟩ : Addr).add j) = some u) := Lib.hid (fun j u hu => by
        have h := Bl.cell (Bl.new wr.drew 5 (bvs [sgn16 (y.toNat / 16), sgn16 (y.toNat % 16)])) j
        rw [addr_add, Nat.zero_add]
        exact h.trans hu)
      have HBS := Lib.hid BS.out.size
      have HLTW := Lib.hid L1.out.lt
      refine wpAnyH_ready (rs := [12]) (by kernel_rfl) (by simp) (AllReadyH.cons rfl (fun K hK => ?_) AllReadyH.nil)
      refine step_append_lies _ rfl (.tmp 9) (.tmp 20) 22 rfl (w.heap.size + 1) 5 i0 (.int .u8 0) 1 1 Tryd.underlying22 HI0.out hz0 hz1 hz2 rfl (by omega) u3 m (bvs (textW (x.take k))) rfl OA.out ⟨wr.heap.size, 0, none⟩ 2 2 (bvs [sgn16 (y.toNat / 16), sgn16 (y.toNat % 16)]) rfl rfl NEWS.out (bvs_one _) (by omega) (by have := HM.out; unfold maxLen; omega) (by have := HM.out; omega) (by have := HROOM.out; simp; omega) (wr.heap.size + 1) (by simp) ?_
      intro g cap w5 ho5 hg5 hat5 hlt5
      have O5 := Lib.hid (show w5.ownsRow (w.heap.size + 1) 5 1 (.slice (some ⟨g, 0, none⟩) (m + 2) cap) (m + 2) (bvs (textW (x.take (k + 1)))) by rw [HTK.out]; unfold bvs; rw [List.map_append]; exact ho5)
      have B5 := Lib.hid (Below.grown (BS.out.alloc BS.out.size (.cells #[.int .u8 ((sgn16 (y.toNat / 16)).toNat : Int), .int .u8 ((sgn16 (y.toNat % 16)).toNat : Int)] 5)) hg5 (BS.out.alloc BS.out.size _).size (fun q hq => by have := (OA.out.lt q hq).1; omega))
      have K5 := Lib.hid (KA.out.keep (hg5.block w.heap.size KA.out.lt (fun hq => by have := (OA.out.lt _ hq.symm).1; omega)) hg5.size)
      clear ho5 hg5 hat5 hlt5
      refine hK.out _ _ K5.out (fun _ => ?_)
      simp only [List.getElem_toArray, List.getElem_cons_zero, List.getElem_cons_succ, Act.put, List.setIfInBounds_toArray, List.set_cons_succ, List.set_cons_zero]
      refine wpAnyH_take (i := 13)  rfl (by kernel_rfl) (by kernel_rfl) (by kernel_rfl) (fun _ _ _ h => h) (.inl ⟨rfl, fun w' hw' => (by clear hw'; go_simp; rfl)⟩) K5.out ?_
      simp only [List.getElem_toArray, List.getElem_cons_zero, List.getElem_cons_succ, Act.put, List.setIfInBounds_toArray, List.set_cons_succ, List.set_cons_zero]
      refine wpAnyH_done (by kernel_rfl) ?_ _
      refine NoPanic.normal ?_
      go_wp2
      go_roundw
      case rel => exact ⟨k + 1, m + 2, by omega, by go_num, Lib.hid (by have := hm.out; omega), O5, K5, B5⟩
      case measure => simp [intOf]; omega
    · obtain rfl : k = 32 := by omega
      obtain rfl : m = 64 := by have := hm.out; omega
      have htk : x.take 32 = x := List.take_of_length_le (by rw [HX.out]; exact Nat.le_refl _)
      rw [htk] at hown
      obtain ⟨g, cap, rfl, hg⟩ := hown.out.form (by omega)
      have hl : (textW x).length = 64 := by rw [textW_len, HX.out]
      have hcv : (convert 22 9 (.slice (some ⟨g, 0, none⟩) 64 cap)).run Tryd.prog wr = .ok (.string ⟨(textW x).toArray⟩) wr := by
        rw [← hl]
        refine run_convert_bytes_back wr 22 9 5 _ cap (textW x) Tryd.underlying22 Tryd.underlying5 Tryd.underlying9 (fun j hj => ?_)
        exact hown.out.cells rfl j _ (by simp [bvs, hj, bv])
      have HB := hB
      clear hB hown
      go_wp2
      go_ret
      exact ⟨rfl, HB.out⟩

theorem upd_add (x : UInt8) (h : Int) (h0 : 0 ≤ h) (h1 : h < 16) : ((x.toNat : Int) * 16 % 256 + h) % 256 = ((upd x (UInt8.ofNat h.toNat)).toNat : Int) := by
  have : ∀ n : Fin 256, ∀ m : Fin 16, (n.val * 16 % 256 + m.val) % 256 = (upd (UInt8.ofNat n.val) (UInt8.ofNat m.val)).toNat := by decide +kernel
  have h2 := this ⟨x.toNat, x.toNat_lt⟩ ⟨h.toNat, by omega⟩
  simp only [UInt8.ofNat_toNat] at h2
  rw [← h2]
  omega

set_option maxRecDepth 100000 in
set_option maxHeartbeats 1600000 in
theorem parse_ref (s : ByteArray) (w : World) :
    Calls Tryd.prog 25 #[.string s] w fun e w' => e = .returned (.tuple #[.agg (bvs (parseW s.data.toList)).toArray, .bool (goodL s.data.toList)]) ∧ Below w.heap.size w w' := by
  have L0 := Lib.hid (Zi_new w)
  have B0 := Lib.hid (show Below w.heap.size w (w.alloc (.cells (bvs Zi).toArray 26)) from (Below.refl _ _).alloc (Nat.le_refl _) _)
  have L1 := Lib.hid (Zi_new (w.alloc (.cells (bvs Zi).toArray 26)))
  have HZ := Lib.hid Zi_len
  have M0 := Lib.hid (L0.out.alloc (.cells (bvs Zi).toArray 26))
  have C0 := Lib.hid (B0.out.alloc B0.out.size (.cells (bvs Zi).toArray 26))
  have HS := Lib.hid (size_list s)
  by_cases h64 : (s.size : Int) = 64
  · have HZZ := Lib.hid (show s.size = 64 by omega)
    go_enter Tryd.func25, Tryd.ntmps25
    go_wp2_with (first | (with_reducible refine al_id rfl rfl ?_))
    go_loopw [5] (fun i wr => ∃ k : Nat, k ≤ 64 ∧ i = .int .i64 (k : Int) ∧ Hid (∀ j, j < k → 0 ≤ Proofs.YtgbpbbjglikheaaDoor.hx (s.data.toList.getD j 0)) ∧ Hid (Lies wr (w.heap.size + 1) 32 (bvs (rowP s.data.toList k))) ∧ Hid (Lies wr w.heap.size 32 (bvs Zi)) ∧ Hid (Below w.heap.size w wr)) (fun i _ => 64 - (intOf i).toNat)
    case atStart => exact ⟨0, by omega, rfl, Lib.hid (fun j hj => absurd hj (by omega)), Lib.hid (by rw [rowP_zero]; have := L1.out; rw [World.size_alloc] at this; exact this), M0, C0⟩
    case round =>
      obtain ⟨k, hk, rfl, hok, hrow, hres, hbel⟩ := hrel
      by_cases hlt : k < 64
      · have hd : decide ((k : Int) < 64) = true := by simp; omega
        have hk0 : (0 : Int) ≤ (k : Int) := Int.natCast_nonneg _
        have hks : (k : Int) < (s.size : Int) := by omega
        have hkn : k < s.size := by omega
        obtain ⟨c, hc⟩ : ∃ c, s[k]'hkn = c := ⟨_, rfl⟩
        have hgc : ∀ h, s[k]'h = c := fun _ => hc
        have HD := Lib.hid ((data_at s hkn).trans hc)
        have RA := Lib.hid (digit_ref c)
        obtain ⟨h, hh⟩ : ∃ h, Proofs.YtgbpbbjglikheaaDoor.hx c = h := ⟨_, rfl⟩
        rw [hh] at RA
        have HH := Lib.hid hh
        clear hc hh
        by_cases h0 : h < 0
        · have HG : Hid (goodL s.data.toList = false) := Lib.hid (goodL_bad (i := k) (by rw [HS.out]; exact hkn) (by rw [HD.out, HH.out]; exact h0))
          have hbl : ∀ w' : World, (Instr.build 26 #[]).run Tryd.prog w' = .ok (.agg (bvs Zi).toArray) w' := fun _ => by kernel_rfl
          have RES := hres
          clear hres hrow hok
          go_wp2_with (first
            | (go_at_call 47; refine (RA.out _).mono ?_; rintro e w5 ⟨rfl, rfl⟩)
            | (with_reducible refine st_id rfl _ _ rfl w.heap.size 0 Zi HZ rfl rfl RES.out.th ?_))
          refine bodyPost_ret (results_cell_tmp rfl _ _ w.heap.size 0 (bvs Zi) _ rfl (RES.out.set_ (l' := bvs Zi) (by rw [bvs_len]; exact Zi_len)).rg Tryd.underlying26 rfl (by rw [bvs_len, Zi_len]; exact size_id)) rfl ⟨?_, below_setCells hbel.out (Nat.le_refl _) _ _⟩
          unfold parseW
          rw [HG.out]
          rfl
        · have hrl := rowP_len s.data.toList k
          obtain ⟨x, hx⟩ : ∃ x, (rowP s.data.toList k).getD (k / 2) 0 = x := ⟨_, rfl⟩
          have hcl : wr.cell? ⟨w.heap.size + 1, k / 2, none⟩ = some (.int .u8 (x.toNat : Int)) := hrow.out.cell (by
            rw [← hx, List.getD_eq_getElem?_getD]
            simp [bvs, bv, List.getElem?_eq_getElem (show k / 2 < (rowP s.data.toList k).length by omega)])
          have hfz : wr.frozen? ⟨w.heap.size + 1, k / 2, none⟩ = false := hrow.out.frozen (by omega)
          have HX := Lib.hid hx
          have h0' : 0 ≤ Proofs.YtgbpbbjglikheaaDoor.hx c := by rw [HH.out]; omega
          have hup : ((x.toNat : Int) * 16 % 256 + h % 256) % 256 = ((upd x (hb c)).toNat : Int) := by
            have h2 := hx_bd c
            rw [HH.out] at h2
            unfold hb
            rw [HH.out, ← upd_add x h (by omega) (by omega)]
            congr 2
            omega
          have ST : Hid (Lies (wr.setCell ⟨w.heap.size + 1, k / 2, none⟩ (bv (upd x (hb c)))) (w.heap.size + 1) 32 (bvs (rowP s.data.toList (k + 1)))) := Lib.hid (by
            have h1 := hrow.out.set1 (k / 2) (bv (upd x (hb c)))
            have h2 := rowP_set s.data.toList k hlt
            rw [HX.out, HD.out] at h2
            rw [← h2]
            simpa [bvs, List.map_set] using h1)
          have OK2 : Hid (∀ j, j < k + 1 → 0 ≤ Proofs.YtgbpbbjglikheaaDoor.hx (s.data.toList.getD j 0)) := Lib.hid (fun j hj => by
            by_cases e : j = k
            · rw [e, HD.out]; exact h0'
            · exact hok.out j (by omega))
          have RES := hres
          clear hx hrl h0' hok hrow hres
          go_wp2_with (go_at_call 47; refine (RA.out _).mono ?_; rintro e w5 ⟨rfl, rfl⟩)
          go_roundw
          case rel =>
            exact ⟨k + 1, by omega, by go_num, OK2, ST, Lib.hid (RES.out.keep (Below.heap_setCell _ _ _ _ (by simp)) (by simp)), Lib.hid (hbel.out.setCell (by simp) _)⟩
          case measure => simp [intOf]; omega
      · obtain rfl : k = 64 := by omega
        have HRL := Lib.hid (rowP_len s.data.toList 64)
        have HG : Hid (goodL s.data.toList = true) := Lib.hid (goodL_of (by rw [HS.out, HZZ.out]) hok.out)
        go_wp2_with (first
          | (with_reducible refine ld_id rfl _ rfl (w.heap.size + 1) 0 (rowP s.data.toList 64) HRL rfl hrow.out.rg ?_)
          | (with_reducible refine st_id rfl _ _ rfl w.heap.size 0 (rowP s.data.toList 64) HRL rfl rfl hres.out.th ?_))
        refine bodyPost_ret (results_cell_tmp rfl _ _ w.heap.size 0 (bvs (rowP s.data.toList 64)) _ rfl (hres.out.set_ (l' := bvs (rowP s.data.toList 64)) (by rw [bvs_len]; exact HRL.out)).rg Tryd.underlying26 rfl (by rw [bvs_len, HRL.out]; exact size_id)) rfl ⟨?_, below_setCells hbel.out (Nat.le_refl _) _ _⟩
        unfold parseW
        rw [HG.out]
        rfl
  · have hne : ((s.size : Int) != 64) = true := by simp [h64]
    have HG : Hid (goodL s.data.toList = false) := Lib.hid (by
      cases hg : goodL s.data.toList
      · rfl
      · simp only [goodL, Bool.and_eq_true, beq_iff_eq] at hg
        exact absurd hg.1 (by rw [size_list]; omega))
    have hbl : ∀ w' : World, (Instr.build 26 #[]).run Tryd.prog w' = .ok (.agg (bvs Zi).toArray) w' := fun _ => by kernel_rfl
    go_enter Tryd.func25, Tryd.ntmps25
    go_wp2_with (first
      | (with_reducible refine al_id rfl rfl ?_)
      | (with_reducible refine st_id rfl _ _ rfl w.heap.size 0 Zi HZ rfl rfl M0.out.th ?_))
    refine bodyPost_ret (results_cell_tmp rfl _ _ w.heap.size 0 (bvs Zi) _ rfl (M0.out.set_ (l' := bvs Zi) (by rw [bvs_len]; exact Zi_len)).rg Tryd.underlying26 rfl (by rw [bvs_len, Zi_len]; exact size_id)) rfl ⟨?_, below_setCells C0.out (Nat.le_refl _) _ _⟩
    unfold parseW
    rw [HG.out]
    rfl
end Go.Proofs.YtgbpbbjglikheaaDoor
