/-
  MERGE'S REFERENCE: Fits.
  MERGE'S REFERENCE: Take.
  MERGE'S REFERENCE: its statements' own: copied.
-/
import Derived.Test.YtkdmlffnkomdhaaRc
namespace Go.Proofs.Ytkdmlffnkomdhaa
set_option linter.unusedVariables false
set_option linter.unusedSimpArgs false
open Go.RowKit Go.WideShapes Go.ChangeShapes Go.Deep
attribute [local irreducible] wpQuiet

theorem eqW_all {lp : List Pl} {lc : List Ch} {n : Nat} (h1 : lp.length = n) (h2 : lc.length = n) (h : ∀ j (hj : j < n) (hl : j < lp.length) (hl2 : j < lc.length), lp[j].p = lc[j].p) : eqW lp lc = true := by
  unfold eqW
  rw [decide_eq_true_iff]
  refine List.ext_getElem (by simp; omega) fun j hj hj2 => ?_
  simp only [List.getElem_map]
  simp at hj hj2
  exact (h j (by omega) hj2 hj).symm
set_option maxRecDepth 100000 in
set_option maxHeartbeats 4000000 in
theorem refFits_any {w : World} {A1 : Option Addr} {n1 c1 : Nat} {l1 : List Pl} (h1 : SqP w w.heap.size A1 n1 c1 l1) (hn1 : n1 ≤ 1000000) {A2 : Option Addr} {n2 c2 : Nat} {l2 : List Ch} (h2 : SqC w w.heap.size A2 n2 c2 l2) (hn2 : n2 ≤ 1000000) :
    Calls Try.prog 22 #[.slice A1 n1 c1, .agg #[.slice A2 n2 c2]] w fun e w' => e = .returned (.bool (eqW l1 l2)) ∧ Below w.heap.size w w' := by
  obtain ⟨w0, hw0⟩ : ∃ w0, w.alloc (.cells #[.slice A2 n2 c2] 36) = w0 := ⟨_, rfl⟩
  have B0 : Hid (Below w.heap.size w w0) := Lib.hid (by rw [← hw0]; exact (Below.refl _ _).alloc (Nat.le_refl _) _)
  have X0 : Hid (Lies w0 w.heap.size 1 [.slice A2 n2 c2]) := Lib.hid (by rw [← hw0]; exact Lies.new w [.slice A2 n2 c2] 36)
  have HS1 := Lib.hid (fun (W : World) (hW : Below w0.heap.size w0 W) => (h1.below (B0.out.trans (hW.mono B0.out.size))).more (Nat.le_trans B0.out.size hW.size))
  have HS2 := Lib.hid (fun (W : World) (hW : Below w0.heap.size w0 W) => (h2.below (B0.out.trans (hW.mono B0.out.size))).more (Nat.le_trans B0.out.size hW.size))
  have HQ : Hid (∀ W, Below w0.heap.size w0 W → W.cell? ⟨w.heap.size, 0, none⟩ = some (.slice A2 n2 c2)) := Lib.hid fun W hW => (X0.out.below hW X0.out.lt).cell (j := 0) rfl
  have hl1 := h1.len
  have hl2 := h2.len
  have HW := Lib.hid hw0
  obtain ⟨ev, hev⟩ : ∃ ev, eqW l1 l2 = ev := ⟨_, rfl⟩
  rw [hev]
  have HE := Lib.hid hev
  clear hw0 h1 h2 hev
  go_enter Try.func22, Try.ntmps22
  go_upto_region 1 with fail
  rw [HW.out]
  clear HW
  have q0 := HQ.out _ (Below.refl _ _)
  by_cases hnn : n1 = n2
  · subst hnn
    have d0 : ((n1 : Int) == (n1 : Int)) = true := by simp
    have d1 : ((n1 : Int) != (n1 : Int)) = false := by simp
    go_wp2_with fail
    clear q0
    go_loopw [5] (fun i wr => ∃ k : Nat, k ≤ n1 ∧ i = .int .i64 (k : Int) ∧ Hid (∀ j (hj : j < k) (hl : j < l1.length) (hl2 : j < l2.length), l1[j].p = l2[j].p) ∧ Hid (Below w0.heap.size w0 wr)) (fun i _ => n1 - (intOf i).toNat)
    case atStart => exact ⟨0, Nat.zero_le _, rfl, Lib.hid (fun j hj => absurd hj (by omega)), Lib.hid (Below.refl _ _)⟩
    case round =>
      obtain ⟨k, hk, rfl, hg, hb⟩ := hrel
      by_cases hlt : k < n1
      · have hd : decide ((k : Int) < (n1 : Int)) = true := by simp; omega
        have hk0 : (0 : Int) ≤ (k : Int) := Int.natCast_nonneg _
        have hk1 : (k : Int) < (n1 : Int) := by omega
        obtain ⟨b1, o1, rfl, hbl1, hr1⟩ := (HS1.out _ hb.out).at_ hlt
        obtain ⟨b2, o2, rfl, hbl2, hr2⟩ := (HS2.out _ hb.out).at_ hlt
        obtain ⟨x, hx⟩ : ∃ x, l1[k]'(by omega) = x := ⟨_, rfl⟩
        obtain ⟨d, hdd⟩ : ∃ d, l2[k]'(by omega) = d := ⟨_, rfl⟩
        rw [hx] at hr1
        rw [hdd] at hr2
        have r0 : wr.cell? ⟨b1, o1 + k * 7, none⟩ = some (.string x.p) := hr1 0 _ rfl
        have s0 : wr.cell? ⟨b2, o2 + k * 3, none⟩ = some (.string d.p) := hr2 0 _ rfl
        obtain ⟨q, hq⟩ : ∃ q, (x.p.toList == d.p.toList) = q := ⟨_, rfl⟩
        have NO : Hid (q = false → ev = false) := Lib.hid (fun e => by
          rw [← HE.out]
          exact eqW_not (k := k) (by omega) (by omega) (by rw [hx, hdd]; exact same_text_not (by rw [hq]; exact e)))
        have YES : Hid (q = true → ∀ j (hj : j < k + 1) (hl : j < l1.length) (hl2 : j < l2.length), l1[j].p = l2[j].p) := Lib.hid (fun e j hj hl hl2 => by
          by_cases e2 : j = k
          · subst e2; rw [hx, hdd]; exact same_text (by rw [hq]; exact e)
          · exact hg.out j (by omega) hl hl2)
        have q0 := HQ.out _ hb.out
        clear hr1 hr2 hx hdd hg
        go_wp2_with fail
        go_region_held3 (fun w' => w'.cell? ⟨w.heap.size, 0, none⟩ = some (.slice (some ⟨b2, o2, none⟩) n1 c2) ∧ w'.cell? ⟨b1, o1 + k * 7, none⟩ = some (.string x.p) ∧ w'.cell? ⟨b2, o2 + k * 3, none⟩ = some (.string d.p))
          (first | exact ⟨q0, r0, s0⟩ | fail)
          (fail)
        have HB2 := Lib.hid (show Below w0.heap.size w0 wr.drew from hb.out.drew)
        clear q0 r0 s0
        cases q
        · have ef := NO.out rfl
          subst ef
          clear NO YES
          go_wp2_with fail
          go_ret
          exact ⟨rfl, B0.out.trans (HB2.out.mono B0.out.size)⟩
        · have Y1 := Lib.hid (YES.out rfl)
          clear NO YES
          go_wp2_with fail
          go_roundw
          case rel => exact ⟨k + 1, by omega, by go_num, Y1, HB2⟩
          case measure => simp [intOf]; omega
      · have hd : decide ((k : Int) < (n1 : Int)) = false := by simp; omega
        obtain rfl : k = n1 := by omega
        have ef : ev = true := by rw [← HE.out]; exact eqW_all hl1 hl2 hg.out
        subst ef
        go_wp2_with fail
        go_ret
        exact ⟨rfl, B0.out.trans (hb.out.mono B0.out.size)⟩
  · have d0 : ((n1 : Int) == (n2 : Int)) = false := by simp; omega
    have d1 : ((n1 : Int) != (n2 : Int)) = true := by simp; omega
    have ef : ev = false := by rw [← HE.out]; exact eqW_len (by omega)
    subst ef
    go_wp2_with fail
    go_ret
    exact ⟨rfl, B0.out⟩
end Go.Proofs.Ytkdmlffnkomdhaa
namespace Go.Proofs.Ytkdmlffnkomdhaa
set_option linter.unusedVariables false
set_option linter.unusedSimpArgs false
open Go.RowKit Go.WideShapes Go.ChangeShapes Go.Deep
attribute [local irreducible] wpQuiet

theorem lies_set2 {w : World} {b : Nat} {u : List Value} {v0 v1 a0 a1 : Value} (h : Lies w b 2 u) (h0 : w.cell? ⟨b, 0, none⟩ = some a0) (h1 : w.cell? ⟨b, 1, none⟩ = some a1) :
    Lies ((w.setCell ⟨b, 0, none⟩ v0).setCell ⟨b, 1, none⟩ v1) b 2 [v0, v1] := by
  refine ⟨set2 h0 h1, fun j hj => ?_, ?_, rfl⟩
  · have e : ∀ j, j < 2 → (((w.setCell ⟨b, 0, none⟩ v0).setCell ⟨b, 1, none⟩ v1).cell? ⟨b, 0 + j, none⟩).isSome = true := fun j hj => by
      have hs := set2 (v0 := v0) (v1 := v1) h0 h1
      rcases j with _ | _ | j
      · rw [hs 0 _ rfl]; rfl
      · rw [hs 1 _ rfl]; rfl
      · omega
    refine ⟨e j hj, ?_⟩
    rw [World.frozen?_setCell, World.frozen?_setCell]
    exact (h.th j hj).2
  · simpa [World.setCell] using h.lt
set_option maxRecDepth 100000 in
set_option maxHeartbeats 4000000 in
theorem refTake_any {w : World} {A : Option Addr} {n c : Nat} {l : List Pl} (h : SqP w w.heap.size A n c l) (hn : n ≤ 10000) (wh : Int) :
    Calls Try.prog 17 #[.slice A n c, .int .i64 wh] w fun e w' => (∃ A2 n2 c2, e = .returned (.agg #[.slice A2 n2 c2]) ∧ SqC w' w'.heap.size A2 n2 c2 (l.map (tkW wh))) ∧ Below w.heap.size w w' := by
  obtain ⟨w3, hw3⟩ : ∃ w3, (w.alloc (.cells #[.slice none 0 0] 36)).alloc (.cells #[.slice none 0 0] 36) = w3 := ⟨_, rfl⟩
  have B3 : Hid (Below w.heap.size w w3 ∧ w3.heap.size = w.heap.size + 1 + 1) := Lib.hid (by rw [← hw3]; exact ⟨((Below.refl _ _).alloc (Nat.le_refl _) _).alloc (by simp) _, by simp⟩)
  have X2 : Hid (Lies w3 w.heap.size 1 [.slice none 0 0]) := Lib.hid (by rw [← hw3]; exact (Lies.new w [.slice none 0 0] 36).alloc _)
  have MD0 : Hid (Md w3 (w.heap.size + 1) 36 81 3 (.slice none 0 0) 0 [] w3) := Lib.hid ⟨by
    rw [← hw3]
    have := Boxed.new (w.alloc (.cells #[.slice none 0 0] 36)) 36 (.slice none 0 0)
    rwa [World.size_alloc] at this, ⟨rfl, .inl ⟨rfl, rfl⟩⟩, Mv.refl _ _, by have := B3.out.2; omega⟩
  have HS := Lib.hid h
  have hl := h.len
  have HW := Lib.hid hw3
  clear hw3 h
  go_enter Try.func17, Try.ntmps17
  go_upto_region 2 with fail
  rw [HW.out]
  clear HW
  go_wp2_with fail
  go_loopw [6] (fun i wr => ∃ (k : Nat) (v : Value) (acc : List Ch), k ≤ n ∧ acc.length ≤ k ∧ i = .int .i64 (k : Int) ∧ Hid ((l.take k).map (tkW wh) = acc) ∧ Hid (Md w3 (w.heap.size + 1) 36 81 3 v acc.length (acc.flatMap Ch.cells) wr)) (fun i _ => n - (intOf i).toNat)
  case atStart => exact ⟨0, _, [], Nat.zero_le _, by simp, rfl, Lib.hid rfl, MD0⟩
  case round =>
    obtain ⟨k, v, acc, hk, hac, rfl, hacc, hmd⟩ := hrel
    by_cases hlt : k < n
    · have hd : decide ((k : Int) < (n : Int)) = true := by simp; omega
      have hk0 : (0 : Int) ≤ (k : Int) := Int.natCast_nonneg _
      have hk1 : (k : Int) < (n : Int) := by omega
      have hz3 := B3.out.2
      have hW0 : Below w.heap.size w wr := B3.out.1.trans (hmd.out.mv.below (B := w.heap.size) (fun x hx => by have e : x = w.heap.size + 1 := hx; omega) (by omega))
      obtain ⟨b, o, rfl, hbl, hrg⟩ := (HS.out.below hW0).at_ hlt
      obtain ⟨x, hx⟩ : ∃ x, l[k]'(by omega) = x := ⟨_, rfl⟩
      rw [hx] at hrg
      have HB3 := Lib.hid (show b < w3.heap.size by omega)
      have HT : Hid ((l.take (k + 1)).map (tkW wh) = acc ++ [tkW wh x]) := Lib.hid (by rw [List.take_add_one, List.getElem?_eq_getElem (by omega), List.map_append, hacc.out, hx]; rfl)
      have r0 : wr.cell? ⟨b, o + k * 7, none⟩ = some (.string x.p) := hrg 0 _ rfl
      have r1 : wr.cell? ⟨b, o + k * 7 + 1, none⟩ = some (.bool x.b.is) := hrg 1 _ rfl
      have r2 : wr.cell? ⟨b, o + k * 7 + 2, none⟩ = some (.string x.b.t) := hrg 2 _ rfl
      have r3 : wr.cell? ⟨b, o + k * 7 + 3, none⟩ = some (.bool x.o.is) := hrg 3 _ rfl
      have r4 : wr.cell? ⟨b, o + k * 7 + 4, none⟩ = some (.string x.o.t) := hrg 4 _ rfl
      have r5 : wr.cell? ⟨b, o + k * 7 + 5, none⟩ = some (.bool x.t.is) := hrg 5 _ rfl
      have r6 : wr.cell? ⟨b, o + k * 7 + 6, none⟩ = some (.string x.t.t) := hrg 6 _ rfl
      obtain ⟨wx, hwx⟩ : ∃ wx, wr.alloc (.cells #[.bool x.o.is, .string x.o.t] 41) = wx := ⟨_, rfl⟩
      have LX : Hid (Lies wx wr.heap.size 2 x.o.cells) := Lib.hid (by rw [← hwx]; exact Lies.new wr x.o.cells 41)
      have BX := Lib.hid (show Below wr.heap.size wr wx by rw [← hwx]; exact (Below.refl _ _).alloc (Nat.le_refl _) _)
      have HWX := Lib.hid hwx
      clear hwx
      go_upto_region 6 with fail
      rw [HWX.out]
      clear HWX
      have f0 := LX.out.frozen (j := 0) (by omega)
      have f1 := LX.out.frozen (j := 1) (by omega)
      have v0 := LX.out.cell (j := 0) rfl
      have v1 := LX.out.cell (j := 1) rfl
      have u0 := (BX.out.cell (p := ⟨b, o + k * 7, none⟩) (block_lt_of_cell r0)).trans r0
      have u1 := (BX.out.cell (p := ⟨b, o + k * 7 + 1, none⟩) (block_lt_of_cell r1)).trans r1
      have u2 := (BX.out.cell (p := ⟨b, o + k * 7 + 2, none⟩) (block_lt_of_cell r2)).trans r2
      have u5 := (BX.out.cell (p := ⟨b, o + k * 7 + 5, none⟩) (block_lt_of_cell r5)).trans r5
      have u6 := (BX.out.cell (p := ⟨b, o + k * 7 + 6, none⟩) (block_lt_of_cell r6)).trans r6
      have HR0 := Lib.hid (block_lt_of_cell r0)
      have HC0 := Lib.hid r0
      have OWL := Lib.hid (fun y (hy : v.ownBlock = some y) => hmd.out.own.lt y hy)
      have HHM := Lib.hid (hmd.out)
      clear r0 r1 r2 r3 r4 r5 r6 hrg hx hbl hW0 hz3
      by_cases h0 : wh = 0
      · subst h0
        have HPK := Lib.hid (show pickW 0 x = x.b by rfl)
        have dd0 : ((0 : Int) == 0) = true := rfl
        have dd2 : ((0 : Int) == 2) = false := rfl
        go_upto_region 10 with fail
        clear u0 u1 u2 u5 u6
        have Y6 : Hid (Lies ((wx.setCell ⟨wr.heap.size, 0, none⟩ (.bool x.b.is)).setCell ⟨wr.heap.size, 1, none⟩ (.string x.b.t)) wr.heap.size 2 x.b.cells) := Lib.hid (lies_set2 LX.out v0 v1)
        have GX6 : Hid (Below wr.heap.size wr ((wx.setCell ⟨wr.heap.size, 0, none⟩ (.bool x.b.is)).setCell ⟨wr.heap.size, 1, none⟩ (.string x.b.t))) := Lib.hid ((BX.out.setCell (p := ⟨wr.heap.size, 0, none⟩) (Nat.le_refl _) _).setCell (p := ⟨wr.heap.size, 1, none⟩) (Nat.le_refl _) _)
        clear v0 v1 f0 f1
        generalize (wx.setCell ⟨wr.heap.size, 0, none⟩ (.bool x.b.is)).setCell ⟨wr.heap.size, 1, none⟩ (.string x.b.t) = w6 at Y6 GX6 ⊢
        have MD6 := Lib.hid (hmd.out.below GX6.out)
        have m0 := MD6.out.bx.cell
        obtain ⟨q0, -⟩ := show wr.cell? ⟨b, o + k * 7, none⟩ = some (.string x.p) ∧ True from ⟨HC0.out, trivial⟩
        have t0 := (GX6.out.cell (p := ⟨b, o + k * 7, none⟩) HR0.out).trans q0
        clear q0
        have y0 := Y6.out
        obtain ⟨sx, hsx⟩ : ∃ sx, x.b = sx := ⟨_, rfl⟩
        rw [hsx] at y0 HPK
        obtain ⟨r, hr⟩ : ∃ r : Ch, r = ⟨x.p, sx.is, sx.t⟩ := ⟨_, rfl⟩
        obtain ⟨M, hM⟩ : ∃ M, wr.heap.size = M := ⟨_, rfl⟩
        rw [hM] at y0 ⊢
        have HZ := Lib.hid (show wr.heap.size ≤ M by omega)
        clear Y6 hsx hM
        refine wp_region_bar 12 14 (fun w' => w'.cell? ⟨w.heap.size + 1, 0, none⟩ = some v ∧ w'.cell? ⟨b, o + k * 7, none⟩ = some (.string x.p) ∧ w'.rangeAt M 0 sx.cells) (by kernel_rfl) (by kernel_rfl) ⟨m0, t0, y0.rg⟩ ?_
        simp only [List.take_succ_cons, List.take_zero, List.drop_succ_cons, List.drop_zero]
        refine ⟨_, .inl ⟨rfl, fun w' hw' => (by obtain ⟨h1, h2, h3⟩ := hw'; have a0 := h3 0 _ rfl; have a1 := h3 1 _ rfl; clear h3; go_simp; (try rfl))⟩, ?_⟩
        refine ⟨_, .inl ⟨rfl, fun w' hw' => (by obtain ⟨h1, h2, h3⟩ := hw'; have a0 := h3 0 _ rfl; have a1 := h3 1 _ rfl; clear h3; go_simp; (try rfl))⟩, ?_⟩
        refine ⟨_, .inl ⟨rfl, fun w' hw' => (by obtain ⟨h1, h2, h3⟩ := hw'; have a0 := h3 0 _ rfl; have a1 := h3 1 _ rfl; clear h3; go_simp; (try rfl))⟩, ?_⟩
        refine ⟨_, .inl ⟨rfl, fun w' hw' => (by obtain ⟨h1, h2, h3⟩ := hw'; have a0 := h3 0 _ rfl; have a1 := h3 1 _ rfl; clear h3; go_simp; (try rfl))⟩, ?_⟩
        refine ⟨_, .inl ⟨rfl, fun w' hw' => (by obtain ⟨h1, h2, h3⟩ := hw'; have a0 := h3 0 _ rfl; have a1 := h3 1 _ rfl; clear h3; go_simp; (try rfl))⟩, ?_⟩
        refine ⟨_, .inl ⟨rfl, fun w' hw' => (by obtain ⟨h1, h2, h3⟩ := hw'; have a0 := h3 0 _ rfl; have a1 := h3 1 _ rfl; clear h3; go_simp; (try rfl))⟩, ?_⟩
        refine ⟨_, .inl ⟨rfl, fun w' hw' => (by obtain ⟨h1, h2, h3⟩ := hw'; have a0 := h3 0 _ rfl; have a1 := h3 1 _ rfl; clear h3; go_simp; (try rfl))⟩, ?_⟩
        refine ⟨_, .inl ⟨rfl, fun w' hw' => (by obtain ⟨h1, h2, h3⟩ := hw'; have a0 := h3 0 _ rfl; have a1 := h3 1 _ rfl; clear h3; go_simp; (try rfl))⟩, ?_⟩
        refine ⟨_, .inl ⟨rfl, fun w' hw' => (by obtain ⟨h1, h2, h3⟩ := hw'; have a0 := h3 0 _ rfl; have a1 := h3 1 _ rfl; clear h3; go_simp; (try rfl))⟩, ?_⟩
        refine ⟨_, .inl ⟨rfl, fun w' hw' => (by obtain ⟨h1, h2, h3⟩ := hw'; have a0 := h3 0 _ rfl; have a1 := h3 1 _ rfl; clear h3; go_simp; (try rfl))⟩, ?_⟩
        refine ⟨_, .inl ⟨rfl, fun w' hw' => (by obtain ⟨h1, h2, h3⟩ := hw'; have a0 := h3 0 _ rfl; have a1 := h3 1 _ rfl; clear h3; go_simp; (try rfl))⟩, ?_⟩
        refine ⟨_, .inl ⟨rfl, fun w' hw' => (by obtain ⟨h1, h2, h3⟩ := hw'; have a0 := h3 0 _ rfl; have a1 := h3 1 _ rfl; clear h3; go_simp; (try rfl))⟩, ?_⟩
        rw [wpHead_nil]
        rw [wpMid_cons]
        refine ⟨rfl, ?_⟩
        simp only [Act.put, List.setIfInBounds_toArray, List.set_cons_succ, List.set_cons_zero]
        refine wp_one_chg (.tmp 45) rfl r (by rw [hr]; rfl) ?_
        have hbA : Below w6.heap.size w6 (w6.drew.alloc (.cells r.cells.toArray 81)) := (Below.refl _ _).drew.alloc (Nat.le_refl _) _
        have hMl : w.heap.size + 1 < w6.heap.size := MD6.out.bx.lt
        have hbl : b < w6.heap.size := block_lt_of_cell t0
        refine ⟨⟨(hbA.cell (p := ⟨w.heap.size + 1, 0, none⟩) hMl).trans m0, (hbA.cell (p := ⟨b, _, none⟩) hbl).trans t0, rangeAt_keep y0.rg (hbA.block _ y0.lt)⟩, ?_⟩
        rw [wpMid_cons]
        refine ⟨rfl, ?_⟩
        simp only [Act.put, List.setIfInBounds_toArray, List.set_cons_succ, List.set_cons_zero]
        obtain ⟨i0, hi, hz, hz1, hz2⟩ := info_parts info_chg
        have hmd1 := (MD6.out.below ((Below.refl _ _).drew.alloc (Nat.le_refl _) (.cells r.cells.toArray 81)))
        have hbs := MD6.out.mv.size
        refine wp_append_lies (w6.drew.alloc (.cells r.cells.toArray 81)) (.tmp 35) (.tmp 46) 34 rfl w3.heap.size 81 i0 _ 3 40 Try.underlying34 hi hz hz1 hz2 rfl (by omega) v acc.length (acc.flatMap Ch.cells) rfl hmd1.own ⟨w6.heap.size, 0, none⟩ 1 1 r.cells rfl rfl (World.news_of_block (heap_alloc_new w6.drew _)) (by intro u hu; exact ch_one [r] u (by simpa using hu)) (by omega) (by unfold maxLen; omega) (by omega) (by simp; omega) (w6.heap.size + 1) (by simp) ?_
        intro g2 c9 w8 hown5 hg5 hat5 hlt5
        have hg6 : (w6.alloc (.cells r.cells.toArray 81)).grownBy w8 v.ownBlock := ⟨hg5.os, hg5.tape, hg5.output, hg5.size, hg5.block⟩
        obtain ⟨hb1, hmd3, hkf, hmv3⟩ := MD6.out.app (W := w6) (tmp := .cells r.cells.toArray 81) hown5 hg6
        have hown := MD6.out.own
        have hown' := OWL.out
        have hkb : ∀ y, y < w6.heap.size → (y < w3.heap.size ∨ wr.heap.size ≤ y) → w8.heap[y]? = w6.heap[y]? := fun y hy hy2 => (hg6.block y (by simp; omega) (fun e => by have := hown' y e.symm; omega)).trans (Below.heap_alloc w6 _ y hy)
        refine ⟨⟨hb1.cell, (World.cell?_of_block (a := ⟨b, _, none⟩) (hkb b hbl (.inl (by have := HB3.out; omega)))).trans t0, rangeAt_keep y0.rg (hkb _ y0.lt (.inr (by have := HZ.out; omega)))⟩, ?_⟩
        rw [wpMid_nil]
        have x0 := hb1.cell
        have x1 := hb1.frozen
        have HM3 := Lib.hid hmd3
        clear hmd3 hkf hmv3 hown5 hg5 hg6 hat5 hlt5 hb1 hown hkb hbA hMl hbl hmd1 hbs m0 t0 y0 hi hz hz1 hz2 hown'
        simp only [Act.put, List.setIfInBounds_toArray, List.set_cons_succ, List.set_cons_zero]
        go_wp2
        refine NoPanic.normal ?_
        clear x0 x1
        go_wp2_with fail
        go_roundw
        case rel => exact ⟨k + 1, _, acc ++ [r], by omega, by rw [List.length_append]; simp; omega, by go_num, Lib.hid (by rw [HT.out, hr]; simp [tkW, HPK.out]), Lib.hid (by rw [List.length_append, List.flatMap_append]; exact (by simpa using HM3.out))⟩
        case measure => simp [intOf]; omega
      · have dd0 : (wh == (0 : Int)) = false := by simpa using h0
        by_cases h2 : wh = 2
        · subst h2
          have HPK := Lib.hid (show pickW 2 x = x.t by rfl)
          have dd2 : ((2 : Int) == 2) = true := rfl
          go_upto_region 10 with fail
          clear u0 u1 u2 u5 u6
          have Y6 : Hid (Lies ((wx.setCell ⟨wr.heap.size, 0, none⟩ (.bool x.t.is)).setCell ⟨wr.heap.size, 1, none⟩ (.string x.t.t)) wr.heap.size 2 x.t.cells) := Lib.hid (lies_set2 LX.out v0 v1)
          have GX6 : Hid (Below wr.heap.size wr ((wx.setCell ⟨wr.heap.size, 0, none⟩ (.bool x.t.is)).setCell ⟨wr.heap.size, 1, none⟩ (.string x.t.t))) := Lib.hid ((BX.out.setCell (p := ⟨wr.heap.size, 0, none⟩) (Nat.le_refl _) _).setCell (p := ⟨wr.heap.size, 1, none⟩) (Nat.le_refl _) _)
          clear v0 v1 f0 f1
          generalize (wx.setCell ⟨wr.heap.size, 0, none⟩ (.bool x.t.is)).setCell ⟨wr.heap.size, 1, none⟩ (.string x.t.t) = w6 at Y6 GX6 ⊢
          have MD6 := Lib.hid (hmd.out.below GX6.out)
          have m0 := MD6.out.bx.cell
          obtain ⟨q0, -⟩ := show wr.cell? ⟨b, o + k * 7, none⟩ = some (.string x.p) ∧ True from ⟨HC0.out, trivial⟩
          have t0 := (GX6.out.cell (p := ⟨b, o + k * 7, none⟩) HR0.out).trans q0
          clear q0
          have y0 := Y6.out
          obtain ⟨sx, hsx⟩ : ∃ sx, x.t = sx := ⟨_, rfl⟩
          rw [hsx] at y0 HPK
          obtain ⟨r, hr⟩ : ∃ r : Ch, r = ⟨x.p, sx.is, sx.t⟩ := ⟨_, rfl⟩
          obtain ⟨M, hM⟩ : ∃ M, wr.heap.size = M := ⟨_, rfl⟩
          rw [hM] at y0 ⊢
          have HZ := Lib.hid (show wr.heap.size ≤ M by omega)
          clear Y6 hsx hM
          refine wp_region_bar 12 14 (fun w' => w'.cell? ⟨w.heap.size + 1, 0, none⟩ = some v ∧ w'.cell? ⟨b, o + k * 7, none⟩ = some (.string x.p) ∧ w'.rangeAt M 0 sx.cells) (by kernel_rfl) (by kernel_rfl) ⟨m0, t0, y0.rg⟩ ?_
          simp only [List.take_succ_cons, List.take_zero, List.drop_succ_cons, List.drop_zero]
          refine ⟨_, .inl ⟨rfl, fun w' hw' => (by obtain ⟨h1, h2, h3⟩ := hw'; have a0 := h3 0 _ rfl; have a1 := h3 1 _ rfl; clear h3; go_simp; (try rfl))⟩, ?_⟩
          refine ⟨_, .inl ⟨rfl, fun w' hw' => (by obtain ⟨h1, h2, h3⟩ := hw'; have a0 := h3 0 _ rfl; have a1 := h3 1 _ rfl; clear h3; go_simp; (try rfl))⟩, ?_⟩
          refine ⟨_, .inl ⟨rfl, fun w' hw' => (by obtain ⟨h1, h2, h3⟩ := hw'; have a0 := h3 0 _ rfl; have a1 := h3 1 _ rfl; clear h3; go_simp; (try rfl))⟩, ?_⟩
          refine ⟨_, .inl ⟨rfl, fun w' hw' => (by obtain ⟨h1, h2, h3⟩ := hw'; have a0 := h3 0 _ rfl; have a1 := h3 1 _ rfl; clear h3; go_simp; (try rfl))⟩, ?_⟩
          refine ⟨_, .inl ⟨rfl, fun w' hw' => (by obtain ⟨h1, h2, h3⟩ := hw'; have a0 := h3 0 _ rfl; have a1 := h3 1 _ rfl; clear h3; go_simp; (try rfl))⟩, ?_⟩
          refine ⟨_, .inl ⟨rfl, fun w' hw' => (by obtain ⟨h1, h2, h3⟩ := hw'; have a0 := h3 0 _ rfl; have a1 := h3 1 _ rfl; clear h3; go_simp; (try rfl))⟩, ?_⟩
          refine ⟨_, .inl ⟨rfl, fun w' hw' => (by obtain ⟨h1, h2, h3⟩ := hw'; have a0 := h3 0 _ rfl; have a1 := h3 1 _ rfl; clear h3; go_simp; (try rfl))⟩, ?_⟩
          refine ⟨_, .inl ⟨rfl, fun w' hw' => (by obtain ⟨h1, h2, h3⟩ := hw'; have a0 := h3 0 _ rfl; have a1 := h3 1 _ rfl; clear h3; go_simp; (try rfl))⟩, ?_⟩
          refine ⟨_, .inl ⟨rfl, fun w' hw' => (by obtain ⟨h1, h2, h3⟩ := hw'; have a0 := h3 0 _ rfl; have a1 := h3 1 _ rfl; clear h3; go_simp; (try rfl))⟩, ?_⟩
          refine ⟨_, .inl ⟨rfl, fun w' hw' => (by obtain ⟨h1, h2, h3⟩ := hw'; have a0 := h3 0 _ rfl; have a1 := h3 1 _ rfl; clear h3; go_simp; (try rfl))⟩, ?_⟩
          refine ⟨_, .inl ⟨rfl, fun w' hw' => (by obtain ⟨h1, h2, h3⟩ := hw'; have a0 := h3 0 _ rfl; have a1 := h3 1 _ rfl; clear h3; go_simp; (try rfl))⟩, ?_⟩
          refine ⟨_, .inl ⟨rfl, fun w' hw' => (by obtain ⟨h1, h2, h3⟩ := hw'; have a0 := h3 0 _ rfl; have a1 := h3 1 _ rfl; clear h3; go_simp; (try rfl))⟩, ?_⟩
          rw [wpHead_nil]
          rw [wpMid_cons]
          refine ⟨rfl, ?_⟩
          simp only [Act.put, List.setIfInBounds_toArray, List.set_cons_succ, List.set_cons_zero]
          refine wp_one_chg (.tmp 45) rfl r (by rw [hr]; rfl) ?_
          have hbA : Below w6.heap.size w6 (w6.drew.alloc (.cells r.cells.toArray 81)) := (Below.refl _ _).drew.alloc (Nat.le_refl _) _
          have hMl : w.heap.size + 1 < w6.heap.size := MD6.out.bx.lt
          have hbl : b < w6.heap.size := block_lt_of_cell t0
          refine ⟨⟨(hbA.cell (p := ⟨w.heap.size + 1, 0, none⟩) hMl).trans m0, (hbA.cell (p := ⟨b, _, none⟩) hbl).trans t0, rangeAt_keep y0.rg (hbA.block _ y0.lt)⟩, ?_⟩
          rw [wpMid_cons]
          refine ⟨rfl, ?_⟩
          simp only [Act.put, List.setIfInBounds_toArray, List.set_cons_succ, List.set_cons_zero]
          obtain ⟨i0, hi, hz, hz1, hz2⟩ := info_parts info_chg
          have hmd1 := (MD6.out.below ((Below.refl _ _).drew.alloc (Nat.le_refl _) (.cells r.cells.toArray 81)))
          have hbs := MD6.out.mv.size
          refine wp_append_lies (w6.drew.alloc (.cells r.cells.toArray 81)) (.tmp 35) (.tmp 46) 34 rfl w3.heap.size 81 i0 _ 3 40 Try.underlying34 hi hz hz1 hz2 rfl (by omega) v acc.length (acc.flatMap Ch.cells) rfl hmd1.own ⟨w6.heap.size, 0, none⟩ 1 1 r.cells rfl rfl (World.news_of_block (heap_alloc_new w6.drew _)) (by intro u hu; exact ch_one [r] u (by simpa using hu)) (by omega) (by unfold maxLen; omega) (by omega) (by simp; omega) (w6.heap.size + 1) (by simp) ?_
          intro g2 c9 w8 hown5 hg5 hat5 hlt5
          have hg6 : (w6.alloc (.cells r.cells.toArray 81)).grownBy w8 v.ownBlock := ⟨hg5.os, hg5.tape, hg5.output, hg5.size, hg5.block⟩
          obtain ⟨hb1, hmd3, hkf, hmv3⟩ := MD6.out.app (W := w6) (tmp := .cells r.cells.toArray 81) hown5 hg6
          have hown := MD6.out.own
          have hown' := OWL.out
          have hkb : ∀ y, y < w6.heap.size → (y < w3.heap.size ∨ wr.heap.size ≤ y) → w8.heap[y]? = w6.heap[y]? := fun y hy hy2 => (hg6.block y (by simp; omega) (fun e => by have := hown' y e.symm; omega)).trans (Below.heap_alloc w6 _ y hy)
          refine ⟨⟨hb1.cell, (World.cell?_of_block (a := ⟨b, _, none⟩) (hkb b hbl (.inl (by have := HB3.out; omega)))).trans t0, rangeAt_keep y0.rg (hkb _ y0.lt (.inr (by have := HZ.out; omega)))⟩, ?_⟩
          rw [wpMid_nil]
          have x0 := hb1.cell
          have x1 := hb1.frozen
          have HM3 := Lib.hid hmd3
          clear hmd3 hkf hmv3 hown5 hg5 hg6 hat5 hlt5 hb1 hown hkb hbA hMl hbl hmd1 hbs m0 t0 y0 hi hz hz1 hz2 hown'
          simp only [Act.put, List.setIfInBounds_toArray, List.set_cons_succ, List.set_cons_zero]
          go_wp2
          refine NoPanic.normal ?_
          clear x0 x1
          go_wp2_with fail
          go_roundw
          case rel => exact ⟨k + 1, _, acc ++ [r], by omega, by rw [List.length_append]; simp; omega, by go_num, Lib.hid (by rw [HT.out, hr]; simp [tkW, HPK.out]), Lib.hid (by rw [List.length_append, List.flatMap_append]; exact (by simpa using HM3.out))⟩
          case measure => simp [intOf]; omega
        · have dd2 : (wh == (2 : Int)) = false := by simpa using h2
          have HPK := Lib.hid (show pickW wh x = x.o by unfold pickW; rw [if_neg h0, if_neg h2])
          go_upto_region 10 with fail
          clear u0 u1 u2 u5 u6 v0 v1 f0 f1
          obtain ⟨w6, hw6⟩ : ∃ w6, w6 = wx := ⟨_, rfl⟩
          have Y6 : Hid (Lies w6 wr.heap.size 2 x.o.cells) := Lib.hid (by rw [hw6]; exact LX.out)
          have GX6 : Hid (Below wr.heap.size wr w6) := Lib.hid (by rw [hw6]; exact BX.out)
          rw [← hw6]
          clear hw6
          have MD6 := Lib.hid (hmd.out.below GX6.out)
          have m0 := MD6.out.bx.cell
          obtain ⟨q0, -⟩ := show wr.cell? ⟨b, o + k * 7, none⟩ = some (.string x.p) ∧ True from ⟨HC0.out, trivial⟩
          have t0 := (GX6.out.cell (p := ⟨b, o + k * 7, none⟩) HR0.out).trans q0
          clear q0
          have y0 := Y6.out
          obtain ⟨sx, hsx⟩ : ∃ sx, x.o = sx := ⟨_, rfl⟩
          rw [hsx] at y0 HPK
          obtain ⟨r, hr⟩ : ∃ r : Ch, r = ⟨x.p, sx.is, sx.t⟩ := ⟨_, rfl⟩
          obtain ⟨M, hM⟩ : ∃ M, wr.heap.size = M := ⟨_, rfl⟩
          rw [hM] at y0 ⊢
          have HZ := Lib.hid (show wr.heap.size ≤ M by omega)
          clear Y6 hsx hM
          refine wp_region_bar 12 14 (fun w' => w'.cell? ⟨w.heap.size + 1, 0, none⟩ = some v ∧ w'.cell? ⟨b, o + k * 7, none⟩ = some (.string x.p) ∧ w'.rangeAt M 0 sx.cells) (by kernel_rfl) (by kernel_rfl) ⟨m0, t0, y0.rg⟩ ?_
          simp only [List.take_succ_cons, List.take_zero, List.drop_succ_cons, List.drop_zero]
          refine ⟨_, .inl ⟨rfl, fun w' hw' => (by obtain ⟨h1, h2, h3⟩ := hw'; have a0 := h3 0 _ rfl; have a1 := h3 1 _ rfl; clear h3; go_simp; (try rfl))⟩, ?_⟩
          refine ⟨_, .inl ⟨rfl, fun w' hw' => (by obtain ⟨h1, h2, h3⟩ := hw'; have a0 := h3 0 _ rfl; have a1 := h3 1 _ rfl; clear h3; go_simp; (try rfl))⟩, ?_⟩
          refine ⟨_, .inl ⟨rfl, fun w' hw' => (by obtain ⟨h1, h2, h3⟩ := hw'; have a0 := h3 0 _ rfl; have a1 := h3 1 _ rfl; clear h3; go_simp; (try rfl))⟩, ?_⟩
          refine ⟨_, .inl ⟨rfl, fun w' hw' => (by obtain ⟨h1, h2, h3⟩ := hw'; have a0 := h3 0 _ rfl; have a1 := h3 1 _ rfl; clear h3; go_simp; (try rfl))⟩, ?_⟩
          refine ⟨_, .inl ⟨rfl, fun w' hw' => (by obtain ⟨h1, h2, h3⟩ := hw'; have a0 := h3 0 _ rfl; have a1 := h3 1 _ rfl; clear h3; go_simp; (try rfl))⟩, ?_⟩
          refine ⟨_, .inl ⟨rfl, fun w' hw' => (by obtain ⟨h1, h2, h3⟩ := hw'; have a0 := h3 0 _ rfl; have a1 := h3 1 _ rfl; clear h3; go_simp; (try rfl))⟩, ?_⟩
          refine ⟨_, .inl ⟨rfl, fun w' hw' => (by obtain ⟨h1, h2, h3⟩ := hw'; have a0 := h3 0 _ rfl; have a1 := h3 1 _ rfl; clear h3; go_simp; (try rfl))⟩, ?_⟩
          refine ⟨_, .inl ⟨rfl, fun w' hw' => (by obtain ⟨h1, h2, h3⟩ := hw'; have a0 := h3 0 _ rfl; have a1 := h3 1 _ rfl; clear h3; go_simp; (try rfl))⟩, ?_⟩
          refine ⟨_, .inl ⟨rfl, fun w' hw' => (by obtain ⟨h1, h2, h3⟩ := hw'; have a0 := h3 0 _ rfl; have a1 := h3 1 _ rfl; clear h3; go_simp; (try rfl))⟩, ?_⟩
          refine ⟨_, .inl ⟨rfl, fun w' hw' => (by obtain ⟨h1, h2, h3⟩ := hw'; have a0 := h3 0 _ rfl; have a1 := h3 1 _ rfl; clear h3; go_simp; (try rfl))⟩, ?_⟩
          refine ⟨_, .inl ⟨rfl, fun w' hw' => (by obtain ⟨h1, h2, h3⟩ := hw'; have a0 := h3 0 _ rfl; have a1 := h3 1 _ rfl; clear h3; go_simp; (try rfl))⟩, ?_⟩
          refine ⟨_, .inl ⟨rfl, fun w' hw' => (by obtain ⟨h1, h2, h3⟩ := hw'; have a0 := h3 0 _ rfl; have a1 := h3 1 _ rfl; clear h3; go_simp; (try rfl))⟩, ?_⟩
          rw [wpHead_nil]
          rw [wpMid_cons]
          refine ⟨rfl, ?_⟩
          simp only [Act.put, List.setIfInBounds_toArray, List.set_cons_succ, List.set_cons_zero]
          refine wp_one_chg (.tmp 45) rfl r (by rw [hr]; rfl) ?_
          have hbA : Below w6.heap.size w6 (w6.drew.alloc (.cells r.cells.toArray 81)) := (Below.refl _ _).drew.alloc (Nat.le_refl _) _
          have hMl : w.heap.size + 1 < w6.heap.size := MD6.out.bx.lt
          have hbl : b < w6.heap.size := block_lt_of_cell t0
          refine ⟨⟨(hbA.cell (p := ⟨w.heap.size + 1, 0, none⟩) hMl).trans m0, (hbA.cell (p := ⟨b, _, none⟩) hbl).trans t0, rangeAt_keep y0.rg (hbA.block _ y0.lt)⟩, ?_⟩
          rw [wpMid_cons]
          refine ⟨rfl, ?_⟩
          simp only [Act.put, List.setIfInBounds_toArray, List.set_cons_succ, List.set_cons_zero]
          obtain ⟨i0, hi, hz, hz1, hz2⟩ := info_parts info_chg
          have hmd1 := (MD6.out.below ((Below.refl _ _).drew.alloc (Nat.le_refl _) (.cells r.cells.toArray 81)))
          have hbs := MD6.out.mv.size
          refine wp_append_lies (w6.drew.alloc (.cells r.cells.toArray 81)) (.tmp 35) (.tmp 46) 34 rfl w3.heap.size 81 i0 _ 3 40 Try.underlying34 hi hz hz1 hz2 rfl (by omega) v acc.length (acc.flatMap Ch.cells) rfl hmd1.own ⟨w6.heap.size, 0, none⟩ 1 1 r.cells rfl rfl (World.news_of_block (heap_alloc_new w6.drew _)) (by intro u hu; exact ch_one [r] u (by simpa using hu)) (by omega) (by unfold maxLen; omega) (by omega) (by simp; omega) (w6.heap.size + 1) (by simp) ?_
          intro g2 c9 w8 hown5 hg5 hat5 hlt5
          have hg6 : (w6.alloc (.cells r.cells.toArray 81)).grownBy w8 v.ownBlock := ⟨hg5.os, hg5.tape, hg5.output, hg5.size, hg5.block⟩
          obtain ⟨hb1, hmd3, hkf, hmv3⟩ := MD6.out.app (W := w6) (tmp := .cells r.cells.toArray 81) hown5 hg6
          have hown := MD6.out.own
          have hown' := OWL.out
          have hkb : ∀ y, y < w6.heap.size → (y < w3.heap.size ∨ wr.heap.size ≤ y) → w8.heap[y]? = w6.heap[y]? := fun y hy hy2 => (hg6.block y (by simp; omega) (fun e => by have := hown' y e.symm; omega)).trans (Below.heap_alloc w6 _ y hy)
          refine ⟨⟨hb1.cell, (World.cell?_of_block (a := ⟨b, _, none⟩) (hkb b hbl (.inl (by have := HB3.out; omega)))).trans t0, rangeAt_keep y0.rg (hkb _ y0.lt (.inr (by have := HZ.out; omega)))⟩, ?_⟩
          rw [wpMid_nil]
          have x0 := hb1.cell
          have x1 := hb1.frozen
          have HM3 := Lib.hid hmd3
          clear hmd3 hkf hmv3 hown5 hg5 hg6 hat5 hlt5 hb1 hown hkb hbA hMl hbl hmd1 hbs m0 t0 y0 hi hz hz1 hz2 hown'
          simp only [Act.put, List.setIfInBounds_toArray, List.set_cons_succ, List.set_cons_zero]
          go_wp2
          refine NoPanic.normal ?_
          clear x0 x1
          go_wp2_with fail
          go_roundw
          case rel => exact ⟨k + 1, _, acc ++ [r], by omega, by rw [List.length_append]; simp; omega, by go_num, Lib.hid (by rw [HT.out, hr]; simp [tkW, HPK.out]), Lib.hid (by rw [List.length_append, List.flatMap_append]; exact (by simpa using HM3.out))⟩
          case measure => simp [intOf]; omega
    · obtain rfl : k = n := by omega
      have hd : decide ((k : Int) < (k : Int)) = false := by simp
      have hz3 := B3.out.2
      have HF : Hid (l.map (tkW wh) = acc) := Lib.hid (by have := hacc.out; rwa [List.take_of_length_le (by omega)] at this)
      have hW0 : Below w3.heap.size w3 wr ∨ True := .inr trivial
      have hW1 : Below (w.heap.size + 1) w3 wr := hmd.out.mv.below (fun x hx => by have e : x = w.heap.size + 1 := hx; omega) (by omega)
      have GR := Lib.hid (show Below w.heap.size w wr from B3.out.1.trans (hW1.mono (by omega)))
      have XR := Lib.hid (X2.out.below hW1 (by omega))
      have m0 := hmd.out.bx.cell
      have x0 := XR.out.cell (j := 0) rfl
      have x1 := XR.out.frozen (j := 0) (by omega)
      obtain ⟨A9, c9, rfl⟩ := own_shape hmd.out.own
      have HG := Lib.hid (show w.heap.size < w3.heap.size by omega)
      clear hW0 hW1 hacc
      go_wp2_with fail
      have HF1 := World.cell?_setCell_same' wr ⟨w.heap.size, 0, none⟩ (.slice A9 acc.length c9) (by rw [x0]; rfl)
      have HO1 := ownsRow_setCell_below hmd.out.own (a := ⟨w.heap.size, 0, none⟩) HG.out (.slice A9 acc.length c9)
      have HBQ := Lib.hid (GR.out.setCell (p := ⟨w.heap.size, 0, none⟩) (by show w.heap.size ≤ w.heap.size; omega) (.slice A9 acc.length c9))
      have HQO := Lib.hid (own_sq HO1 ch_sz (by omega))
      clear HO1 x0 x1 m0
      refine bodyPost_ret (results_cell_mid rfl _ _ w.heap.size 0 [.slice A9 acc.length c9] _ rfl ?_ Try.underlying36 rfl (by show _ = some 1; kernel_rfl)) rfl ⟨⟨A9, acc.length, c9, rfl, by rw [HF.out]; exact HQO.out⟩, HBQ.out⟩
      intro j u hu
      rcases j with _ | j
      · obtain rfl : _ = u := by simpa using hu
        exact HF1
      · simp at hu
end Go.Proofs.Ytkdmlffnkomdhaa
namespace Go.Proofs.Ytkdmlffnkomdhaa
set_option linter.unusedVariables false
set_option linter.unusedSimpArgs false
open Go.RowKit Go.WideShapes Go.ChangeShapes Go.Deep
attribute [local irreducible] wpQuiet

set_option maxRecDepth 100000 in
set_option maxHeartbeats 1600000 in
theorem own7_any {w : World} {A : Option Addr} {n c : Nat} {l : List Rw} (h : SqR w w.heap.size A n c l) (hn : n ≤ 1000000) :
    Calls Try.prog 36 #[.agg #[.slice A n c]] w fun e w' => ∃ A' c', e = .returned (.agg #[.slice A' n c']) ∧ w'.ownsRow w.heap.size 70 2 (.slice A' n c') n (l.flatMap Rw.cells) ∧ Below w.heap.size w w' := by
  obtain ⟨i0, hi, hz, hz1, hz2⟩ := info_parts info_row
  obtain ⟨w2, hw2⟩ : ∃ w2, (w.alloc (.cells #[.slice A n c] 24)).alloc (.cells #[.slice none 0 0] 24) = w2 := ⟨_, rfl⟩
  have B2 : Hid (Below w.heap.size w w2) := Lib.hid (by rw [← hw2]; exact ((Below.refl _ _).alloc (Nat.le_refl _) _).alloc (by simp) _)
  have X0 : Hid (Lies w2 w.heap.size 1 [.slice A n c]) := Lib.hid (by rw [← hw2]; exact (Lies.new w [.slice A n c] 24).alloc _)
  have X1 : Hid (Lies w2 (w.heap.size + 1) 1 [.slice none 0 0]) := Lib.hid (by
    rw [← hw2]
    have := Lies.new (w.alloc (.cells #[.slice A n c] 24)) [.slice none 0 0] 24
    rwa [World.size_alloc] at this)
  have Z2 : Hid (w2.heap.size = w.heap.size + 2) := Lib.hid (by rw [← hw2]; simp)
  have HS := Lib.hid (h.below B2.out)
  have HW := Lib.hid hw2
  clear hw2 h
  obtain ⟨w3, hw3⟩ : ∃ w3, w2.alloc (.cells #[] 70) = w3 := ⟨_, rfl⟩
  have B3 : Below w2.heap.size w2 w3 := by rw [← hw3]; exact (Below.refl _ _).alloc (Nat.le_refl _) _
  have h0 : w3.ownsRow w2.heap.size 70 2 (.slice (some ⟨w2.heap.size, 0, none⟩) 0 0) 0 ([].flatMap Rw.cells) := by
    rw [← hw3]
    exact World.ownsRow_made (base := w2.heap.size) (e := 70) (size := 2) w2 #[] 0 (Nat.le_refl _) (Nat.zero_le _) rfl
  have HB3 := Lib.hid B3
  have ht1 := HS.out.below (B3.mono B2.out.size)
  have hsz3 : w2.heap.size ≤ w3.heap.size := B3.size
  have HW3 := Lib.hid hw3
  clear hw3 B3
  go_enter Try.func36, Try.ntmps36
  go_upto_region 1 with fail
  rw [HW.out]
  clear HW
  have q0 := (X0.out.below HB3.out (by rw [Z2.out]; omega)).cell (j := 0) rfl
  rw [← HW3.out] at q0
  go_wp2_with
    first
    | (at_builtin; rw [HW3.out]; refine wpList_append_sq rfl (.tmp 3) (.tmp 5) 22 rfl w2.heap.size 70 i0 _ _ Try.underlying22 hi hz hz1 hz2 (by simp [Value.cells]) (by omega) _ 0 [] rfl h0 rfl ht1 (rw_one l) (by omega) (by omega) hsz3 ?_; intro v1 w4 hown hg; obtain ⟨A', c', rfl⟩ := own_shape hown; rw [Nat.zero_add] at hown ⊢; rw [List.nil_append] at hown; have B4 := HB3.out.trans (below_of_only (g := w2.heap.size) (B := w2.heap.size) hg (Nat.le_refl _) hsz3); have x0 := (X1.out.below B4 (by rw [Z2.out]; omega)).cell (j := 0) rfl; have x1 := (X1.out.below B4 (by rw [Z2.out]; omega)).frozen (j := 0) (by omega); have HOWN := Lib.hid hown; have HB4 := Lib.hid B4; clear hown hg B4)
    | fail
  have HF := World.cell?_setCell_same' w4 ⟨w.heap.size + 1, 0, none⟩ (.slice A' n c') (by rw [x0]; rfl)
  have HO1 := ownsRow_setCell_below HOWN.out (a := ⟨w.heap.size + 1, 0, none⟩) (by show w.heap.size + 1 < _; rw [Z2.out]; omega) (.slice A' n c')
  have HO2 := own_base (base' := w.heap.size) HO1 (by rw [Z2.out]; omega)
  have HBB := (B2.out.trans (HB4.out.mono B2.out.size)).setCell (p := ⟨w.heap.size + 1, 0, none⟩) (by show w.heap.size ≤ w.heap.size + 1; omega) (.slice A' n c')
  have HQ := Lib.hid HO2
  have HBQ := Lib.hid HBB
  clear HO1 HO2 HBB x0 x1
  refine bodyPost_ret (results_cell_mid rfl _ _ (w.heap.size + 1) 0 [.slice A' n c'] _ rfl ?_ Try.underlying24 rfl (by show _ = some 1; kernel_rfl)) rfl ⟨A', c', rfl, HQ.out, HBQ.out⟩
  intro j u hu
  rcases j with _ | j
  · obtain rfl : _ = u := by simpa using hu
    exact HF
  · simp at hu


theorem own_puts {W : World} {base k n b : Nat} {e : TypeId} {v : Value} {xs : List Value} (h : W.ownsRow base e k v n xs) (hb : b < base) (l : List Value) : (W.setCells b 0 l).ownsRow base e k v n xs := by
  rcases h with ⟨h1, h2 | ⟨g, cap, cur, h2, h3, h4, h5⟩⟩
  · exact ⟨h1, .inl h2⟩
  · exact ⟨h1, .inr ⟨g, cap, cur, h2, h3, by rw [(setCells_os b l 0 W).2.2.2.2 g (by omega)]; exact h4, h5⟩⟩
/-- Rows behind one's own: nil, empty or not; as a step of its own. -/
theorem wp_append_sq {α : Type} {f : α → List Value} {k : Nat} {P : Program} {w : World} {o : Oper} {a : Act} {K : Act → World → Prop} {Q : Exit → Act → World → Prop} (s x : Operand) (t : TypeId)
    (ho : o.op = .call { callee := .builtin .append, args := #[s, x], argTypes := #[t, t] })
    (base : Nat) (e : TypeId) (i : TypeInfo) (z : Value) (bytes : Nat) (ht : P.underlying t = some (.slice e)) (hi : P.info? e = some i) (hz : i.zero = some z) (hsize : i.size = k) (hby : i.bytes = bytes) (hzs : z.cells.size = k) (hk : 0 < k)
    (v : Value) (n : Nat) (l0 : List α) (hs : a.eval s = v) (hown : w.ownsRow base e k v n (l0.flatMap f))
    {B : Nat} {A : Option Addr} {m c : Nat} {l : List α} (hx : a.eval x = .slice A m c) (hr : Sq f k w B A m c l) (h1 : ∀ u ∈ l.flatMap f, u.oneCell' = true) (h63 : n + m ≤ 1000000) (hb : bytes ≤ 1000) (hbase : base ≤ w.heap.size)
    (h : ∀ v' w', w'.ownsRow base e k v' (n + m) ((l0 ++ l).flatMap f) → w.grownBy w' v.ownBlock → K (a.put o.dst v') w') : o.wp P a w K Q := by
  rcases A with _ | ad
  · obtain rfl : c = 0 := by have := hr.non rfl; omega
    obtain rfl : m = 0 := by have := hr.cap; omega
    obtain rfl : l = [] := List.eq_nil_of_length_eq_zero hr.len
    have hrun := run_append_owned_none (P := P) (w := w) base t o.type e i k ht hi v n _ hown
    unfold Oper.wp
    simp [execOp, ho, resolve, invoke, builtin, hs, hx, hrun, Result.andThen]
    exact h v w (by simpa using hown) (only_refl _ _)
  · have hc : ∀ j u, (l.flatMap f)[j]? = some u → w.cell? (ad.add j) = some u := by
      intro j u hu
      rcases Nat.eq_zero_or_pos m with h0 | h0
      · subst h0
        obtain rfl : l = [] := List.eq_nil_of_length_eq_zero hr.len
        simp at hu
      · obtain ⟨b, o', e', hlt, hc⟩ := hr.pos h0
        injection e' with e'
        subst e'
        rw [addr_add]
        exact hc j u hu
    refine wp_append_own w s x t ho base e i z k bytes ht hi hz hsize hby hzs hk v n _ hs hown ad m c (l.flatMap f) hx (by rw [flat_len hr.sz, hr.len]) hc h1 (by unfold maxLen; omega) (Nat.le_trans (Nat.mul_le_mul h63 hb) (by omega)) hbase fun v' w' h2 h3 _ => h v' w' (by rw [List.flatMap_append]; exact h2) h3

set_option maxRecDepth 100000 in
set_option maxHeartbeats 4000000 in
theorem copied7_any {w : World} {A1 : Option Addr} {n1 c1 : Nat} {l1 : List Rw} (h1 : SqR w w.heap.size A1 n1 c1 l1) (hm1 : n1 ≤ 1000000) {A2 : Option Addr} {n2 c2 : Nat} {l2 : List Rw} (h2 : SqR w w.heap.size A2 n2 c2 l2) (hm2 : n2 ≤ 1000000) {A3 : Option Addr} {n3 c3 : Nat} {l3 : List Rw} (h3 : SqR w w.heap.size A3 n3 c3 l3) (hm3 : n3 ≤ 1000000) :
    Calls Try.prog 11 #[.agg #[.slice A1 n1 c1, .slice A2 n2 c2, .slice A3 n3 c3]] w fun e w' => (∃ D1 d1 D2 d2 D3 d3, e = .returned (.agg #[.slice D1 n1 d1, .slice D2 n2 d2, .slice D3 n3 d3]) ∧ SqR w' w'.heap.size D1 n1 d1 l1 ∧ SqR w' w'.heap.size D2 n2 d2 l2 ∧ SqR w' w'.heap.size D3 n3 d3 l3) ∧ Below w.heap.size w w' := by
  obtain ⟨w0, hw0⟩ : ∃ w0, ((w.alloc (.cells #[.slice A1 n1 c1, .slice A2 n2 c2, .slice A3 n3 c3] 26)).alloc (.cells #[.slice none 0 0, .slice none 0 0, .slice none 0 0] 26)) = w0 := ⟨_, rfl⟩
  have B0 : Hid (Below w.heap.size w w0 ∧ w0.heap.size = w.heap.size + 1 + 1) := Lib.hid (by rw [← hw0]; exact ⟨((Below.refl _ _).alloc (Nat.le_refl _) _).alloc (by simp) _, by simp⟩)
  have X0 : Hid (Lies w0 w.heap.size 3 [.slice A1 n1 c1, .slice A2 n2 c2, .slice A3 n3 c3]) := Lib.hid (by rw [← hw0]; exact (Lies.new w [.slice A1 n1 c1, .slice A2 n2 c2, .slice A3 n3 c3] 26).alloc _)
  have X1 : Hid (Lies w0 (w.heap.size + 1) 3 [.slice none 0 0, .slice none 0 0, .slice none 0 0]) := Lib.hid (by
    rw [← hw0]
    have h := Lies.new (w.alloc (.cells #[.slice A1 n1 c1, .slice A2 n2 c2, .slice A3 n3 c3] 26)) [.slice none 0 0, .slice none 0 0, .slice none 0 0] 26
    rwa [World.size_alloc] at h)
  have HS1 : Hid (∀ W, Below w0.heap.size w0 W → SqR W W.heap.size A1 n1 c1 l1) := Lib.hid fun W hW => (h1.below (B0.out.1.trans (hW.mono B0.out.1.size))).more (Nat.le_trans B0.out.1.size hW.size)
  have HS2 : Hid (∀ W, Below w0.heap.size w0 W → SqR W W.heap.size A2 n2 c2 l2) := Lib.hid fun W hW => (h2.below (B0.out.1.trans (hW.mono B0.out.1.size))).more (Nat.le_trans B0.out.1.size hW.size)
  have HS3 : Hid (∀ W, Below w0.heap.size w0 W → SqR W W.heap.size A3 n3 c3 l3) := Lib.hid fun W hW => (h3.below (B0.out.1.trans (hW.mono B0.out.1.size))).more (Nat.le_trans B0.out.1.size hW.size)
  have HQ : Hid (∀ W, Below w0.heap.size w0 W → W.cell? ⟨w.heap.size, 0, none⟩ = some (.slice A1 n1 c1) ∧ W.cell? ⟨w.heap.size, 1, none⟩ = some (.slice A2 n2 c2) ∧ W.cell? ⟨w.heap.size, 2, none⟩ = some (.slice A3 n3 c3)) := Lib.hid fun W hW =>
    ⟨(X0.out.below hW X0.out.lt).cell (j := 0) rfl, (X0.out.below hW X0.out.lt).cell (j := 1) rfl, (X0.out.below hW X0.out.lt).cell (j := 2) rfl⟩
  have HW := Lib.hid hw0
  clear hw0 h1 h2 h3
  go_enter Try.func11, Try.ntmps11
  go_upto_region 1 with fail
  rw [HW.out]
  clear HW
  go_upto_region 2 with fail
  refine wp_region_noPanic ?_
  refine wp_region_held_drew (S := (fun w' => Lies w' w.heap.size 3 [.slice A1 n1 c1, .slice A2 n2 c2, .slice A3 n3 c3])) (by kernel_rfl) (X0.out.below (Below.refl w0.heap.size w0).drew X0.out.lt) (fun _ => ?_)
  refine wpAnyH_take (i := 0) rfl (by kernel_rfl) (by kernel_rfl) (by kernel_rfl) (fun _ _ _ h => h) (.inl ⟨rfl, fun w' hw' => (by have q0 := hw'.cell (j := 0) rfl; have q1 := hw'.cell (j := 1) rfl; have q2 := hw'.cell (j := 2) rfl; clear hw'; go_simp; (try rfl))⟩) (X0.out.below (Below.refl w0.heap.size w0).drew X0.out.lt) ?_
  simp only [List.getElem_toArray, List.getElem_cons_zero, List.getElem_cons_succ, Act.put, List.setIfInBounds_toArray, List.set_cons_succ, List.set_cons_zero]
  refine wpAnyH_take (i := 1) rfl (by kernel_rfl) (by kernel_rfl) (by kernel_rfl) (fun _ _ _ h => h) (.inl ⟨rfl, fun w' hw' => (by have q0 := hw'.cell (j := 0) rfl; have q1 := hw'.cell (j := 1) rfl; have q2 := hw'.cell (j := 2) rfl; clear hw'; go_simp; (try rfl))⟩) (X0.out.below (Below.refl w0.heap.size w0).drew X0.out.lt) ?_
  simp only [List.getElem_toArray, List.getElem_cons_zero, List.getElem_cons_succ, Act.put, List.setIfInBounds_toArray, List.set_cons_succ, List.set_cons_zero]
  refine wpAnyH_take (i := 2) rfl (by kernel_rfl) (by kernel_rfl) (by kernel_rfl) (fun _ _ _ h => h) (.inl ⟨rfl, fun w' hw' => (by have q0 := hw'.cell (j := 0) rfl; have q1 := hw'.cell (j := 1) rfl; have q2 := hw'.cell (j := 2) rfl; clear hw'; go_simp; (try rfl))⟩) (X0.out.below (Below.refl w0.heap.size w0).drew X0.out.lt) ?_
  simp only [List.getElem_toArray, List.getElem_cons_zero, List.getElem_cons_succ, Act.put, List.setIfInBounds_toArray, List.set_cons_succ, List.set_cons_zero]
  refine wpAnyH_take (i := 4) rfl (by kernel_rfl) (by kernel_rfl) (by kernel_rfl) (fun _ _ _ h => h) (.inl ⟨rfl, fun w' hw' => (by have q0 := hw'.cell (j := 0) rfl; have q1 := hw'.cell (j := 1) rfl; have q2 := hw'.cell (j := 2) rfl; clear hw'; go_simp; (try rfl))⟩) (X0.out.below (Below.refl w0.heap.size w0).drew X0.out.lt) ?_
  simp only [List.getElem_toArray, List.getElem_cons_zero, List.getElem_cons_succ, Act.put, List.setIfInBounds_toArray, List.set_cons_succ, List.set_cons_zero]
  refine wpAnyH_take (i := 5) rfl (by kernel_rfl) (by kernel_rfl) (by kernel_rfl) (fun _ _ _ h => h) (.inl ⟨rfl, fun w' hw' => (by have q0 := hw'.cell (j := 0) rfl; have q1 := hw'.cell (j := 1) rfl; have q2 := hw'.cell (j := 2) rfl; clear hw'; go_simp; (try rfl))⟩) (X0.out.below (Below.refl w0.heap.size w0).drew X0.out.lt) ?_
  simp only [List.getElem_toArray, List.getElem_cons_zero, List.getElem_cons_succ, Act.put, List.setIfInBounds_toArray, List.set_cons_succ, List.set_cons_zero]
  refine wpAnyH_take (i := 6) rfl (by kernel_rfl) (by kernel_rfl) (by kernel_rfl) (fun _ _ _ h => h) (.inl ⟨rfl, fun w' hw' => (by have q0 := hw'.cell (j := 0) rfl; have q1 := hw'.cell (j := 1) rfl; have q2 := hw'.cell (j := 2) rfl; clear hw'; go_simp; (try rfl))⟩) (X0.out.below (Below.refl w0.heap.size w0).drew X0.out.lt) ?_
  simp only [List.getElem_toArray, List.getElem_cons_zero, List.getElem_cons_succ, Act.put, List.setIfInBounds_toArray, List.set_cons_succ, List.set_cons_zero]
  refine wpAnyH_take (i := 8) rfl (by kernel_rfl) (by kernel_rfl) (by kernel_rfl) (fun _ _ _ h => h) (.inl ⟨rfl, fun w' hw' => (by have q0 := hw'.cell (j := 0) rfl; have q1 := hw'.cell (j := 1) rfl; have q2 := hw'.cell (j := 2) rfl; clear hw'; go_simp; (try rfl))⟩) (X0.out.below (Below.refl w0.heap.size w0).drew X0.out.lt) ?_
  simp only [List.getElem_toArray, List.getElem_cons_zero, List.getElem_cons_succ, Act.put, List.setIfInBounds_toArray, List.set_cons_succ, List.set_cons_zero]
  refine wpAnyH_take (i := 9) rfl (by kernel_rfl) (by kernel_rfl) (by kernel_rfl) (fun _ _ _ h => h) (.inl ⟨rfl, fun w' hw' => (by have q0 := hw'.cell (j := 0) rfl; have q1 := hw'.cell (j := 1) rfl; have q2 := hw'.cell (j := 2) rfl; clear hw'; go_simp; (try rfl))⟩) (X0.out.below (Below.refl w0.heap.size w0).drew X0.out.lt) ?_
  simp only [List.getElem_toArray, List.getElem_cons_zero, List.getElem_cons_succ, Act.put, List.setIfInBounds_toArray, List.set_cons_succ, List.set_cons_zero]
  refine wpAnyH_take (i := 10) rfl (by kernel_rfl) (by kernel_rfl) (by kernel_rfl) (fun _ _ _ h => h) (.inl ⟨rfl, fun w' hw' => (by have q0 := hw'.cell (j := 0) rfl; have q1 := hw'.cell (j := 1) rfl; have q2 := hw'.cell (j := 2) rfl; clear hw'; go_simp; (try rfl))⟩) (X0.out.below (Below.refl w0.heap.size w0).drew X0.out.lt) ?_
  simp only [List.getElem_toArray, List.getElem_cons_zero, List.getElem_cons_succ, Act.put, List.setIfInBounds_toArray, List.set_cons_succ, List.set_cons_zero]
  refine wpAnyH_ready (rs := [3]) (by kernel_rfl) (by simp) (AllReadyH.cons rfl (fun K hK => ?_) AllReadyH.nil)
  rw [if_pos (by rfl)]
  refine wp_fn (f := 36) (xs := #[.agg #[.slice A1 n1 c1]]) (by first | (go_simp; done) | (go_simp; rfl)) ((own7_any (HS1.out _ (Below.refl w0.heap.size w0).drew) hm1).mono ?_)
  rintro e u1 ⟨D1, d1, rfl, ho1, hb1⟩
  have BU1 := Lib.hid ((Below.refl w0.heap.size w0).drew.trans (hb1.mono (Below.refl w0.heap.size w0).drew.size))
  have OW1_1 := Lib.hid (own_base ho1 (base' := w0.heap.size) ((Below.refl w0.heap.size w0).drew.size))
  clear ho1 hb1
  refine ⟨_, rfl, hK.out _ _ (X0.out.below BU1.out X0.out.lt) (fun _ => ?_)⟩
  simp only [List.getElem_toArray, List.getElem_cons_zero, List.getElem_cons_succ, Act.put, List.setIfInBounds_toArray, List.set_cons_succ, List.set_cons_zero]
  refine wpAnyH_ready (rs := [7]) (by kernel_rfl) (by simp) (AllReadyH.cons rfl (fun K hK => ?_) AllReadyH.nil)
  rw [if_pos (by rfl)]
  refine wp_fn (f := 36) (xs := #[.agg #[.slice A2 n2 c2]]) (by first | (go_simp; done) | (go_simp; rfl)) ((own7_any (HS2.out _ BU1.out) hm2).mono ?_)
  rintro e u2 ⟨D2, d2, rfl, ho2, hb2⟩
  have BU2 := Lib.hid (BU1.out.trans (hb2.mono BU1.out.size))
  have OW2_2 := Lib.hid (own_base ho2 (base' := w0.heap.size) (BU1.out.size))
  have OW1_2 := Lib.hid (own_below OW1_1.out hb2)
  clear ho2 hb2
  refine ⟨_, rfl, hK.out _ _ (X0.out.below BU2.out X0.out.lt) (fun _ => ?_)⟩
  simp only [List.getElem_toArray, List.getElem_cons_zero, List.getElem_cons_succ, Act.put, List.setIfInBounds_toArray, List.set_cons_succ, List.set_cons_zero]
  refine wpAnyH_ready (rs := [11]) (by kernel_rfl) (by simp) (AllReadyH.cons rfl (fun K hK => ?_) AllReadyH.nil)
  rw [if_pos (by rfl)]
  refine wp_fn (f := 36) (xs := #[.agg #[.slice A3 n3 c3]]) (by first | (go_simp; done) | (go_simp; rfl)) ((own7_any (HS3.out _ BU2.out) hm3).mono ?_)
  rintro e u3 ⟨D3, d3, rfl, ho3, hb3⟩
  have BU3 := Lib.hid (BU2.out.trans (hb3.mono BU2.out.size))
  have OW3_3 := Lib.hid (own_base ho3 (base' := w0.heap.size) (BU2.out.size))
  have OW1_3 := Lib.hid (own_below OW1_2.out hb3)
  have OW2_3 := Lib.hid (own_below OW2_2.out hb3)
  clear ho3 hb3
  refine ⟨_, rfl, hK.out _ _ (X0.out.below BU3.out X0.out.lt) (fun _ => ?_)⟩
  simp only [List.getElem_toArray, List.getElem_cons_zero, List.getElem_cons_succ, Act.put, List.setIfInBounds_toArray, List.set_cons_succ, List.set_cons_zero]
  refine wpAnyH_take (i := 12) rfl (by kernel_rfl) (by kernel_rfl) (by kernel_rfl) (fun _ _ _ h => h) (.inl ⟨rfl, fun w' hw' => (by have q0 := hw'.cell (j := 0) rfl; have q1 := hw'.cell (j := 1) rfl; have q2 := hw'.cell (j := 2) rfl; clear hw'; go_simp; (try rfl))⟩) (X0.out.below BU3.out X0.out.lt) ?_
  simp only [List.getElem_toArray, List.getElem_cons_zero, List.getElem_cons_succ, Act.put, List.setIfInBounds_toArray, List.set_cons_succ, List.set_cons_zero]
  refine wpAnyH_ready (rs := [13]) (by kernel_rfl) (by simp) (AllReadyH.cons rfl (fun K hK => ?_) AllReadyH.nil)
  rw [if_pos (by rfl)]
  obtain ⟨w9, hw9⟩ : ∃ w9, u3.setCells (w.heap.size + 1) 0 [.slice D1 n1 d1, .slice D2 n2 d2, .slice D3 n3 d3] = w9 := ⟨_, rfl⟩
  have XE : Hid (Lies w9 (w.heap.size + 1) 3 [.slice D1 n1 d1, .slice D2 n2 d2, .slice D3 n3 d3]) := Lib.hid (by rw [← hw9]; exact (X1.out.below BU3.out X1.out.lt).set_ rfl)
  have XQ : Hid (Lies w9 w.heap.size 3 [.slice A1 n1 c1, .slice A2 n2 c2, .slice A3 n3 c3]) := Lib.hid (by rw [← hw9]; exact (X0.out.below BU3.out X0.out.lt).kp ((setCells_os _ _ 0 u3).2.2.2.2 _ (by omega)) (by rw [(setCells_os _ _ 0 u3).2.2.2.1]; exact Nat.le_refl _))
  have BE : Hid (Below w.heap.size w w9) := Lib.hid (by rw [← hw9]; exact below_setCells (B0.out.1.trans (BU3.out.mono B0.out.1.size)) (by omega) _ _)
  have SE1 : Hid (SqR w9 w9.heap.size D1 n1 d1 l1) := Lib.hid (by rw [← hw9]; exact own_sq (own_puts OW1_3.out (by have := B0.out.2; omega) _) rw_sz (by omega))
  have SE2 : Hid (SqR w9 w9.heap.size D2 n2 d2 l2) := Lib.hid (by rw [← hw9]; exact own_sq (own_puts OW2_3.out (by have := B0.out.2; omega) _) rw_sz (by omega))
  have SE3 : Hid (SqR w9 w9.heap.size D3 n3 d3 l3) := Lib.hid (by rw [← hw9]; exact own_sq (own_puts OW3_3.out (by have := B0.out.2; omega) _) rw_sz (by omega))
  refine wp_store_as _ _ _ rfl (w.heap.size + 1) 0 [.slice D1 n1 d1, .slice D2 n2 d2, .slice D3 n3 d3] rfl rfl (X1.out.below BU3.out X1.out.lt).th (by show _ = some 3; kernel_rfl) rfl hw9 ?_
  refine hK.out _ _ XQ.out (fun _ => ?_)
  simp only [List.getElem_toArray, List.getElem_cons_zero, List.getElem_cons_succ, Act.put, List.setIfInBounds_toArray, List.set_cons_succ, List.set_cons_zero]
  refine wpAnyH_done (by kernel_rfl) ?_ _
  refine NoPanic.normal ?_
  clear hw9
  go_wp2_with fail
  refine bodyPost_ret (results_cell_mid rfl _ _ (w.heap.size + 1) 0 [.slice D1 n1 d1, .slice D2 n2 d2, .slice D3 n3 d3] _ rfl XE.out.rg Try.underlying26 rfl (by show _ = some 3; kernel_rfl)) rfl ⟨⟨D1, d1, D2, d2, D3, d3, rfl, SE1.out, SE2.out, SE3.out⟩, BE.out⟩
end Go.Proofs.Ytkdmlffnkomdhaa
