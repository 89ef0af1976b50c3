/-
  STAGE 5's REFERENCE: Apply.
-/
import Derived.Test.YtkdmlffnkomdhaaRd
namespace Go.Proofs.Ytkdmlffnkomdhaa
set_option linter.unusedVariables false
set_option linter.unusedSimpArgs false
open Go.RowKit Go.WideShapes Go.ChangeShapes Go.Deep
attribute [local irreducible] wpQuiet

theorem refA_said (l : List Rw) (l' : List Ch) (s : ByteArray) : refA l l' s = if (findW Ch.p l' s).isSome then (if isC (findW Ch.p l' s) then [⟨s, textC (findW Ch.p l' s)⟩] else []) else if (findW Rw.p l s).isSome then [⟨s, textR (findW Rw.p l s)⟩] else [] := by
  unfold refA
  rcases findW Ch.p l' s with _ | ⟨p, is, t⟩
  · rfl
  · cases is <;> rfl

set_option maxRecDepth 100000 in
set_option maxHeartbeats 4000000 in
theorem refApply_any {w : World} {A : Option Addr} {n c : Nat} {l : List Rw} (h : SqR w w.heap.size A n c l) (hn : n ≤ 1000) {A' : Option Addr} {n' c' : Nat} {l' : List Ch} (h' : SqC w w.heap.size A' n' c' l') (hn' : n' ≤ 1000) :
    Calls Try.prog 28 #[.agg #[.slice A n c], .agg #[.slice A' n' c']] w fun e w' => (∃ A2 n2 c2, e = .returned (.agg #[.slice A2 n2 c2]) ∧ SqR w' w'.heap.size A2 n2 c2 ((pathsW Ch.p (pathsW Rw.p [] l) l').flatMap (refA l l'))) ∧ Below w.heap.size w w' := by
  obtain ⟨w0, hw0⟩ : ∃ w0, ((w.alloc (.cells #[.slice A n c] 24)).alloc (.cells #[.slice A' n' c'] 36)).alloc (.cells #[.slice none 0 0] 24) = w0 := ⟨_, rfl⟩
  have B0 : Hid (Below w.heap.size w w0) := Lib.hid (by rw [← hw0]; exact (((Below.refl _ _).alloc (Nat.le_refl _) _).alloc (by simp) _).alloc (by simp; omega) _)
  have X0 : Hid (Lies w0 w.heap.size 1 [.slice A n c]) := Lib.hid (by rw [← hw0]; exact ((Lies.new w [.slice A n c] 24).alloc _).alloc _)
  have X1 : Hid (Lies w0 (w.heap.size + 1) 1 [.slice A' n' c']) := Lib.hid (by
    rw [← hw0]
    have := (Lies.new (w.alloc (.cells #[.slice A n c] 24)) [.slice A' n' c'] 36).alloc (.cells #[.slice none 0 0] 24)
    rwa [World.size_alloc] at this)
  have X2 : Hid (Lies w0 (w.heap.size + 1 + 1) 1 [.slice none 0 0]) := Lib.hid (by
    rw [← hw0]
    have := Lies.new ((w.alloc (.cells #[.slice A n c] 24)).alloc (.cells #[.slice A' n' c'] 36)) [.slice none 0 0] 24
    rwa [World.size_alloc, World.size_alloc] at this)
  have HSa : Hid (∀ W, Below w.heap.size w W → SqR W W.heap.size A n c l) := Lib.hid fun W hW => (h.below hW).more hW.size
  have HSb : Hid (∀ W, Below w.heap.size w W → SqC W W.heap.size A' n' c' l') := Lib.hid fun W hW => (h'.below hW).more hW.size
  have HQ : Hid (∀ W, Below w0.heap.size w0 W → W.cell? ⟨w.heap.size, 0, none⟩ = some (.slice A n c) ∧ W.cell? ⟨w.heap.size + 1, 0, none⟩ = some (.slice A' n' c')) := Lib.hid fun W hW =>
    ⟨(X0.out.below hW X0.out.lt).cell (j := 0) rfl, (X1.out.below hW X1.out.lt).cell (j := 0) rfl⟩
  have HW := Lib.hid hw0
  have hl := h.len
  have hl' := h'.len
  have HLp := Lib.hid hl'
  obtain ⟨qs, hqs⟩ : ∃ qs, pathsW Rw.p [] l = qs := ⟨_, rfl⟩
  obtain ⟨ps, hps⟩ : ∃ ps, pathsW Ch.p qs l' = ps := ⟨_, rfl⟩
  have HQS := Lib.hid hqs
  have HPS := Lib.hid hps
  rw [hqs, hps]
  clear hw0 h h' hps hqs
  go_enter Try.func28, Try.ntmps28
  go_upto_region 1 with fail
  rw [HW.out]
  clear HW
  obtain ⟨q0, q1⟩ := HQ.out _ (Below.refl _ _)
  go_wp2_with fail
  refine (refPaths_any (Sq.nil_ sc_sz) (show 0 ≤ 10000 by omega) (HSa.out _ B0.out) (show n ≤ 10000 by omega)).mono ?_
  rintro e w1 ⟨⟨A1, n1, c1, rfl, hn1, hsq1⟩, hb1⟩
  have SQ1 : Hid (SqS w1 w1.heap.size A1 n1 c1 qs) := Lib.hid (by rw [← HQS.out]; exact hsq1)
  have G1 := Lib.hid hb1
  have hn1' : n1 ≤ 1000 := by omega
  clear hb1 hsq1 q0 q1 hn1
  go_wp2_with fail
  go_loopw [5, 6] (fun ov i wr => ∃ (k n2 : Nat) (A2 : Option Addr) (c2 : Nat), k ≤ n' ∧ n2 ≤ 1000 + k ∧ ov = .slice A2 n2 c2 ∧ i = .int .i64 (k : Int) ∧ Hid (SqS wr wr.heap.size A2 n2 c2 (pathsW Ch.p qs (l'.take k))) ∧ Hid (Below w0.heap.size w0 wr)) (fun _ i _ => n' - (intOf i).toNat)
  case atStart => exact ⟨0, n1, A1, c1, Nat.zero_le _, by omega, rfl, rfl, SQ1, G1⟩
  case round =>
    obtain ⟨k, n2, A2, c2, hk, hn2, rfl, rfl, hsq, hb⟩ := hrel
    obtain ⟨q0, q1⟩ := HQ.out _ hb.out
    by_cases hlt : k < n'
    · have hd : decide ((k : Int) < (n' : Int)) = true := by simp; omega
      have hk0 : (0 : Int) ≤ (k : Int) := Int.natCast_nonneg _
      have hk1 : (k : Int) < (n' : Int) := by omega
      obtain ⟨b, o, rfl, hbl, hrg⟩ := (HSb.out _ (B0.out.trans (hb.out.mono B0.out.size))).at_ hlt
      obtain ⟨r, hr⟩ : ∃ r, l'[k]'(by omega) = r := ⟨_, rfl⟩
      rw [hr] at hrg
      have r0 : wr.cell? ⟨b, o + k * 3, none⟩ = some (.string r.p) := hrg 0 _ rfl
      have HT : Hid (pathsW Ch.p qs (l'.take (k + 1)) = withW (pathsW Ch.p qs (l'.take k)) r.p) := Lib.hid (by rw [pathsW_take (by omega), hr])
      have HLN : Hid ((pathsW Ch.p qs (l'.take k)).length = n2) := Lib.hid hsq.out.len
      clear hrg hr hbl
      go_wp2_with fail
      refine (With_any hsq.out (by omega) r.p).mono ?_
      rintro e w2 ⟨⟨A3, n3, c3, rfl, hsq3⟩, hb2⟩
      have G2 := Lib.hid (hb.out.trans (hb2.mono hb.out.size))
      have hn3 : n3 ≤ n2 + 1 := by
        have h1 := withW_len (pathsW Ch.p qs (l'.take k)) r.p
        rw [hsq3.len, HLN.out] at h1
        exact h1
      have SQ3 := Lib.hid (show SqS w2 w2.heap.size A3 n3 c3 (pathsW Ch.p qs (l'.take (k + 1))) by rw [HT.out]; exact hsq3)
      clear hb2 hsq3 r0 q0 q1
      go_wp2_with fail
      go_roundw
      case rel => exact ⟨k + 1, n3, A3, c3, by omega, by omega, rfl, by go_num, SQ3, G2⟩
      case measure => simp [intOf]; omega
    · have hd : decide ((k : Int) < (n' : Int)) = false := by simp; omega
      obtain rfl : n' = k := by omega
      obtain ⟨w2, hwr⟩ : ∃ w2, w2 = wr := ⟨_, rfl⟩
      have G2 : Hid (Below w0.heap.size w0 w2) := by rw [hwr]; exact hb
      have SP : Hid (SqS w2 w2.heap.size A2 n2 c2 ps) := Lib.hid (by have := hsq.out; rw [← HLp.out, List.take_length, HPS.out] at this; rw [hwr]; exact this)
      have hn52 : n2 ≤ 2000 := by omega
      have hlp := SP.out.len
      rw [← hwr] at q1 ⊢
      clear hwr hb hsq q0
      obtain ⟨w3, hw3⟩ : ∃ w3, w2.alloc (.cells #[.slice none 0 0] 24) = w3 := ⟨_, rfl⟩
      have MD0 : Hid (Md w3 w2.heap.size 24 70 2 (.slice none 0 0) 0 [] w3) := Lib.hid ⟨by rw [← hw3]; exact Boxed.new _ _ _, ⟨rfl, .inl ⟨rfl, rfl⟩⟩, Mv.refl _ _, by rw [← hw3]; simp⟩
      have G3 := Lib.hid (show Below w0.heap.size w0 w3 by rw [← hw3]; exact G2.out.alloc G2.out.size _)
      have G23 := Lib.hid (show Below w2.heap.size w2 w3 by rw [← hw3]; exact (Below.refl _ _).alloc (Nat.le_refl _) _)
      have HW3 := Lib.hid hw3
      have HK := Lib.hid hn2
      clear hw3 hn2 hk hlt
      go_upto_region 7 with fail
      clear hd q1
      rw [HW3.out]
      clear HW3
      go_wp2_with fail
      go_loopw [8] (fun i wr => ∃ (j : Nat) (v : Value) (acc : List Rw), j ≤ n2 ∧ acc.length ≤ j ∧ i = .int .i64 (j : Int) ∧ Hid ((ps.take j).flatMap (refA l l') = acc) ∧ Hid (Md w3 w2.heap.size 24 70 2 v acc.length (acc.flatMap Rw.cells) wr)) (fun i _ => n2 - (intOf i).toNat)
      case atStart => exact ⟨0, _, [], Nat.zero_le _, by simp, rfl, Lib.hid rfl, MD0⟩
      case round =>
        obtain ⟨k, v, acc, hk, hac, rfl, hacc, hmd⟩ := hrel
        by_cases hlt : k < n2
        · have hd : decide ((k : Int) < (n2 : Int)) = true := by simp; omega
          have hk0 : (0 : Int) ≤ (k : Int) := Int.natCast_nonneg _
          have hk1 : (k : Int) < (n2 : Int) := by omega
          obtain ⟨b, o, rfl, hbl, hrg⟩ := (SP.out.below G23.out).at_ hlt
          obtain ⟨s, hs⟩ : ∃ s, ps[k]'(by omega) = s := ⟨_, rfl⟩
          rw [hs] at hrg
          have hG2s := G2.out.size
          have hG3s := G23.out.size
          have hx0 := X0.out.lt
          have hx1 := X1.out.lt
          have hW0 : Below w2.heap.size w3 wr := hmd.out.mv.below (fun x hx => by have e : x = w2.heap.size := hx; omega) hG3s
          have GR := Lib.hid (show Below w0.heap.size w0 wr from G3.out.trans (hW0.mono hG2s))
          have HB3 := Lib.hid (show b < w3.heap.size by omega)
          have R0 := Lib.hid (show wr.cell? ⟨b, o + k, none⟩ = some (.string s) by have := hrg 0 _ rfl; rw [show o + k * 1 + 0 = o + k by omega] at this; exact (hW0.cell (p := ⟨b, o + k, none⟩) hbl).trans this)
          have HQ6 : Hid (∀ W, Below wr.heap.size wr W → W.cell? ⟨w.heap.size, 0, none⟩ = some (.slice A n c) ∧ W.cell? ⟨w.heap.size + 1, 0, none⟩ = some (.slice A' n' c') ∧ W.cell? ⟨b, o + k, none⟩ = some (.string s)) := Lib.hid fun W hW =>
            ⟨(HQ.out _ (GR.out.trans (hW.mono GR.out.size))).1, (HQ.out _ (GR.out.trans (hW.mono GR.out.size))).2, (hW.cell (p := ⟨b, o + k, none⟩) (block_lt_of_cell R0.out)).trans R0.out⟩
          have HT : Hid ((ps.take (k + 1)).flatMap (refA l l') = acc ++ refA l l' s) := Lib.hid (by rw [flat_take (by omega), hacc.out, hs])
          clear hrg hs hW0 hacc
          have hbz := Below.refl wr.heap.size wr
          obtain ⟨q0, q1, s0⟩ := HQ6.out _ hbz
          have HU := Lib.hid (show ∀ W, Below wr.heap.size wr W → Below w.heap.size w W from fun W hW => (B0.out.trans (GR.out.mono B0.out.size)).trans (hW.mono (Nat.le_trans B0.out.size GR.out.size)))
          go_wp2_with fail
          go_region_held3 (fun w' => w'.cell? ⟨w.heap.size, 0, none⟩ = some (.slice A n c) ∧ w'.cell? ⟨w.heap.size + 1, 0, none⟩ = some (.slice A' n' c') ∧ w'.cell? ⟨b, o + k, none⟩ = some (.string s) ∧ Below wr.heap.size wr w')
            (first | exact ⟨q0, q1, s0, hbz.drew⟩ | with_reducible exact K5.out | fail)
            (first
              | (go_at_call 50; have T := refGet_any (HSa.out _ (HU.out _ hbz.drew)) (show n ≤ 1000000 by omega) s; with_reducible refine Calls.mono T ?_; clear T; rintro e w5 ⟨rfl, hb4⟩; have hb5 := (show Below wr.heap.size wr w5 from hbz.drew.trans (hb4.mono hbz.drew.size)); have K5 := Lib.hid (show w5.cell? ⟨w.heap.size, 0, none⟩ = some (.slice A n c) ∧ w5.cell? ⟨w.heap.size + 1, 0, none⟩ = some (.slice A' n' c') ∧ w5.cell? ⟨b, o + k, none⟩ = some (.string s) ∧ Below wr.heap.size wr w5 from ⟨(HQ6.out _ hb5).1, (HQ6.out _ hb5).2.1, (HQ6.out _ hb5).2.2, hb5⟩); clear hb4 hb5)
              | fail)
          clear q0 q1 s0
          obtain ⟨q0, q1, s0, hb55⟩ := K5.out
          go_wp2_with fail
          go_region_held3 (fun w' => w'.cell? ⟨w.heap.size, 0, none⟩ = some (.slice A n c) ∧ w'.cell? ⟨w.heap.size + 1, 0, none⟩ = some (.slice A' n' c') ∧ w'.cell? ⟨b, o + k, none⟩ = some (.string s) ∧ Below wr.heap.size wr w')
            (first | exact ⟨q0, q1, s0, hb55.drew⟩ | with_reducible exact K6.out | fail)
            (first
              | (go_at_call 47; have T := refSaid_any (HSb.out _ (HU.out _ hb55.drew)) (show n' ≤ 1000000 by omega) s; with_reducible refine Calls.mono T ?_; clear T; rintro e w6 ⟨rfl, hb4⟩; have hb5 := (show Below wr.heap.size wr w6 from hb55.drew.trans (hb4.mono hb55.drew.size)); have K6 := Lib.hid (show w6.cell? ⟨w.heap.size, 0, none⟩ = some (.slice A n c) ∧ w6.cell? ⟨w.heap.size + 1, 0, none⟩ = some (.slice A' n' c') ∧ w6.cell? ⟨b, o + k, none⟩ = some (.string s) ∧ Below wr.heap.size wr w6 from ⟨(HQ6.out _ hb5).1, (HQ6.out _ hb5).2.1, (HQ6.out _ hb5).2.2, hb5⟩); clear hb4 hb5)
              | fail)
          clear q0 q1 s0 hb55 K5
          obtain ⟨q0, q1, s0, hb66⟩ := K6.out
          have MD6 := Lib.hid (hmd.out.below hb66)
          have m0 := MD6.out.bx.cell
          clear q0 q1 hb66 K6
          have hrd := refA_said l l' s
          obtain ⟨xs, hxs⟩ : ∃ xs, (findW Rw.p l s).isSome = xs := ⟨_, rfl⟩
          obtain ⟨ys, hys⟩ : ∃ ys, (findW Ch.p l' s).isSome = ys := ⟨_, rfl⟩
          obtain ⟨zs, hzs⟩ : ∃ zs, isC (findW Ch.p l' s) = zs := ⟨_, rfl⟩
          obtain ⟨tx, htx⟩ : ∃ tx, textR (findW Rw.p l s) = tx := ⟨_, rfl⟩
          obtain ⟨ty, hty⟩ : ∃ ty, textC (findW Ch.p l' s) = ty := ⟨_, rfl⟩
          rw [hxs, hys, hzs, htx, hty] at hrd
          rw [hxs, hys, hzs, htx, hty]
          clear hxs hys hzs htx hty
          cases ys
          · cases xs
            · have HRD := Lib.hid (show refA l l' s = [] by rw [hrd]; rfl)
              clear hrd
              go_wp2_with fail
              go_roundw
              case rel => exact ⟨k + 1, v, acc, by omega, by omega, by go_num, Lib.hid (by rw [HT.out, HRD.out, List.append_nil]), MD6⟩
              case measure => simp [intOf]; omega
            · obtain ⟨r, hr⟩ : ∃ r : Rw, r = ⟨s, tx⟩ := ⟨_, rfl⟩
              have HRD := Lib.hid (show refA l l' s = [r] by rw [hrd, hr]; rfl)
              clear hrd
              go_wp2_with fail
              refine wp_region_bar 8 10 (fun w' => w'.cell? ⟨w2.heap.size, 0, none⟩ = some v ∧ w'.cell? ⟨b, o + k, none⟩ = some (.string s)) (by kernel_rfl) (by kernel_rfl) ⟨m0, s0⟩ ?_
              simp only [List.take_succ_cons, List.take_zero, List.drop_succ_cons, List.drop_zero]
              refine ⟨_, .inl ⟨rfl, fun w' hw' => (by obtain ⟨h1, h2⟩ := hw'; go_simp; (try rfl))⟩, ?_⟩
              refine ⟨_, .inl ⟨rfl, fun w' hw' => (by obtain ⟨h1, h2⟩ := hw'; go_simp; (try rfl))⟩, ?_⟩
              refine ⟨_, .inl ⟨rfl, fun w' hw' => (by obtain ⟨h1, h2⟩ := hw'; go_simp; (try rfl))⟩, ?_⟩
              refine ⟨_, .inl ⟨rfl, fun w' hw' => (by obtain ⟨h1, h2⟩ := hw'; go_simp; (try rfl))⟩, ?_⟩
              refine ⟨_, .inl ⟨rfl, fun w' hw' => (by obtain ⟨h1, h2⟩ := hw'; go_simp; (try rfl))⟩, ?_⟩
              refine ⟨_, .inl ⟨rfl, fun w' hw' => (by obtain ⟨h1, h2⟩ := hw'; go_simp; (try rfl))⟩, ?_⟩
              refine ⟨_, .inl ⟨rfl, fun w' hw' => (by obtain ⟨h1, h2⟩ := hw'; go_simp; (try rfl))⟩, ?_⟩
              refine ⟨_, .inl ⟨rfl, fun w' hw' => (by obtain ⟨h1, h2⟩ := hw'; go_simp; (try rfl))⟩, ?_⟩
              rw [wpHead_nil]
              rw [wpMid_cons]
              refine ⟨rfl, ?_⟩
              simp only [Act.put, List.setIfInBounds_toArray, List.set_cons_succ, List.set_cons_zero]
              refine wp_one_row (.tmp 68) rfl r (by rw [hr]; rfl) ?_
              have hbA : Below w6.heap.size w6 (w6.drew.alloc (.cells r.cells.toArray 70)) := (Below.refl _ _).drew.alloc (Nat.le_refl _) _
              have hMl : w2.heap.size < w6.heap.size := MD6.out.bx.lt
              have hbl : b < w6.heap.size := block_lt_of_cell s0
              refine ⟨⟨(hbA.cell (p := ⟨w2.heap.size, 0, none⟩) hMl).trans m0, (hbA.cell (p := ⟨b, _, none⟩) hbl).trans s0⟩, ?_⟩
              rw [wpMid_cons]
              refine ⟨rfl, ?_⟩
              simp only [Act.put, List.setIfInBounds_toArray, List.set_cons_succ, List.set_cons_zero]
              obtain ⟨i0, hi, hz, hz1, hz2⟩ := info_parts info_row
              have hmd1 := (MD6.out.below ((Below.refl _ _).drew.alloc (Nat.le_refl _) (.cells r.cells.toArray 70)))
              have hbs := MD6.out.mv.size
              refine wp_append_lies (w6.drew.alloc (.cells r.cells.toArray 70)) (.tmp 62) (.tmp 69) 22 rfl w3.heap.size 70 i0 _ 2 32 Try.underlying22 hi hz hz1 hz2 rfl (by omega) v acc.length (acc.flatMap Rw.cells) rfl hmd1.own ⟨w6.heap.size, 0, none⟩ 1 1 r.cells rfl rfl (World.news_of_block (heap_alloc_new w6.drew _)) (by intro u hu; exact rw_one [r] u (by simpa using hu)) (by omega) (by unfold maxLen; omega) (by omega) (by simp; omega) (w6.heap.size + 1) (by simp) ?_
              intro g2 c9 w8 hown5 hg5 hat5 hlt5
              have hg6 : (w6.alloc (.cells r.cells.toArray 70)).grownBy w8 v.ownBlock := ⟨hg5.os, hg5.tape, hg5.output, hg5.size, hg5.block⟩
              obtain ⟨hb1, hmd3, hkf, hmv3⟩ := MD6.out.app (W := w6) (tmp := .cells r.cells.toArray 70) hown5 hg6
              have hown := MD6.out.own
              have hkb : w8.heap[b]? = w6.heap[b]? := (hg6.block b (by simp; omega) (fun e => by have := (hown.lt b e.symm).1; have := HB3.out; omega)).trans (Below.heap_alloc w6 _ b hbl)
              refine ⟨⟨hb1.cell, (World.cell?_of_block (a := ⟨b, _, none⟩) hkb).trans s0⟩, ?_⟩
              rw [wpMid_nil]
              have x0 := hb1.cell
              have x1 := hb1.frozen
              have HM3 := Lib.hid hmd3
              clear hmd3 hkf hmv3 hown5 hg5 hg6 hat5 hlt5 hb1 hown hkb hbA hMl hbl hmd1 hbs m0 s0 hi hz hz1 hz2
              simp only [Act.put, List.setIfInBounds_toArray, List.set_cons_succ, List.set_cons_zero]
              go_wp2
              refine NoPanic.normal ?_
              clear x0 x1
              go_wp2_with fail
              go_roundw
              case rel => exact ⟨k + 1, _, acc ++ [r], by omega, by rw [List.length_append]; simp; omega, by go_num, Lib.hid (by rw [HT.out, HRD.out]), Lib.hid (by rw [List.length_append, List.flatMap_append]; exact (by simpa using HM3.out))⟩
              case measure => simp [intOf]; omega
          · cases zs
            · have HRD := Lib.hid (show refA l l' s = [] by rw [hrd]; rfl)
              clear hrd
              go_wp2_with fail
              go_roundw
              case rel => exact ⟨k + 1, v, acc, by omega, by omega, by go_num, Lib.hid (by rw [HT.out, HRD.out, List.append_nil]), MD6⟩
              case measure => simp [intOf]; omega
            · obtain ⟨r, hr⟩ : ∃ r : Rw, r = ⟨s, ty⟩ := ⟨_, rfl⟩
              have HRD := Lib.hid (show refA l l' s = [r] by rw [hrd, hr]; rfl)
              clear hrd
              go_wp2_with fail
              refine wp_region_bar 8 10 (fun w' => w'.cell? ⟨w2.heap.size, 0, none⟩ = some v ∧ w'.cell? ⟨b, o + k, none⟩ = some (.string s)) (by kernel_rfl) (by kernel_rfl) ⟨m0, s0⟩ ?_
              simp only [List.take_succ_cons, List.take_zero, List.drop_succ_cons, List.drop_zero]
              refine ⟨_, .inl ⟨rfl, fun w' hw' => (by obtain ⟨h1, h2⟩ := hw'; go_simp; (try rfl))⟩, ?_⟩
              refine ⟨_, .inl ⟨rfl, fun w' hw' => (by obtain ⟨h1, h2⟩ := hw'; go_simp; (try rfl))⟩, ?_⟩
              refine ⟨_, .inl ⟨rfl, fun w' hw' => (by obtain ⟨h1, h2⟩ := hw'; go_simp; (try rfl))⟩, ?_⟩
              refine ⟨_, .inl ⟨rfl, fun w' hw' => (by obtain ⟨h1, h2⟩ := hw'; go_simp; (try rfl))⟩, ?_⟩
              refine ⟨_, .inl ⟨rfl, fun w' hw' => (by obtain ⟨h1, h2⟩ := hw'; go_simp; (try rfl))⟩, ?_⟩
              refine ⟨_, .inl ⟨rfl, fun w' hw' => (by obtain ⟨h1, h2⟩ := hw'; go_simp; (try rfl))⟩, ?_⟩
              refine ⟨_, .inl ⟨rfl, fun w' hw' => (by obtain ⟨h1, h2⟩ := hw'; go_simp; (try rfl))⟩, ?_⟩
              refine ⟨_, .inl ⟨rfl, fun w' hw' => (by obtain ⟨h1, h2⟩ := hw'; go_simp; (try rfl))⟩, ?_⟩
              rw [wpHead_nil]
              rw [wpMid_cons]
              refine ⟨rfl, ?_⟩
              simp only [Act.put, List.setIfInBounds_toArray, List.set_cons_succ, List.set_cons_zero]
              refine wp_one_row (.tmp 68) rfl r (by rw [hr]; rfl) ?_
              have hbA : Below w6.heap.size w6 (w6.drew.alloc (.cells r.cells.toArray 70)) := (Below.refl _ _).drew.alloc (Nat.le_refl _) _
              have hMl : w2.heap.size < w6.heap.size := MD6.out.bx.lt
              have hbl : b < w6.heap.size := block_lt_of_cell s0
              refine ⟨⟨(hbA.cell (p := ⟨w2.heap.size, 0, none⟩) hMl).trans m0, (hbA.cell (p := ⟨b, _, none⟩) hbl).trans s0⟩, ?_⟩
              rw [wpMid_cons]
              refine ⟨rfl, ?_⟩
              simp only [Act.put, List.setIfInBounds_toArray, List.set_cons_succ, List.set_cons_zero]
              obtain ⟨i0, hi, hz, hz1, hz2⟩ := info_parts info_row
              have hmd1 := (MD6.out.below ((Below.refl _ _).drew.alloc (Nat.le_refl _) (.cells r.cells.toArray 70)))
              have hbs := MD6.out.mv.size
              refine wp_append_lies (w6.drew.alloc (.cells r.cells.toArray 70)) (.tmp 62) (.tmp 69) 22 rfl w3.heap.size 70 i0 _ 2 32 Try.underlying22 hi hz hz1 hz2 rfl (by omega) v acc.length (acc.flatMap Rw.cells) rfl hmd1.own ⟨w6.heap.size, 0, none⟩ 1 1 r.cells rfl rfl (World.news_of_block (heap_alloc_new w6.drew _)) (by intro u hu; exact rw_one [r] u (by simpa using hu)) (by omega) (by unfold maxLen; omega) (by omega) (by simp; omega) (w6.heap.size + 1) (by simp) ?_
              intro g2 c9 w8 hown5 hg5 hat5 hlt5
              have hg6 : (w6.alloc (.cells r.cells.toArray 70)).grownBy w8 v.ownBlock := ⟨hg5.os, hg5.tape, hg5.output, hg5.size, hg5.block⟩
              obtain ⟨hb1, hmd3, hkf, hmv3⟩ := MD6.out.app (W := w6) (tmp := .cells r.cells.toArray 70) hown5 hg6
              have hown := MD6.out.own
              have hkb : w8.heap[b]? = w6.heap[b]? := (hg6.block b (by simp; omega) (fun e => by have := (hown.lt b e.symm).1; have := HB3.out; omega)).trans (Below.heap_alloc w6 _ b hbl)
              refine ⟨⟨hb1.cell, (World.cell?_of_block (a := ⟨b, _, none⟩) hkb).trans s0⟩, ?_⟩
              rw [wpMid_nil]
              have x0 := hb1.cell
              have x1 := hb1.frozen
              have HM3 := Lib.hid hmd3
              clear hmd3 hkf hmv3 hown5 hg5 hg6 hat5 hlt5 hb1 hown hkb hbA hMl hbl hmd1 hbs m0 s0 hi hz hz1 hz2
              simp only [Act.put, List.setIfInBounds_toArray, List.set_cons_succ, List.set_cons_zero]
              go_wp2
              refine NoPanic.normal ?_
              clear x0 x1
              go_wp2_with fail
              go_roundw
              case rel => exact ⟨k + 1, _, acc ++ [r], by omega, by rw [List.length_append]; simp; omega, by go_num, Lib.hid (by rw [HT.out, HRD.out]), Lib.hid (by rw [List.length_append, List.flatMap_append]; exact (by simpa using HM3.out))⟩
              case measure => simp [intOf]; omega
        · obtain rfl : k = n2 := by omega
          have hd : decide ((k : Int) < (k : Int)) = false := by simp
          have hG2s := G2.out.size
          have hG3s := G23.out.size
          have hx2 := X2.out.lt
          have HF : Hid (ps.flatMap (refA l l') = acc) := Lib.hid (by have := hacc.out; rwa [← hlp, List.take_length] at this)
          have hW0 : Below w2.heap.size w3 wr := hmd.out.mv.below (fun x hx => by have e : x = w2.heap.size := hx; omega) hG3s
          have GR := Lib.hid (show Below w0.heap.size w0 wr from G3.out.trans (hW0.mono hG2s))
          have XR := Lib.hid (X2.out.below GR.out X2.out.lt)
          have m0 := hmd.out.bx.cell
          have x0 := XR.out.cell (j := 0) rfl
          have x1 := XR.out.frozen (j := 0) (by omega)
          obtain ⟨A9, c9, rfl⟩ := own_shape hmd.out.own
          have HG := Lib.hid (show w.heap.size + 1 + 1 < w3.heap.size by omega)
          clear hW0 hacc
          go_wp2_with fail
          have HF1 := World.cell?_setCell_same' wr ⟨w.heap.size + 1 + 1, 0, none⟩ (.slice A9 acc.length c9) (by rw [x0]; rfl)
          have HO1 := ownsRow_setCell_below hmd.out.own (a := ⟨w.heap.size + 1 + 1, 0, none⟩) HG.out (.slice A9 acc.length c9)
          have HBQ := Lib.hid ((B0.out.trans (GR.out.mono B0.out.size)).setCell (p := ⟨w.heap.size + 1 + 1, 0, none⟩) (by show w.heap.size ≤ w.heap.size + 1 + 1; omega) (.slice A9 acc.length c9))
          have HQO := Lib.hid (own_sq HO1 rw_sz (by omega))
          clear HO1 x0 x1 m0
          refine bodyPost_ret (results_cell_mid rfl _ _ (w.heap.size + 1 + 1) 0 [.slice A9 acc.length c9] _ rfl ?_ Try.underlying24 rfl (by show _ = some 1; kernel_rfl)) rfl ⟨⟨A9, acc.length, c9, rfl, by rw [HF.out]; exact HQO.out⟩, HBQ.out⟩
          intro j u hu
          rcases j with _ | j
          · obtain rfl : _ = u := by simpa using hu
            exact HF1
          · simp at hu
end Go.Proofs.Ytkdmlffnkomdhaa
