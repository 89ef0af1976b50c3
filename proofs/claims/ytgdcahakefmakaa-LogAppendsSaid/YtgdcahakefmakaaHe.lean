/-
  LOGS, THE DOCUMENT'S ANSWER: entries in memory of their own.
-/
import Derived.Test.YtgdcahakefmakaaHd
namespace Go.Proofs.Ytgdcahakefmakaa
set_option linter.unusedVariables false
set_option linter.unusedSimpArgs false
open Go.RowKit Go.WideShapes Go.ChangeShapes Go.Deep Go.Shelf
attribute [local irreducible] wpQuiet

structure Jr (w : World) (l : List En) (k : Nat) (A : Option Addr) (c : Nat) (W : World) : Prop where
  ex : ∃ l', OwnM W w.heap.size A k c l' ∧ vsE l' = (vsE l).take k
  bel : Below w.heap.size w W
set_option maxRecDepth 100000 in
set_option maxHeartbeats 8000000 in
theorem refEntries_any {w : World} {A : Option Addr} {n c : Nat} {l : List En} (hs : SqE w w.heap.size A n c l) (hn : n ≤ 1000) (heb : ∀ x ∈ l, EnB x) :
    Calls Try.prog 49 #[.slice A n c] w fun e w' => (∃ A' c' l', e = .returned (.slice A' n c') ∧ OwnM w' w.heap.size A' n c' l' ∧ vsE l' = vsE l) ∧ Below w.heap.size w w' := by
  have hlen := hs.len
  have HS := Lib.hid hs
  have HC := Lib.hid hs.s.max
  have HNL := Lib.hid hs.s.le
  have hn63 : (n : Int) ≤ 9223372036854775807 := by have := hs.s.le; unfold maxLen at this; omega
  have HN63 := Lib.hid hn63
  have HEB := Lib.hid heb
  clear hs hn63 heb
  go_enter Try.func49, Try.ntmps49
  go_wp2_with fail
  go_loopw [3, 8] (fun v i wr => ∃ (k : Nat) (A2 : Option Addr) (c2 : Nat), k ≤ n ∧ i = .int .i64 (k : Int) ∧ v = .slice A2 k c2 ∧ Hid (Jr w l k A2 c2 wr)) (fun _ i _ => n - (intOf i).toNat)
  case atStart => exact ⟨0, none, 0, Nat.zero_le _, rfl, rfl, Lib.hid ⟨⟨[], OwnM.nil_ _ _, rfl⟩, Below.refl _ _⟩⟩
  case round =>
    obtain ⟨k, A2, c2, hk, rfl, rfl, hj⟩ := hrel
    have hk0 : (0 : Int) ≤ (k : Int) := Int.natCast_nonneg _
    by_cases hlt : k < n
    · have hd : decide ((k : Int) < (n : Int)) = true := by simp; omega
      have hk1 : (k : Int) < (n : Int) := by omega
      have TW := HS.out.below hj.out.bel
      obtain ⟨b, o, rfl, hbl, hrg⟩ := TW.s.at_ hlt
      have hkl : k < l.length := by omega
      have hxe := TW.e _ (List.getElem_mem hkl)
      obtain ⟨x, hx⟩ : ∃ x, l[k] = x := ⟨_, rfl⟩
      rw [hx] at hrg hxe
      have HMEM := Lib.hid (show x ∈ l by rw [← hx]; exact List.getElem_mem hkl)
      have HRG := Lib.hid (show wr.rangeAt b (o + k * 3) x.cells from hrg)
      have HXE := Lib.hid hxe
      have hwB : w.heap.size ≤ wr.heap.size := hj.out.bel.size
      have HWB0 := Lib.hid hwB
      obtain ⟨wA, hwA⟩ : ∃ wA, wr.alloc (.cells zEn.cells.toArray 44) = wA := ⟨_, rfl⟩
      have YA : Bl wA wr.heap.size 44 zEn.cells := by rw [← hwA]; exact Bl.new wr 44 zEn.cells
      have BA : Below wr.heap.size wr wA := by rw [← hwA]; exact (Below.refl _ _).alloc (Nat.le_refl _) _
      obtain ⟨wB, hwB⟩ : ∃ wB, wA.setCells wr.heap.size 0 x.cells = wB := ⟨_, rfl⟩
      have YB : Bl wB wr.heap.size 44 x.cells := by rw [← hwB]; exact bl_setCells YA rfl
      have BB : Below wr.heap.size wr wB := by rw [← hwB]; exact below_setCells BA (Nat.le_refl _) _ _
      have TA := Lib.hid (show wA.there wr.heap.size 0 3 from YA.th)
      have HWA := Lib.hid hwA
      have HWB := Lib.hid hwB
      have HBB := Lib.hid BB
      have HYB := Lib.hid YB
      have HXV := Lib.hid (show (vsE l)[k]? = some x.v by unfold vsE; rw [List.getElem?_map, List.getElem?_eq_getElem hkl, hx]; rfl)
      clear hrg hxe hx hwA YA BA hwB YB BB TW hbl hlen hkl
      go_upto_region 5 with (first
        | ((with_reducible refine lde (.tmp 10) ?_ ?_ b (o + k * 3) x ?_ HRG.out ?_); rfl; (first | rfl | (go_simp <;> fail)); (first | rfl | go_simp))
        | ((with_reducible refine alt 44 ?_ ?_ zEn.cells zero_en ?_); rfl; (first | rfl | (go_simp <;> fail)); rw [HWA.out]; (try simp only [Act.put, List.setIfInBounds_toArray, List.set_cons_succ, List.set_cons_zero]))
        | ((with_reducible refine ste (.tmp 5) (.tmp 11) ?_ ?_ wr.heap.size 0 x ?_ ?_ TA.out ?_); rfl; (first | rfl | (go_simp <;> fail)); rfl; rfl; rw [HWB.out])
        | fail)
      · have hxn := HXE.out.d.len
        obtain ⟨q, hq⟩ : ∃ q, x.D.n = q := ⟨_, rfl⟩
        have hq0 : (0 : Int) ≤ (q : Int) := Int.natCast_nonneg _
        have hcap := HXE.out.d.cap
        have hq5' : q ≤ 100000 := by
          have h1 := HEB.out _ HMEM.out
          have := h1.2.2
          omega
        obtain ⟨i0, hi0, hz0, hz1, hz2⟩ := info_u8w
        obtain ⟨wC, hwC⟩ : ∃ wC, wB.alloc (.cells #[] 5) = wC := ⟨_, rfl⟩
        have BC : Below wr.heap.size wr wC := by rw [← hwC]; exact HBB.out.alloc HBB.out.size _
        have OC : wC.ownsRow wr.heap.size 5 1 (.slice (some ⟨wB.heap.size, 0, none⟩) 0 0) 0 (bvs []) := by rw [← hwC]; exact World.ownsRow_made (base := wr.heap.size) (e := 5) (size := 1) wB #[] 0 HBB.out.size (Nat.zero_le _) rfl
        have YC : Bl wC wr.heap.size 44 x.cells := by rw [← hwC]; exact HYB.out.alloc _
        have SC : SlB wC w.heap.size x.D.a q x.D.c x.d := by rw [← hq]; exact HXE.out.d.below (BC.mono HWB0.out)
        have HWC := Lib.hid hwC
        have HBC := Lib.hid BC
        have HOC := Lib.hid OC
        have HYC := Lib.hid YC
        have HSC := Lib.hid SC
        have HQ := Lib.hid hq
        have hZ : wr.heap.size < wB.heap.size := HYB.out.lt
        have HZB := Lib.hid hZ
        have hq5 : q ≤ 100000 := hq5'
        have HQ5 := Lib.hid hq5
        have hwr1 : wr.heap.size ≤ wC.heap.size := BC.size
        have HWR1 := Lib.hid hwr1
        clear hwC BC OC YC SC hZ hcap hxn hq5 hq5' hwr1
        have re := run_empty
        have q0 := HYC.out.cell 0
        have q1 := HYC.out.cell 1
        have q2 := HYC.out.cell 2
        simp only [En.cells, List.getElem?_cons_zero, List.getElem?_cons_succ] at q0 q1 q2
        rw [← HWC.out] at q0 q1 q2
        go_upto_region 6 with (first
          | (at_builtin; rw [HWC.out]; refine wpList_append_sl rfl (.tmp 12) (.tmp 14) 42 rfl wr.heap.size 5 i0 Try.underlying42 hi0 hz0 hz1 hz2 _ 0 [] rfl HOC.out rfl HSC.out (by have := HQ5.out; omega) HWR1.out ?_; intro v5 w5 hown5 hg5; rw [Nat.zero_add, List.nil_append] at hown5; obtain ⟨A5, c5, rfl⟩ := own_shape hown5; have HOWN := Lib.hid hown5; have HG5 := Lib.hid (show wC.grownBy w5 (some wB.heap.size) from hg5); have B5 := Lib.hid (HYC.out.grown hg5 (by show some wr.heap.size ≠ some wB.heap.size; have := HZB.out; intro e; injection e; omega)); have b0 := B5.out.cell 0; have b1 := B5.out.cell 1; have b2 := B5.out.cell 2; have f2 := B5.out.frozen 2; simp only [En.cells, List.getElem?_cons_zero, List.getElem?_cons_succ] at b0 b1 b2; clear hown5 hg5 q0 q1 q2)
          | fail)
        obtain ⟨x', hx'⟩ : ∃ x' : En, x' = ⟨x.t, x.k, ⟨A5, q, c5⟩, x.d⟩ := ⟨_, rfl⟩
        obtain ⟨w6, hw6⟩ : ∃ w6, w5.setCell ⟨wr.heap.size, 2, none⟩ (.slice A5 q c5) = w6 := ⟨_, rfl⟩
        have N6 : Bl w6 wr.heap.size 44 [.int .u64 (x.t : Int), .int .i64 x.k, .slice A5 q c5] := by rw [← hw6]; exact B5.out.set_ 2 (.slice A5 q c5)
        have G6 : Below wr.heap.size wr w6 := by
          rw [← hw6]
          exact (HBC.out.grown HG5.out HWR1.out (fun g hg => by
            injection hg with hg
            rw [← hg]
            exact Nat.le_of_lt HZB.out)).trans (below_cell (Nat.le_refl _) (Nat.le_of_lt B5.out.lt))
        have O6 : OwnB w6 wr.heap.size A5 q c5 (x.d) := by rw [← hw6]; exact own_set HOWN.out B5.out (by decide) 2 _
        obtain ⟨w7, hw7⟩ : ∃ w7, w6.alloc (.cells #[.int .u64 (x.t : Int), .int .i64 x.k, .slice A5 q c5] 44) = w7 := ⟨_, rfl⟩
        have G7 : Below wr.heap.size wr w7 := by rw [← hw7]; exact G6.alloc G6.size _
        have O7 : OwnB w7 wr.heap.size A5 q c5 (x.d) := by rw [← hw7]; exact own_below O6 ((Below.refl _ _).alloc (Nat.le_refl _) _)
        obtain ⟨l', h1, h2⟩ := hj.out.ex
        have R7 := (h1.below G7).row
        have HN7 : ∀ j u, x'.cells[j]? = some u → w7.cell? ((⟨w6.heap.size, 0, none⟩ : Addr).add j) = some u := by
          rw [← hw7, hx']
          exact World.news_of_block (heap_alloc_new w6 _)
        have HXB' := Lib.hid (show EnB x' by
          rw [hx']
          exact ⟨HXE.out.t, HXE.out.k, (HEB.out _ HMEM.out).2.2⟩)
        have HXV' := Lib.hid (show x'.v = x.v by rw [hx']; rfl)
        have H1 := Lib.hid h1
        have H2 := Lib.hid h2
        have HN6 := Lib.hid N6
        have HG7 := Lib.hid G7
        have HO7 := Lib.hid O7
        have HR7 := Lib.hid R7
        have HNW := Lib.hid HN7
        have HW7 := Lib.hid hw7
        have HX' := Lib.hid hx'
        rw [hw6]
        have b0 := N6.cell 0
        have b1 := N6.cell 1
        have b2 := N6.cell 2
        simp only [List.getElem?_cons_zero, List.getElem?_cons_succ] at b0 b1 b2
        obtain ⟨i1, hi1, hy, hy1, hy2⟩ := info_parts info_en
        have hkk : k + 1 ≤ 1001 := by omega
        have HKK := Lib.hid hkk
        have hw8 : w.heap.size ≤ w7.heap.size := Nat.le_trans HWB0.out G7.size
        have HW8 := Lib.hid hw8
        clear hw6 N6 G6 O6 hw7 G7 O7 h1 h2 R7 HN7 hx' hq0 hkk hw8
        go_wp2_with (first
          | (at_builtin; rw [HW7.out]; refine wpList_append_own w7 rfl (.tmp 17) (.tmp 19) 25 rfl w.heap.size 44 i1 _ 3 40 Try.underlying25 hi1 hy hy1 hy2 rfl (by omega) (.slice A2 k c2) k (l'.flatMap En.cells) rfl HR7.out ⟨w6.heap.size, 0, none⟩ 1 1 x'.cells rfl (by rw [en_sz]) HNW.out (fun u hu => en_one [x'] u (by simpa using hu)) (by have := HKK.out; unfold maxLen; omega) (by have := HKK.out; omega) HW8.out ?_; intro v8 w8 hown8 hg8 hni8; obtain ⟨A8, c8, rfl⟩ := own_shape hown8; have HJ8 := Lib.hid (show Jr w l (k + 1) A8 c8 w8 from ⟨⟨l' ++ [x'], OwnM.snoc H1.out HG7.out HWB0.out (by rw [HX'.out]; exact HO7.out) HXB'.out (by rw [List.flatMap_append, List.flatMap_cons, List.flatMap_nil, List.append_nil]; exact hown8) hg8, by rw [vsE_app, H2.out, show vsE [x'] = [x'.v] from rfl, HXV'.out, List.take_add_one, HXV.out]; rfl⟩, (hj.out.bel.trans (HG7.out.mono hj.out.bel.size)).grown hg8 (Nat.le_trans HWB0.out HG7.out.size) (fun g hg => (HR7.out.lt g hg).1)⟩); clear hown8 hg8 hni8)
          | fail)
        go_roundw
        case rel => exact ⟨k + 1, A8, c8, by omega, by go_num, rfl, HJ8⟩
        case measure => simp [intOf]; omega
    · have hd : decide ((k : Int) < (n : Int)) = false := by simp; omega
      obtain ⟨l', h1, h2⟩ := hj.out.ex
      have HO := Lib.hid h1
      obtain rfl : n = k := by omega
      have H2 := Lib.hid (show vsE l' = vsE l by
        rw [h2]
        exact List.take_of_length_le (by rw [vsE_len]; omega))
      clear h1 h2
      go_wp2_with fail
      go_ret
      exact ⟨⟨A2, c2, l', rfl, HO.out, H2.out⟩, hj.out.bel⟩
end Go.Proofs.Ytgdcahakefmakaa
