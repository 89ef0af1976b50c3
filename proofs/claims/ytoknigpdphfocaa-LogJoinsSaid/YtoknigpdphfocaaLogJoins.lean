/-
  PROVED HERE: LogJoins: behind a splice a log has what it was sent, and each place ahead that it had.
-/
import Derived.Test.YtoknigpdphfocaaArg
import Derived.Test.YtoknigpdphfocaaPj
import Derived.Test.YtoknigpdphfocaaRows
import Derived.ProofKit
import Derived.OpenShut
import Derived.ChangeOld
import Derived.Carry
namespace Go.Proofs.Ytoknigpdphfocaa.logJoins
open Go.ChangeShapes Go.WideShapes Go.ChangeAt Go.RowKit Go.Deep Go.Shelf
set_option linter.unusedSimpArgs false
attribute [local irreducible] wpQuiet
set_option linter.unusedVariables false

theorem fld0 (a b : Nat) (w : World) : (Instr.field 24 (atV a b) 0).run Try.prog w = .ok (.int .u64 (a : Int)) w := by kernel_rfl
theorem ag_cells {W : World} {T : TypeId} {b i t n c : Nat} {A : Option Addr} (h : Bl W b T (lgC i t A n c)) : W.cell? ⟨b, 0, none⟩ = some (.int .u64 (i : Int)) ∧ W.cell? ⟨b, 1, none⟩ = some (.int .u64 (t : Int)) ∧ W.cell? ⟨b, 2, none⟩ = some (.slice A n c) := by
  have x0 := h.cell 0
  have x1 := h.cell 1
  have x2 := h.cell 2
  simp only [lgC, atC, List.getElem?_cons_zero, List.getElem?_cons_succ] at x0 x1 x2
  exact ⟨x0, x1, x2⟩
theorem place_lt {w : World} {A : Option Addr} {n c i t k u B : Nat} {l : List En} (h : SqE w B A n c l) (ht : t < 18446744073709551616) (hp : placeW ⟨i, t, vsE l⟩ k = some u) : u < 18446744073709551616 := by
  unfold placeW at hp
  split at hp
  · injection hp with hp
    rw [← hp]; exact ht
  · split at hp
    · have hp' : ((vsE l)[k - i - 1]?).map Ev.t = some u := hp
      unfold vsE at hp'
      rw [List.getElem?_map] at hp'
      rcases hg : l[k - i - 1]? with _ | x
      · rw [hg] at hp'; cases hp'
      · rw [hg] at hp'
        have hp2 : some x.t = some u := hp'
        injection hp2 with hp2
        rw [← hp2]
        exact (h.e x (List.mem_of_getElem? hg)).t
    · cases hp

set_option maxRecDepth 100000 in
set_option maxHeartbeats 20000000 in
theorem walk {w : World} {A : Option Addr} {n c : Nat} {es : List En} (hs : SqE w w.heap.size A n c es) (i t : Nat) (hi : i < 18446744073709551616) (ht : t < 18446744073709551616)
    {A' : Option Addr} {n' c' : Nat} {xs : List En} (hx : SqE w w.heap.size A' n' c' xs) (pi pt : Nat) (hpi : pi < 18446744073709551616) (hpt : pt < 18446744073709551616) :
    Calls Try.prog 7 #[lgV i t A n c, lgV pi pt A' n' c'] w fun e w' => e = .returned (.bool true) ∧ Below w.heap.size w w' := by
  obtain ⟨w1, hw1⟩ : ∃ w1, ((w.alloc (.cells #[.int .u64 (i : Int), .int .u64 (t : Int), .slice A n c] 27)).alloc (.cells #[.int .u64 (pi : Int), .int .u64 (pt : Int), .slice A' n' c'] 32)) = w1 := ⟨_, rfl⟩
  have L0 : Bl w1 (w.heap.size) 27 [.int .u64 (i : Int), .int .u64 (t : Int), .slice A n c] := by
    rw [← hw1]
    have h := Bl.new w 27 [.int .u64 (i : Int), .int .u64 (t : Int), .slice A n c]
    (try simp only [World.size_alloc] at h)
    exact (h.alloc _)
  have L1 : Bl w1 (w.heap.size + 1) 32 [.int .u64 (pi : Int), .int .u64 (pt : Int), .slice A' n' c'] := by
    rw [← hw1]
    have h := Bl.new (w.alloc (.cells #[.int .u64 (i : Int), .int .u64 (t : Int), .slice A n c] 27)) 32 [.int .u64 (pi : Int), .int .u64 (pt : Int), .slice A' n' c']
    (try simp only [World.size_alloc] at h)
    exact h
  have B1 : Below w.heap.size w w1 := by
    rw [← hw1]
    exact (((Below.refl _ _).alloc (by simp <;> omega) _).alloc (by simp <;> omega) _)
  have Z1 : w1.heap.size = w.heap.size + 2 := by rw [← hw1]; simp
  have HW := Lib.hid hw1
  have HB1 := Lib.hid B1
  have HL0 := Lib.hid (show Bl w1 w.heap.size 27 (lgC i t A n c) from L0)
  have HL1 := Lib.hid (show Bl w1 (w.heap.size + 1) 32 (lgC pi pt A' n' c') from L1)
  have HS := Lib.hid (fun (w' : World) (hw : Below w1.heap.size w1 w') => hs.next (Nat.le_refl _) (B1.trans (hw.mono B1.size)))
  have HX := Lib.hid (fun (w' : World) (hw : Below w.heap.size w w') => hx.next (Nat.le_refl _) hw)
  obtain ⟨n1, hn1⟩ : ∃ n1, min 17 n = n1 := ⟨_, rfl⟩
  have h17 : n1 ≤ 17 := by omega
  obtain ⟨m3, hm3⟩ : ∃ m3, min 80 n' = m3 := ⟨_, rfl⟩
  have h80 : m3 ≤ 80 := by omega
  have CSH := Lib.hid (fun (w' : World) (hw : Below w1.heap.size w1 w') => (show Calls Try.prog 11 #[.agg #[.int .u64 (i : Int), .int .u64 (t : Int), .slice A n c]] w' _ from short_any (HS.out w' hw) i t))
  rw [hn1] at CSH
  have CEN := Lib.hid (fun (w' : World) (hw : Below w.heap.size w w') => (show Calls Try.prog 12 #[.slice A' n' c', .int .i64 80] w' _ from entries_any (HX.out w' hw) 80 (by omega)))
  rw [hm3] at CEN
  clear hw1 L0 L1 B1 hs hx hn1 hm3
  go_enter Try.func7, Try.ntmps7
  go_upto_region 1 with fail
  rw [HW.out]
  go_upto_region 3 with (first
    | (go_at_call 10; go_loud (with_reducible refine Calls.mono (wakes_any _) ?_); go_loud (rintro e w2 ⟨rfl, hb2⟩); go_loud (have HB2 := Lib.hid hb2); go_loud (clear hb2))
    | fail)
  obtain ⟨c0, c1, c2⟩ := ag_cells (HL0.out.below HB2.out HL0.out.lt)
  go_upto_region 4 with (first
    | (go_at_call 11; go_loud (with_reducible refine Calls.mono (CSH.out _ HB2.out) ?_); go_loud (rintro e w3 ⟨⟨A1, k1, l1, rfl, ho3, hv3⟩, hb3⟩); go_loud (have HB3 := Lib.hid (HB2.out.trans (hb3.mono HB2.out.size))); go_loud (have HO3 := Lib.hid ho3); go_loud (have HG3 := Lib.hid (show w.heap.size < w2.heap.size from Nat.lt_of_lt_of_le HL0.out.lt HB2.out.size)); go_loud (have HL3 := Lib.hid (HL0.out.below HB3.out HL0.out.lt)); go_loud (clear c0 c1 c2); go_loud (obtain ⟨c0, c1, c2⟩ := ag_cells HL3.out); go_loud (have f0 := HL3.out.frozen 0); go_loud (have f1 := HL3.out.frozen 1); go_loud (have f2 := HL3.out.frozen 2); go_loud (clear ho3 hb3))
    | fail)
  obtain ⟨R1, R2⟩ := res3 (w1 := w) HL3.out (HB1.out.trans (HB3.out.mono HB1.out.size)) (Nat.le_refl _) i t A1 n1 k1
  have R3 := ((HO3.out.far1 (p := ⟨w.heap.size, 0, none⟩) HG3.out (.int .u64 (i : Int))).far1 (p := ⟨w.heap.size, 1, none⟩) HG3.out (.int .u64 (t : Int))).far1 (p := ⟨w.heap.size, 2, none⟩) HG3.out (.slice A1 n1 k1)
  have P3 := HL1.out.below HB3.out HL1.out.lt
  have R4 := ((P3.far (p := ⟨w.heap.size, 0, none⟩) (show w.heap.size + 1 ≠ w.heap.size by omega) (.int .u64 (i : Int))).far (p := ⟨w.heap.size, 1, none⟩) (show w.heap.size + 1 ≠ w.heap.size by omega) (.int .u64 (t : Int))).far (p := ⟨w.heap.size, 2, none⟩) (show w.heap.size + 1 ≠ w.heap.size by omega) (.slice A1 n1 k1)
  obtain ⟨w4, hw4⟩ : ∃ w4, ((w3.setCell ⟨w.heap.size, 0, none⟩ (.int .u64 (i : Int))).setCell ⟨w.heap.size, 1, none⟩ (.int .u64 (t : Int))).setCell ⟨w.heap.size, 2, none⟩ (.slice A1 n1 k1) = w4 := ⟨_, rfl⟩
  rw [hw4] at R1 R2 R3 R4
  rw [hw4]
  have HL4 := Lib.hid R1
  have HB4 := Lib.hid R2
  have HP4 := Lib.hid R4
  have HO4 := Lib.hid R3
  have HLEN := Lib.hid R3.len
  clear R1 R2 R3 R4 P3 hw4 HL3 HO3 c0 c1 c2 f0 f1 f2 HB2 HB3 hv3
  obtain ⟨c0, c1, c2⟩ := ag_cells HL4.out
  obtain ⟨d0, d1, d2⟩ := ag_cells HP4.out
  go_upto_region 5 with (first
    | (go_at_call 12; go_loud (with_reducible refine Calls.mono (CEN.out _ HB4.out) ?_); go_loud (rintro e w5 ⟨⟨A3, k3, l3, rfl, ho5, hv5⟩, hb5⟩); go_loud (have HB5 := Lib.hid hb5); go_loud (have HO5 := Lib.hid ho5); go_loud (clear ho5 hv5 hb5 c0 c1 c2 d0 d1 d2))
    | fail)
  have HL5 := Lib.hid (HL4.out.below HB5.out HL4.out.lt)
  have HP5 := Lib.hid (HP4.out.below HB5.out HP4.out.lt)
  obtain ⟨c0, c1, c2⟩ := ag_cells HL5.out
  obtain ⟨d0, d1, d2⟩ := ag_cells HP5.out
  have S1 := (HO4.out.below HB5.out).sq
  have S3 := HO5.out.sq
  have hl3 : (vsE l3).length = m3 := by rw [vsE_len, HO5.out.len]
  have CS := Lib.hid (show Calls Try.prog 13 #[.agg #[.int .u64 (i : Int), .int .u64 (t : Int), .slice A1 n1 k1], .agg #[.int .u64 (pi : Int), .int .u64 (pt : Int)], .slice A3 m3 k3] w5 _ from Splice_any S1 (by omega) i t hi ht S3 (by omega) pi pt hpi hpt)
  have HS5 := Lib.hid S1
  have HX5 := Lib.hid S3
  clear S1 S3
  rcases splice_ways ⟨i, t, vsE l1⟩ pi pt (vsE l3) with ⟨m, he, hm⟩ | ⟨hR, hM, hH, ⟨nb, nt, ne⟩, he, hG⟩
  · rw [he] at CS
    clear he
    go_upto_region 6 with (first
      | (go_at_call 13; go_loud (with_reducible refine Calls.mono CS.out ?_); go_loud (rintro e w6 ⟨⟨v, rfl, A4, n4, k4, l4, rfl, ho, hv⟩, hb6⟩); go_loud (have HO6 := Lib.hid ho); go_loud (have HV6 := Lib.hid hv); go_loud (have HB6 := Lib.hid hb6); go_loud (clear ho hv hb6))
      | fail)
    obtain rfl : n4 = 0 := by
      have h1 := HO6.out.len
      have h2 := congrArg List.length HV6.out
      rw [vsE_len, h1] at h2
      exact h2
    obtain ⟨w7, hw7⟩ : ∃ w7, w6.alloc (.cells #[.int .u64 (zLg.bi : Int), .int .u64 (zLg.bt : Int), .slice A4 0 k4] 27) = w7 := ⟨_, rfl⟩
    have R6 := Bl.new w6 27 (lgC zLg.bi zLg.bt A4 0 k4)
    have R7 : w6.alloc (.cells (lgC zLg.bi zLg.bt A4 0 k4).toArray 27) = w7 := hw7
    rw [R7] at R6
    have HB7 : Below w5.heap.size w5 w7 := by rw [← hw7]; exact HB6.out.alloc HB6.out.size _
    rw [hw7]
    clear c0 c1 c2 d0 d1 d2
    obtain ⟨c0, c1, c2⟩ := ag_cells R6
    go_wp2_with fail
    go_ret
    exact ⟨rfl, HB4.out.trans ((HB5.out.trans (HB7.mono HB5.out.size)).mono HB4.out.size)⟩
  rw [he] at CS
  obtain rfl : i = nb := hG.bi.symm
  obtain rfl : t = nt := hG.bt.symm
  obtain ⟨z, hz⟩ : ∃ z, pi + (vsE l3).length = z := ⟨_, rfl⟩
  rw [hz] at CS
  go_upto_region 6 with (first
    | (go_at_call 13; go_loud (with_reducible refine Calls.mono CS.out ?_); go_loud (rintro e w6 ⟨⟨v, rfl, A4, n4, k4, l4, rfl, ho, hv⟩, hb6⟩); go_loud (dsimp only at ho hv); go_loud (dsimp only); go_loud (have HO6 := Lib.hid ho); go_loud (have HV6 := Lib.hid hv); go_loud (have HB6 := Lib.hid hb6); go_loud (clear ho hv hb6))
    | fail)
  obtain ⟨w7, hw7⟩ : ∃ w7, w6.alloc (.cells #[.int .u64 (i : Int), .int .u64 (t : Int), .slice A4 n4 k4] 27) = w7 := ⟨_, rfl⟩
  have R6 := Bl.new w6 27 (lgC i t A4 n4 k4)
  have R7 : w6.alloc (.cells (lgC i t A4 n4 k4).toArray 27) = w7 := hw7
  rw [R7] at R6
  have HB7 := Lib.hid (show Below w5.heap.size w5 w7 by rw [← hw7]; exact HB6.out.alloc HB6.out.size _)
  have R8 := HO6.out.below (w' := w7) (by rw [← hw7]; exact (Below.refl _ _).alloc (Nat.le_refl _) _)
  rw [hw7]
  have hL5 := HL5.out.below HB7.out HL5.out.lt
  have hP5 := HP5.out.below HB7.out HP5.out.lt
  have NINE := Lib.hid (fun (w' : World) (hw : Below w7.heap.size w7 w') => And.intro (ag_cells (hL5.below hw hL5.lt)) (And.intro (ag_cells (hP5.below hw hP5.lt)) (ag_cells (R6.below hw R6.lt))))
  have HS1 := Lib.hid (fun (w' : World) (hw : Below w7.heap.size w7 w') => HS5.out.next (Nat.le_refl _) (HB7.out.trans (hw.mono HB7.out.size)))
  have HS3 := Lib.hid (fun (w' : World) (hw : Below w7.heap.size w7 w') => HX5.out.next (Nat.le_refl _) (HB7.out.trans (hw.mono HB7.out.size)))
  have HS4 := Lib.hid (fun (w' : World) (hw : Below w7.heap.size w7 w') => (R8.below hw).sq)
  have hl4 : l4.length = n4 := R8.len
  obtain rfl : vsE l4 = ne := HV6.out
  have hNR := hG.right
  have hn4 : n4 ≤ 16 := by
    have := (right_base hNR).2.1
    have h2 : (vsE l4).length ≤ 16 := this
    rw [vsE_len, hl4] at h2
    exact h2
  obtain ⟨s, hsI⟩ : ∃ s, lastI ⟨i, t, vsE l1⟩ = s := ⟨_, rfl⟩
  obtain ⟨v, hvT⟩ : ∃ v, lastT t (vsE l1) = v := ⟨_, rfl⟩
  have his : i ≤ s := by rw [← hsI]; unfold lastI; show i ≤ i + _; omega
  have hst : s ≤ 18446744073709551614 := by rw [← hsI]; exact (right_base hR).2.2.2.1
  have hz64 : z ≤ 18446744073709551614 := by rw [← hz]; exact (may_parts hM).1
  have hzm : pi + m3 = z := by rw [← hz, hl3]
  have eK : checkW ⟨i, t, vsE l4⟩ 18446744073709551615 = 0 := by
    unfold checkW
    rw [if_neg (by rw [hNR]; simp), if_neg]
    show ¬ (18446744073709551615 < lastT t (vsE l4))
    have := place_lt (HS4.out _ (Below.refl _ _)) ht (placeW_last ⟨i, t, vsE l4⟩)
    have h2 : lastT t (vsE l4) < 18446744073709551616 := this
    omega
  have eL : lastW ⟨i, t, vsE l1⟩ = (s, v) := by
    unfold lastW
    rw [if_neg (by rw [hR]; simp), hsI]
    exact Prod.ext rfl hvT
  have eS := splice_again hM hH hG
  rw [hz] at eS
  have CK := Lib.hid (fun (w' : World) (hw : Below w7.heap.size w7 w') => (show Calls Try.prog 36 #[.agg #[.int .u64 (i : Int), .int .u64 (t : Int), .slice A4 n4 k4], .int .u64 18446744073709551615] w' _ from Check_any (HS4.out w' hw) (by omega) i t hi ht 18446744073709551615 (by omega)))
  rw [eK] at CK
  have CLL := Lib.hid (fun (w' : World) (hw : Below w7.heap.size w7 w') => (show Calls Try.prog 24 #[.agg #[.int .u64 (i : Int), .int .u64 (t : Int), .slice A1 n1 k1]] w' _ from Last_any (HS1.out w' hw) (by omega) i t hi ht))
  rw [eL] at CLL
  have CTN := Lib.hid (fun (w' : World) (hw : Below w7.heap.size w7 w') (j : Nat) (hj : j < 18446744073709551616) => (show Calls Try.prog 25 #[.agg #[.int .u64 (i : Int), .int .u64 (t : Int), .slice A4 n4 k4], .int .u64 (j : Int)] w' _ from Term_any (HS4.out w' hw) (by omega) i t hi ht j hj))
  have CTL := Lib.hid (fun (w' : World) (hw : Below w7.heap.size w7 w') (j : Nat) (hj : j < 18446744073709551616) => (show Calls Try.prog 25 #[.agg #[.int .u64 (i : Int), .int .u64 (t : Int), .slice A1 n1 k1], .int .u64 (j : Int)] w' _ from Term_any (HS1.out w' hw) (by omega) i t hi ht j hj))
  have CH := Lib.hid (fun (w' : World) (hw : Below w7.heap.size w7 w') (j u : Nat) (hj : j < 18446744073709551616) => (show Calls Try.prog 26 #[.agg #[.int .u64 (i : Int), .int .u64 (t : Int), .slice A4 n4 k4], .agg #[.int .u64 (j : Int), .int .u64 (u : Int)]] w' _ from Has_any (HS4.out w' hw) (by omega) i t hi ht j u hj))
  have CS2 := Lib.hid (fun (w' : World) (hw : Below w7.heap.size w7 w') => (show Calls Try.prog 13 #[.agg #[.int .u64 (i : Int), .int .u64 (t : Int), .slice A4 n4 k4], .agg #[.int .u64 (pi : Int), .int .u64 (pt : Int)], .slice A3 m3 k3] w' _ from Splice_any (HS4.out w' hw) (by omega) i t hi ht (HS3.out w' hw) (by omega) pi pt hpi hpt))
  rw [eS] at CS2
  have HG := Lib.hid hG
  have HR := Lib.hid hR
  have HM := Lib.hid hM
  have HST := Lib.hid hst
  have HZ := Lib.hid hz64
  have HZM := Lib.hid hzm
  have HI := Lib.hid hsI
  have HL3 := Lib.hid hl3
  have H80 := Lib.hid h80
  have HN4 := Lib.hid hn4
  have HT64 := Lib.hid ht
  have hwz : IntKind.u64.wrap ((pi : Int) + (m3 : Int)) = (z : Int) := by show ((pi : Int) + (m3 : Int)) % 18446744073709551616 = _; omega
  have hwm : IntKind.u64.wrap (m3 : Int) = (m3 : Int) := by show (m3 : Int) % 18446744073709551616 = _; omega
  have heq := fun w => eq_at (i : Int) (t : Int) (i : Int) (t : Int) w
  clear R6 R7 R8 hw7 hL5 hP5 hl4 hG hNR hn4 hsI hvT hst hz64 hzm eK eL eS hR hM hH he hz CS c0 c1 c2 d0 d1 d2 HL5 HP5 HO5 HO6 HV6 hl3 hi ht hpi hpt HL4 HP4 HO4
  have hb7 : Below w7.heap.size w7 w7 := Below.refl _ _
  obtain ⟨⟨c0, c1, c2⟩, ⟨d0, d1, d2⟩, e0, e1, e2⟩ := NINE.out _ hb7
  go_upto_region 10 with (first
    | (have g7 := hb7; go_loud (clear g7); go_loud (go_at_call 36); go_loud (with_reducible refine Calls.mono (CK.out _ (by first | exact hb7 | exact hb7.drew | exact below_drewN hb7 _)) ?_); go_loud (rintro e w8 ⟨rfl, h8⟩); go_loud (have hb8 : Below w7.heap.size w7 w8 := (by first | exact hb7.trans (h8.mono hb7.size) | exact hb7.drew.trans (h8.mono hb7.drew.size) | exact (below_drewN hb7 _).trans (h8.mono (below_drewN hb7 _).size))); go_loud (clear h8); go_loud (clear c0 c1 c2 d0 d1 d2 e0 e1 e2); go_loud (obtain ⟨⟨c0, c1, c2⟩, ⟨d0, d1, d2⟩, e0, e1, e2⟩ := NINE.out _ hb8))
    | fail)
  clear hwz hwm heq c0 c1 c2 d0 d1 d2 e0 e1 e2
  have HB8 := Lib.hid hb8
  clear hb7 hb8
  go_wp2_with fail
  go_loopw [68] (fun i0 wr => ∃ q : Nat, q ≤ m3 ∧ i0 = .int .i64 (q : Int) ∧ Hid (Below w7.heap.size w7 wr)) (fun i0 _ => m3 - (intOf i0).toNat)
  case atStart => exact ⟨0, Nat.zero_le _, rfl, HB8⟩
  case round =>
    obtain ⟨q, hq, rfl, HJ⟩ := hrel
    have hq0 : (0 : Int) ≤ (q : Int) := Int.natCast_nonneg _
    by_cases hlt : q < m3
    · have hd : decide ((q : Int) < (m3 : Int)) = true := by simp; omega
      have TW := HS3.out _ HJ.out
      have hql : q < l3.length := by rw [TW.len]; exact hlt
      obtain ⟨b, o, hA3, hbl, hrg⟩ := TW.s.at_ hlt
      have hxe := TW.e _ (List.getElem_mem hql)
      obtain ⟨x, hx⟩ : ∃ x, l3[q] = x := ⟨_, rfl⟩
      rw [hx] at hrg hxe
      have hxv : (vsE l3)[q]? = some x.v := by unfold vsE; rw [List.getElem?_map, List.getElem?_eq_getElem hql, hx]; rfl
      have HRG := Lib.hid (show wr.rangeAt b (o + q * 3) x.cells from hrg)
      obtain ⟨wA, hwA⟩ : ∃ wA, wr.alloc (.cells zEn.cells.toArray 44) = wA := ⟨_, rfl⟩
      have YA : Bl wA wr.heap.size 44 zEn.cells := by rw [← hwA]; exact Bl.new wr 44 zEn.cells
      have BA : Below wr.heap.size wr wA := by rw [← hwA]; exact (Below.refl _ _).alloc (Nat.le_refl _) _
      obtain ⟨wB, hwB⟩ : ∃ wB, wA.setCells wr.heap.size 0 x.cells = wB := ⟨_, rfl⟩
      have YB : Bl wB wr.heap.size 44 x.cells := by rw [← hwB]; exact bl_setCells YA rfl
      have BB : Below wr.heap.size wr wB := by rw [← hwB]; exact below_setCells BA (Nat.le_refl _) _ _
      have TA := Lib.hid (show wA.there wr.heap.size 0 3 from YA.th)
      have HWA := Lib.hid hwA
      have HWB := Lib.hid hwB
      have hbB : Below w7.heap.size w7 wB := HJ.out.trans (BB.mono HJ.out.size)
      have HYB := Lib.hid YB
      obtain ⟨g0, hg0⟩ : ∃ g0, pi + q = g0 := ⟨_, rfl⟩
      obtain ⟨g, hg⟩ : ∃ g, g0 + 1 = g := ⟨_, rfl⟩
      have hgz : g ≤ z := by have := HZM.out; omega
      have hg64 : g < 18446744073709551616 := by have := HZ.out; omega
      have hpl : i < g → placeW ⟨i, t, vsE l4⟩ g = some x.t := fun h => by
        have hqv : q < (vsE l3).length := by rw [vsE_len]; exact hql
        have := HG.out.has q hqv (by show i < pi + q + 1; omega)
        rw [show pi + q + 1 = g by omega] at this
        rw [this]
        have h2 := hxv
        rw [List.getElem?_eq_getElem hqv] at h2
        injection h2 with h2
        rw [h2]
        rfl
      have DH := Lib.hid (fun (w' : World) (hw : Below w7.heap.size w7 w') => CH.out w' hw g x.t hg64)
      have HPL := Lib.hid hpl
      have HSUM := Lib.hid (show i + 0 ≤ i + 0 from Nat.le_refl _)
      have hw0 : IntKind.u64.wrap ((pi : Int) + (q : Int)) = (g0 : Int) := by have := HZ.out; show ((pi : Int) + (q : Int)) % 18446744073709551616 = _; omega
      have hwq : IntKind.u64.wrap (q : Int) = (q : Int) := by have := H80.out; show (q : Int) % 18446744073709551616 = _; omega
      have hw1 : IntKind.u64.wrap ((g0 : Int) + 1) = (g : Int) := by have := HZ.out; show ((g0 : Int) + 1) % 18446744073709551616 = _; omega
      have hq1 : (q : Int) < (m3 : Int) := by omega
      have hA := Lib.hid hA3
      clear hrg hxe hx hwA YA BA hwB YB BB TW hbl hql hxv hpl hg64 hgz hA3
      have hA3 := hA.out
      subst hA3
      clear hA
      go_upto_region 13 with (first
        | ((with_reducible refine lde (.tmp 71) ?_ ?_ b (o + q * 3) x ?_ HRG.out ?_); rfl; (first | rfl | (go_simp <;> fail)); (first | rfl | go_simp))
        | ((with_reducible refine alt 44 ?_ ?_ zEn.cells zero_en ?_); rfl; (first | rfl | (go_simp <;> fail)); rw [HWA.out]; (try simp only [Act.put, List.setIfInBounds_toArray, List.set_cons_succ, List.set_cons_zero]))
        | ((with_reducible refine ste (.tmp 10) (.tmp 72) ?_ ?_ wr.heap.size 0 x ?_ ?_ TA.out ?_); rfl; (first | rfl | (go_simp <;> fail)); rfl; rfl; rw [HWB.out])
        | fail)
      obtain ⟨⟨c0, c1, c2⟩, ⟨d0, d1, d2⟩, e0, e1, e2⟩ := NINE.out _ hbB
      have y0 := HYB.out.cell 0
      simp only [En.cells, List.getElem?_cons_zero] at y0
      go_upto_region 14 with fail
      obtain ⟨wC, hwC⟩ : ∃ wC, wB.alloc (.cells #[.int .u64 (g : Int), .int .u64 (x.t : Int)] 24) = wC := ⟨_, rfl⟩
      have YC : Bl wC wB.heap.size 24 (atC g x.t) := by rw [← hwC]; exact Bl.new wB 24 (atC g x.t)
      have hbC : Below w7.heap.size w7 wC := by rw [← hwC]; exact hbB.alloc hbB.size _
      rw [hwC]
      clear hwC c0 c1 c2 d0 d1 d2 e0 e1 e2 y0 hw0 hwq hw1
      obtain ⟨⟨c0, c1, c2⟩, ⟨d0, d1, d2⟩, e0, e1, e2⟩ := NINE.out _ hbC
      have y0 := YC.cell 0
      have y1 := YC.cell 1
      simp only [atC, List.getElem?_cons_zero, List.getElem?_cons_succ] at y0 y1
      clear YC
      by_cases hgi : i < g
      · have dgi : decide ((i : Int) < (g : Int)) = true := by simp; omega
        have hh : (isLogW ⟨i, t, vsE l4⟩ && hasW ⟨i, t, vsE l4⟩ g x.t) = true := by rw [HG.out.right, hasW_iff.2 (HPL.out hgi)]; rfl
        rw [hh] at DH
        clear hh
        go_wp2_with (first
          | (have gC := hbC; go_loud (clear gC); go_loud (go_at_call 26); go_loud (with_reducible refine Calls.mono (DH.out _ hbC) ?_); go_loud (rintro e w9 ⟨rfl, h9⟩); go_loud (have hb9 : Below w7.heap.size w7 w9 := (by first | exact hbC.trans (h9.mono hbC.size) | exact hbC.drew.trans (h9.mono hbC.drew.size) | exact (below_drewN hbC _).trans (h9.mono (below_drewN hbC _).size))); go_loud (clear h9); go_loud (clear c0 c1 c2 d0 d1 d2 e0 e1 e2); go_loud (obtain ⟨⟨c0, c1, c2⟩, ⟨d0, d1, d2⟩, e0, e1, e2⟩ := NINE.out _ hb9))
          | fail)
        go_roundw
        case rel => exact ⟨q + 1, by omega, by go_num, Lib.hid hb9⟩
        case measure => simp [intOf]; omega
      · have dgi : decide ((i : Int) < (g : Int)) = false := by simp; omega
        go_wp2_with fail
        go_roundw
        case rel => exact ⟨q + 1, by omega, by go_num, Lib.hid hbC⟩
        case measure => simp [intOf]; omega
    · have hd : decide ((q : Int) < (m3 : Int)) = false := by simp; omega
      obtain ⟨wo, rfl⟩ : ∃ wo : World, wo = wr := ⟨_, rfl⟩
      obtain ⟨⟨c0, c1, c2⟩, ⟨d0, d1, d2⟩, e0, e1, e2⟩ := NINE.out _ HJ.out
      go_wp2_with fail
      clear c0 c1 c2 d0 d1 d2 e0 e1 e2
      go_loopw [12] (fun i0 wr => ∃ k : Nat, i ≤ k ∧ k ≤ s + 1 ∧ i0 = .int .u64 (k : Int) ∧ Hid (Below w7.heap.size w7 wr)) (fun i0 _ => s + 1 - (intOf i0).toNat)
      case atStart => exact ⟨i, Nat.le_refl _, by omega, rfl, HJ⟩
      case round =>
        obtain ⟨k, hik, hks, rfl, HK⟩ := hrel
        have hbk : Below w7.heap.size w7 wr := HK.out
        obtain ⟨mn, hmn⟩ : ∃ mn, min pi s = mn := ⟨_, rfl⟩
        have hmin1 : (if (s : Int) < (pi : Int) then (s : Int) else (pi : Int)) = (mn : Int) := by split <;> omega
        have hmin2 : (if s < pi then (s : Int) else (pi : Int)) = (mn : Int) := by split <;> omega
        have hmin3 : min (pi : Int) (s : Int) = (mn : Int) := by omega
        have f0 := fun w => fld0 s v w
        have KS := Lib.hid (fun (w' : World) (hw : Below w7.heap.size w7 w') => (show w'.cell? ⟨w.heap.size, 0, none⟩ = some (.int .u64 (i : Int)) ∧ w'.cell? ⟨w.heap.size, 1, none⟩ = some (.int .u64 (t : Int)) ∧ w'.cell? ⟨w.heap.size, 2, none⟩ = some (.slice A1 n1 k1) ∧ w'.cell? ⟨w.heap.size + 1, 0, none⟩ = some (.int .u64 (pi : Int)) ∧ w'.cell? ⟨w.heap.size + 1, 1, none⟩ = some (.int .u64 (pt : Int)) ∧ w'.cell? ⟨w.heap.size + 1, 2, none⟩ = some (.slice A' n' c') from ⟨(NINE.out _ hw).1.1, (NINE.out _ hw).1.2.1, (NINE.out _ hw).1.2.2, (NINE.out _ hw).2.1.1, (NINE.out _ hw).2.1.2.1, (NINE.out _ hw).2.1.2.2⟩))
        obtain ⟨⟨c0, c1, c2⟩, ⟨d0, d1, d2⟩, e0, e1, e2⟩ := NINE.out _ hbk
        go_upto_region 18 with fail
        by_cases hkm : k ≤ mn
        · have dkm : decide ((k : Int) ≤ (mn : Int)) = true := by simp; omega
          have hks2 : k ≤ s := by omega
          have hkp : k ≤ pi := by omega
          have hk64 : k < 18446744073709551616 := by have := HST.out; omega
          obtain ⟨a, ha⟩ : ∃ a, placeW ⟨i, t, vsE l1⟩ k = some a := ⟨_, placeW_at (show (Lg.mk i t (vsE l1)).bi ≤ k from hik) (by rw [HI.out]; exact hks2)⟩
          have ha2 : placeW ⟨i, t, vsE l4⟩ k = some a := by rw [HG.out.keep k hik hkp (by rw [HI.out]; exact hks2)]; exact ha
          have DTL := Lib.hid (fun (w' : World) (hw : Below w7.heap.size w7 w') => CTL.out w' hw k hk64)
          have DTN := Lib.hid (fun (w' : World) (hw : Below w7.heap.size w7 w') => CTN.out w' hw k hk64)
          rw [show termW ⟨i, t, vsE l1⟩ k = some a by unfold termW; rw [if_neg (by rw [HR.out]; simp)]; exact ha] at DTL
          rw [show termW ⟨i, t, vsE l4⟩ k = some a by unfold termW; rw [if_neg (by rw [HG.out.right]; simp)]; exact ha2] at DTN
          have hwr : IntKind.u64.wrap ((k : Int) + 1) = (k : Int) + 1 := by have := HST.out; show ((k : Int) + 1) % 18446744073709551616 = _; omega
          clear ha ha2 hk64 hkp hmn
          go_region_held3 (fun w' => w'.cell? ⟨w.heap.size, 0, none⟩ = some (.int .u64 (i : Int)) ∧ w'.cell? ⟨w.heap.size, 1, none⟩ = some (.int .u64 (t : Int)) ∧ w'.cell? ⟨w.heap.size, 2, none⟩ = some (.slice A1 n1 k1) ∧ w'.cell? ⟨w.heap.size + 1, 0, none⟩ = some (.int .u64 (pi : Int)) ∧ w'.cell? ⟨w.heap.size + 1, 1, none⟩ = some (.int .u64 (pt : Int)) ∧ w'.cell? ⟨w.heap.size + 1, 2, none⟩ = some (.slice A' n' c'))
            (first | exact ⟨c0, c1, c2, d0, d1, d2⟩ | with_reducible exact K10.out | fail)
            (first
              | (have gk := hbk; go_loud (clear gk); go_loud (go_at_call 24); go_loud (with_reducible refine Calls.mono (CLL.out _ (by first | exact hbk | exact hbk.drew | exact below_drewN hbk _)) ?_); go_loud (rintro e w10 ⟨rfl, h10⟩); go_loud (have hb10 : Below w7.heap.size w7 w10 := (by first | exact hbk.trans (h10.mono hbk.size) | exact hbk.drew.trans (h10.mono hbk.drew.size) | exact (below_drewN hbk _).trans (h10.mono (below_drewN hbk _).size))); go_loud (clear h10); go_loud (skip); go_loud (have K10 := Lib.hid (KS.out _ hb10)))
              | fail)
          all_goals (
            clear hmin1 hmin2 hmin3 c0 c1 c2 d0 d1 d2 e0 e1 e2
            obtain ⟨⟨c0, c1, c2⟩, ⟨d0, d1, d2⟩, e0, e1, e2⟩ := NINE.out _ hb10
            go_wp2_with (first
              | (have g11 := hb11; go_loud (clear g11); go_loud (go_at_call 25); go_loud (with_reducible refine Calls.mono (DTN.out _ (by first | exact hb11 | exact hb11.drew | exact below_drewN hb11 _)) ?_); go_loud (rintro e w12 ⟨rfl, h12⟩); go_loud (have hb12 : Below w7.heap.size w7 w12 := (by first | exact hb11.trans (h12.mono hb11.size) | exact hb11.drew.trans (h12.mono hb11.drew.size) | exact (below_drewN hb11 _).trans (h12.mono (below_drewN hb11 _).size))); go_loud (clear h12); go_loud (clear c0 c1 c2 d0 d1 d2 e0 e1 e2); go_loud (obtain ⟨⟨c0, c1, c2⟩, ⟨d0, d1, d2⟩, e0, e1, e2⟩ := NINE.out _ hb12); go_loud (dsimp only [termV]))
              | (have g10 := hb10; go_loud (clear g10); go_loud (go_at_call 25); go_loud (with_reducible refine Calls.mono (DTL.out _ (by first | exact hb10 | exact hb10.drew | exact below_drewN hb10 _)) ?_); go_loud (rintro e w11 ⟨rfl, h11⟩); go_loud (have hb11 : Below w7.heap.size w7 w11 := (by first | exact hb10.trans (h11.mono hb10.size) | exact hb10.drew.trans (h11.mono hb10.drew.size) | exact (below_drewN hb10 _).trans (h11.mono (below_drewN hb10 _).size))); go_loud (clear h11); go_loud (clear c0 c1 c2 d0 d1 d2 e0 e1 e2); go_loud (obtain ⟨⟨c0, c1, c2⟩, ⟨d0, d1, d2⟩, e0, e1, e2⟩ := NINE.out _ hb11); go_loud (dsimp only [termV]))
              | fail)
            go_roundw
            case rel => exact ⟨k + 1, by omega, by omega, by go_num, Lib.hid hb12⟩
            case measure => simp [intOf]; omega)
        · have dkm : decide ((k : Int) ≤ (mn : Int)) = false := by simp; omega
          clear hmn
          go_region_held3 (fun w' => w'.cell? ⟨w.heap.size, 0, none⟩ = some (.int .u64 (i : Int)) ∧ w'.cell? ⟨w.heap.size, 1, none⟩ = some (.int .u64 (t : Int)) ∧ w'.cell? ⟨w.heap.size, 2, none⟩ = some (.slice A1 n1 k1) ∧ w'.cell? ⟨w.heap.size + 1, 0, none⟩ = some (.int .u64 (pi : Int)) ∧ w'.cell? ⟨w.heap.size + 1, 1, none⟩ = some (.int .u64 (pt : Int)) ∧ w'.cell? ⟨w.heap.size + 1, 2, none⟩ = some (.slice A' n' c'))
            (first | exact ⟨c0, c1, c2, d0, d1, d2⟩ | with_reducible exact K10.out | fail)
            (first
              | (have gk := hbk; go_loud (clear gk); go_loud (go_at_call 24); go_loud (with_reducible refine Calls.mono (CLL.out _ (by first | exact hbk | exact hbk.drew | exact below_drewN hbk _)) ?_); go_loud (rintro e w10 ⟨rfl, h10⟩); go_loud (have hb10 : Below w7.heap.size w7 w10 := (by first | exact hbk.trans (h10.mono hbk.size) | exact hbk.drew.trans (h10.mono hbk.drew.size) | exact (below_drewN hbk _).trans (h10.mono (below_drewN hbk _).size))); go_loud (clear h10); go_loud (skip); go_loud (have K10 := Lib.hid (KS.out _ hb10)))
              | fail)
          all_goals (
            clear hmin1 hmin2 hmin3 c0 c1 c2 d0 d1 d2 e0 e1 e2
            obtain ⟨⟨c0, c1, c2⟩, ⟨d0, d1, d2⟩, e0, e1, e2⟩ := NINE.out _ hb10
            go_upto_region 25 with (first
              | (have g10 := hb10; go_loud (clear g10); go_loud (go_at_call 13); go_loud (with_reducible refine Calls.mono (CS2.out _ (by first | exact hb10 | exact hb10.drew | exact below_drewN hb10 _)) ?_); go_loud (rintro e w11 ⟨⟨v5, rfl, A5, n5, k5, l5, rfl, ho5, hv5⟩, h11⟩); go_loud (have hb11 : Below w7.heap.size w7 w11 := (by first | exact hb10.trans (h11.mono hb10.size) | exact hb10.drew.trans (h11.mono hb10.drew.size) | exact (below_drewN hb10 _).trans (h11.mono (below_drewN hb10 _).size))); go_loud (clear h11); go_loud (clear c0 c1 c2 d0 d1 d2 e0 e1 e2); go_loud (obtain ⟨⟨c0, c1, c2⟩, ⟨d0, d1, d2⟩, e0, e1, e2⟩ := NINE.out _ hb11); go_loud (dsimp only at ho5 hv5); go_loud (dsimp only); go_loud (have HO5 := Lib.hid ho5); go_loud (have HV5 := Lib.hid hv5); go_loud (clear ho5 hv5))
              | fail)
            obtain ⟨wX, hwX⟩ : ∃ wX, w11.alloc (.cells #[.int .u64 (i : Int), .int .u64 (t : Int), .slice A5 n5 k5] 27) = wX := ⟨_, rfl⟩
            have YX := Bl.new w11 27 (lgC i t A5 n5 k5)
            have YX2 : w11.alloc (.cells (lgC i t A5 n5 k5).toArray 27) = wX := hwX
            rw [YX2] at YX
            have hbX : Below w7.heap.size w7 wX := by rw [← hwX]; exact hb11.alloc hb11.size _
            have OX := HO5.out.below (w' := wX) (by rw [← hwX]; exact (Below.refl _ _).alloc (Nat.le_refl _) _)
            rw [hwX]
            have hn5 : n5 ≤ 1000 := by
              have h1 := congrArg List.length HV5.out
              rw [vsE_len, vsE_len, OX.len] at h1
              have h2 := (HS4.out _ hbX).len
              have := HN4.out
              omega
            have hn4 : n4 ≤ 1000 := by have := HN4.out; omega
            have CSM := Lib.hid (show Calls Try.prog 37 #[.agg #[.int .u64 (i : Int), .int .u64 (t : Int), .slice A4 n4 k4], .agg #[.int .u64 (i : Int), .int .u64 (t : Int), .slice A5 n5 k5]] wX _ from Same_any (HS4.out _ hbX) hn4 OX.sq hn5 i t i t)
            rw [HV5.out, sameG_self] at CSM
            clear c0 c1 c2 d0 d1 d2 e0 e1 e2 hwX YX2 OX
            obtain ⟨⟨c0, c1, c2⟩, ⟨d0, d1, d2⟩, e0, e1, e2⟩ := NINE.out _ hbX
            obtain ⟨y0, y1, y2⟩ := ag_cells YX
            clear YX hn5 hn4
            go_wp2_with (first
              | (go_at_call 37; go_loud (with_reducible refine Calls.mono CSM.out ?_); go_loud (rintro e w13 ⟨rfl, h13⟩); go_loud (have hb13 : Below w7.heap.size w7 w13 := hbX.trans (h13.mono hbX.size)); go_loud (clear h13))
              | fail)
            go_ret
            exact ⟨rfl, HB4.out.trans ((HB5.out.trans ((HB7.out.trans (hb13.mono HB7.out.size)).mono HB5.out.size)).mono HB4.out.size)⟩)

theorem own : ownKnob Try.prog.godebug = none := by kernel_rfl
theorem laidOut : laidOutB Try.prog = true := by kernel_rfl

set_option maxRecDepth 100000 in
theorem lifted (os : Os) (started : os.Started) (H : Type) (enc : TypeId × Value → H) :
    ReturnsInHanded {} Try.checked os 7 .any (Rows.logJoinsSpec.pre6 enc Try.prog Try.f7 Rows.logJoinsRow.domain false) (Rows.logJoinsSpec.post enc Try.prog Try.f7 false true false false) := by
  refine returnsInHanded_of_change (C := Try.checked) own started (by kernel_rfl) Try.func7
    (ChangeSpec.witness6 (enc := enc) (C := Try.checked) false ⟨#[], #[.agg #[.int .u64 0, .int .u64 0, .slice none 0 0], .agg #[.int .u64 0, .int .u64 0, .slice none 0 0]], []⟩ 8 (by kernel_rfl) (by kernel_rfl) (by kernel_rfl) (by kernel_rfl)) ?_
  intro W base args ds gs before hval0 hW hcnd _
  have hval : ∀ (j : Nat) t v, Try.f7.params[j]? = some t → args[j]? = some v → Value.okWide Try.prog W .any base t v := hval0
  have hW' := hW
  obtain ⟨p, q, hA0, hV, rfl, hfz, hnd⟩ := hW
  have hA : DataW.TrodAll enc Try.prog W 0 (fun _ => true) true Try.f7.params.toList args.toList ds p := hA0
  rw [Try.params7] at hA hval
  obtain ⟨v0, vs0, d0, ds0, p0, q0, hargs, rfl, rfl, h0, r0⟩ := trodAll_cons hA
  obtain ⟨v1, vs1, d1, ds1, p1, q1, rfl, rfl, rfl, h1, r1⟩ := trodAll_cons r0
  obtain ⟨rfl, rfl, rfl⟩ := trodAll_nil r1
  obtain rfl : args = #[v0, v1] := by cases args; simp_all
  obtain ⟨rfl, rfl⟩ := trodVars_none hV
  have k0 := h0
  have lt0 : ∀ x ∈ p0, x.block < W.heap.size := by obtain ⟨m, hm⟩ := k0; exact DataW.trod_lt m _ _ _ hm
  obtain ⟨i0, t0, A0, n0, c0, l0, rfl, hi0, ht0, s0⟩ := log_arg (hval 0 27 v0 rfl rfl) h0
  have k1 := h1
  have lt1 : ∀ x ∈ p1, x.block < W.heap.size := by obtain ⟨m, hm⟩ := k1; exact DataW.trod_lt m _ _ _ hm
  obtain ⟨i1, t1, A1, n1, c1, l1, rfl, hi1, ht1, s1⟩ := piece_arg (hval 1 32 v1 rfl rfl) h1
  clear hA0 hval0
  refine (walk s0 i0 t0 hi0 ht0 s1 i1 t1 hi1 ht1).mono fun e W' ⟨he, bel⟩ => ?_
  subst he
  exact ⟨_, rfl, _, _, _, [], _, [], hW', trodAll_mk1 (shut_bool Try.underlying4 _), (trodAll_cons_mk (Below.trod laidOut (by kernel_rfl) (of_decide_eq_true (by kernel_rfl)) k0 bel lt0) (trodAll_cons_mk (Below.trod laidOut (by kernel_rfl) (of_decide_eq_true (by kernel_rfl)) k1 bel lt1) trodAll_mk0)), rfl, bel.frame _, fun h => by cases h⟩

theorem over : Rows.logJoinsRow.holds Try.pinned (OpenSpec.ofChange Rows.logJoinsSpec) :=
  OpenClaim.holds_of_wide 7 Try.f7 rfl rfl rfl rfl rfl rfl rfl ⟨rfl, rfl, rfl, rfl, rfl⟩ rfl rfl rfl rfl rfl (by kernel_rfl) Try.func7 (by kernel_rfl)
    (of_decide_eq_true (by kernel_rfl)) (by unfold Func.isWrapper; first | (rw [if_pos (by decide +kernel)]; kernel_rfl) | (rw [if_neg (by decide +kernel)]; exact ⟨rfl, rfl⟩))
    (fun os started H enc _ => lifted os started H enc)

theorem proved : Rows.LogJoinsSaid := over
#print axioms proved
end Go.Proofs.Ytoknigpdphfocaa.logJoins
