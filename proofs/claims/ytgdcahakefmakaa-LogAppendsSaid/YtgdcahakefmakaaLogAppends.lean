/-
  PROVED HERE: LogAppends: what append and compact answer, for every log.
-/
import Derived.Test.YtgdcahakefmakaaSc
import Derived.Test.YtgdcahakefmakaaSh
import Derived.Test.YtgdcahakefmakaaSbw
import Derived.Test.YtgdcahakefmakaaRows
import Derived.ProofKit
import Derived.OpenShut
import Derived.ChangeOld
import Derived.Carry
namespace Go.Proofs.Ytgdcahakefmakaa.logAppends
open Go.ChangeShapes Go.WideShapes Go.ChangeAt Go.RowKit Go.Deep Go.Shelf
set_option linter.unusedSimpArgs false
attribute [local irreducible] wpQuiet
set_option linter.unusedVariables false

theorem wrap_small {n : Nat} (h : n < 1000000) : wrap64 ((n : Int) + 1) = (n : Int) + 1 := by unfold wrap64; omega
theorem append_len (L : Lg) (e : Ev) : (appendW L e).1.es.length ≤ L.es.length + 1 := by
  unfold appendW
  split
  · simp [zLg]
  · split
    · simp [zLg]
    · split
      · simp [zLg]
      · simp
theorem compact_len (L : Lg) (k : Nat) : (compactW L k).1.es.length ≤ L.es.length := by
  unfold compactW
  split
  · simp [zLg]
  · split
    · simp [zLg]
    · simp
set_option maxRecDepth 100000 in
set_option maxHeartbeats 20000000 in
theorem walk {w : World} {A : Option Addr} {n c : Nat} {es : List En} (hs : SqE w w.heap.size A n c es) (i t : Nat) (hi : i < 18446744073709551616) (ht : t < 18446744073709551616) {A' : Option Addr} {n' c' : Nat} {rows : List En} (hr : SqE w w.heap.size A' n' c' rows) (k : Nat) (hk : k < 18446744073709551616) :
    Calls Try.prog 4 #[lgV i t A n c, .slice A' n' c', .int .u64 (k : Int)] w fun e w' => e = .returned (.bool true) ∧ Below w.heap.size w w' := by
  have HROWS := Lib.hid hr
  clear hr
  obtain ⟨w1, hw1⟩ : ∃ w1, (w.alloc (.cells #[.int .u64 (i : Int), .int .u64 (t : Int), .slice A n c] 27)) = w1 := ⟨_, rfl⟩
  have L0 : Bl w1 (w.heap.size) 27 [.int .u64 (i : Int), .int .u64 (t : Int), .slice A n c] := by
    rw [← hw1]
    have h := Bl.new w 27 [.int .u64 (i : Int), .int .u64 (t : Int), .slice A n c]
    (try simp only [World.size_alloc] at h)
    exact h
  have B1 : Below w.heap.size w w1 := by
    rw [← hw1]
    exact ((Below.refl _ _).alloc (by simp <;> omega) _)
  have Z1 : w1.heap.size = w.heap.size + 1 := by rw [← hw1]; simp
  have HW := Lib.hid hw1
  have HB1 := Lib.hid B1
  have HL0 := Lib.hid (show Bl w1 w.heap.size 27 (lgC i t A n c) from L0)
  have HS := Lib.hid (fun (w' : World) (hw : Below w1.heap.size w1 w') => hs.next (Nat.le_refl _) (B1.trans (hw.mono B1.size)))
  obtain ⟨n1, hn1⟩ : ∃ n1, min 17 n = n1 := ⟨_, rfl⟩
  have h17 : n1 ≤ 17 := by omega
  have CSH := Lib.hid (fun (w' : World) (hw : Below w1.heap.size w1 w') => short_any (HS.out w' hw) i t)
  rw [hn1] at CSH
  
  clear hw1 L0 B1 hs hn1
  go_enter Try.func4, Try.ntmps4
  go_upto_region 1 with fail
  rw [HW.out]
  go_upto_region 3 with (first
    | (go_at_call 10; go_loud (refine (wakes_any _).mono ?_); go_loud (rintro e w2 ⟨rfl, hb2⟩); go_loud (have HB2 := Lib.hid hb2); go_loud (clear hb2))
    | fail)
  obtain ⟨c0, c1, c2⟩ := lg_cells (HL0.out.below HB2.out HL0.out.lt)
  go_upto_region 4 with (first
    | (go_at_call 11; go_loud (refine (CSH.out _ HB2.out).mono ?_); go_loud (rintro e w3 ⟨⟨A1, k1, l1, rfl, ho3, hv3⟩, hb3⟩); go_loud (have HB3 := Lib.hid (HB2.out.trans (hb3.mono HB2.out.size))); go_loud (have HO3 := Lib.hid ho3); go_loud (have HV3 := Lib.hid hv3); go_loud (have HG3 := Lib.hid (show w.heap.size < w2.heap.size from Nat.lt_of_lt_of_le HL0.out.lt HB2.out.size)); go_loud (have HL3 := Lib.hid (HL0.out.below HB3.out HL0.out.lt)); go_loud (obtain ⟨c0, c1, c2⟩ := lg_cells HL3.out); go_loud (have f0 := HL3.out.frozen 0); go_loud (have f1 := HL3.out.frozen 1); go_loud (have f2 := HL3.out.frozen 2); go_loud (clear ho3 hb3 hv3))
    | fail)
  obtain ⟨R1, R2⟩ := res3 (w1 := w) HL3.out (HB1.out.trans (HB3.out.mono HB1.out.size)) (Nat.le_refl _) i t A1 n1 k1
  have R3 := ((HO3.out.far1 (p := ⟨w.heap.size, 0, none⟩) HG3.out (.int .u64 (i : Int))).far1 (p := ⟨w.heap.size, 1, none⟩) HG3.out (.int .u64 (t : Int))).far1 (p := ⟨w.heap.size, 2, none⟩) HG3.out (.slice A1 n1 k1)
  obtain ⟨w4, hw4⟩ : ∃ w4, ((w3.setCell ⟨w.heap.size, 0, none⟩ (.int .u64 (i : Int))).setCell ⟨w.heap.size, 1, none⟩ (.int .u64 (t : Int))).setCell ⟨w.heap.size, 2, none⟩ (.slice A1 n1 k1) = w4 := ⟨_, rfl⟩
  rw [hw4] at R1 R2 R3
  rw [hw4]
  have HL4 := Lib.hid R1
  have HB4 := Lib.hid R2
  have HO4 := Lib.hid R3
  have H17 := Lib.hid h17
  have CSH2 := Lib.hid (short_any R3.sq i t)
  rw [show min 17 n1 = n1 by omega, show capL 17 (vsE l1) = vsE l1 by rw [HV3.out, capL_idem]] at CSH2
  clear R1 R2 R3 hw4 HL3 HO3 c0 c1 c2 f0 f1 f2 HB1 HB2 HB3 CSH HS HW HL0 HG3
  obtain ⟨c0, c1, c2⟩ := lg_cells HL4.out
  go_upto_region 5 with (first
    | (go_at_call 11; go_loud (refine CSH2.out.mono ?_); go_loud (rintro e w5 ⟨⟨A2, k2, l2, rfl, ho5, hv5⟩, hb5⟩); go_loud (have HB5 := Lib.hid hb5); go_loud (have HO5 := Lib.hid ho5); go_loud (have HV5 := Lib.hid hv5); go_loud (clear ho5 hb5 hv5 c0 c1 c2))
    | fail)
  obtain ⟨w6, hw6⟩ : ∃ w6, w5.alloc (.cells #[.int .u64 (i : Int), .int .u64 (t : Int), .slice A2 n1 k2] 27) = w6 := ⟨_, rfl⟩
  have HL6 := Lib.hid (show Bl w6 w5.heap.size 27 (lgC i t A2 n1 k2) by rw [← hw6]; exact Bl.new w5 27 (lgC i t A2 n1 k2))
  have b56 : Below w5.heap.size w5 w6 := by rw [← hw6]; exact (Below.refl _ _).alloc (Nat.le_refl _) _
  have HB6 := Lib.hid (show Below w4.heap.size w4 w6 from HB5.out.trans (b56.mono HB5.out.size))
  have HO6 := Lib.hid (HO5.out.below b56)
  have HO46 := Lib.hid (HO4.out.below HB6.out)
  have HL46 := Lib.hid (HL4.out.below HB6.out HL4.out.lt)
  rw [hw6]
  clear hw6 b56 CSH2 HB5 HO5
  have HQ := Lib.hid (fun (W : World) (hw : Below w6.heap.size w6 W) => And.intro (lg_cells (HL46.out.below hw HL46.out.lt)) (lg_cells (HL6.out.below hw HL6.out.lt)))
  have HS1 := Lib.hid (fun (W : World) (hw : Below w6.heap.size w6 W) => (HO46.out.below hw).sq)
  have HS2 := Lib.hid (fun (W : World) (hw : Below w6.heap.size w6 W) => (HO6.out.below hw).sq)
  have HEB2 := Lib.hid HO6.out.b
  have HB46 := Lib.hid (show Below w.heap.size w w6 from HB4.out.trans (HB6.out.mono HB4.out.size))
  obtain ⟨R, hR⟩ : ∃ R, isLogW ⟨i, t, vsE l1⟩ = R := ⟨_, rfl⟩
  have HRR := Lib.hid hR
  have CRI := Lib.hid (fun (W : World) (hw : Below w6.heap.size w6 W) => (show Calls Try.prog 16 #[.agg #[.int .u64 (i : Int), .int .u64 (t : Int), .slice A2 n1 k2]] W _ from right_any (HS2.out W hw) (by omega) i t hi))
  rw [HV5.out, hR] at CRI
  clear hR HL4 HL6 HL46 HO46 HO6 HO4 HB4 HB6
  have hb6 : Below w6.heap.size w6 w6 := Below.refl _ _
  obtain ⟨⟨c0, c1, c2⟩, d0, d1, d2⟩ := HQ.out _ hb6
  have CEN := Lib.hid (fun (W : World) (hw : Below w6.heap.size w6 W) => (show Calls Try.prog 12 #[.slice A' n' c', .int .i64 6] W _ from entries_any (w := W) (HROWS.out.next (Nat.le_refl _) (HB46.out.trans (hw.mono HB46.out.size))) 6 (by omega)))
  obtain ⟨n3, hn3⟩ : ∃ n3, min 6 n' = n3 := ⟨_, rfl⟩
  rw [hn3] at CEN
  have h36 : n3 ≤ 6 := by omega
  clear hn3
  go_upto_region 7 with (first
    | (go_at_call 12; go_loud (with_reducible refine Calls.mono (CEN.out _ hb7) ?_); go_loud (rintro e w8 ⟨⟨A3, c3, l3, rfl, ho8, hv8⟩, h8⟩); go_loud (have hb8 : Below w7.heap.size w7 w8 := h8); go_loud (have hb68 := hb7.trans (hb8.mono hb7.size)); go_loud (have HO8 := Lib.hid ho8); go_loud (have HV8 := Lib.hid hv8); go_loud (clear h8 ho8 hv8 c0 c1 c2 d0 d1 d2))
    | (go_at_call 16; go_loud (with_reducible refine Calls.mono (CRI.out _ hb6) ?_); go_loud (rintro e w7 ⟨rfl, h7⟩); go_loud (have hb7 : Below w6.heap.size w6 w7 := hb6.trans (h7.mono (Nat.le_refl _))); go_loud (clear h7 c0 c1 c2 d0 d1 d2); go_loud (obtain ⟨⟨c0, c1, c2⟩, d0, d1, d2⟩ := HQ.out _ hb7))
    | fail)
  have HB7 := Lib.hid hb7
  have hD0 : Dat w7 w7.heap.size A3 n3 c3 (l3.map En.D) w8 := ⟨⟨l3, HO8.out, rfl⟩, hb8⟩
  have hDn : ∀ D ∈ l3.map En.D, D.n ≤ 1025 := fun D hD => by
    obtain ⟨y, hy, rfl⟩ := List.mem_map.1 hD
    have h1 : y.v ∈ capL 6 (vsE rows) := by rw [← HV8.out]; exact List.mem_map.2 ⟨y, hy, rfl⟩
    have h2 := capL_mem h1
    have h3 := HO8.out.dlen hy
    have h4 : y.d.length ≤ 1025 := h2
    omega
  obtain ⟨Ds, hDs⟩ : ∃ Ds, l3.map En.D = Ds := ⟨_, rfl⟩
  rw [hDs] at hD0 hDn
  have HD0 := Lib.hid hD0
  have HDN := Lib.hid hDn
  clear hD0 hDn hDs HO8 HV8 hb8 hb68 hb7 hb6 CRI CEN HROWS
  have hn63 : (n3 : Int) ≤ 9223372036854775807 := by omega
  go_loopw [34] (fun v wr => ∃ j : Nat, j ≤ n3 ∧ v = .int .i64 (j : Int) ∧ Hid (Dat w7 w7.heap.size A3 n3 c3 Ds wr)) (fun v _ => n3 - (intOf v).toNat)
  case atStart => exact ⟨0, Nat.zero_le _, rfl, HD0⟩
  case round =>
    obtain ⟨j, hjn, rfl, hj⟩ := hrel
    have hj0 : (0 : Int) ≤ (j : Int) := Int.natCast_nonneg _
    by_cases hlt : j < n3
    · have hd : decide ((j : Int) < (n3 : Int)) = true := by simp; omega
      have hj1 : (j : Int) < (n3 : Int) := by omega
      obtain ⟨l', hO, hDs⟩ := hj.out.ex
      have hll := hO.len
      obtain ⟨b, o, hAe, hbl, hrg⟩ := hO.sq.s.at_ hlt
      obtain ⟨x, hx⟩ : ∃ x, l'[j]'(by omega) = x := ⟨_, rfl⟩
      rw [hx] at hrg
      have hxm : x ∈ l' := by rw [← hx]; exact List.getElem_mem (by omega)
      have HXE := Lib.hid (hO.sq.e x hxm)
      have HXB := Lib.hid (hO.b x hxm)
      have HXD := Lib.hid (show x.D ∈ Ds by rw [← hDs]; exact List.mem_map.2 ⟨x, hxm, rfl⟩)
      have HXL := Lib.hid (show x.d.length ≤ 1025 by rw [hO.dlen hxm]; exact HDN.out _ HXD.out)
      have r0 : wr.cell? ⟨b, o + j * 3, none⟩ = some (.int .u64 (x.t : Int)) := by have := hrg 0 _ rfl; simpa using this
      have r1 : wr.cell? ⟨b, o + j * 3 + 1, none⟩ = some (.int .i64 x.k) := by have := hrg 1 _ rfl; simpa using this
      have r2 : wr.cell? ⟨b, o + j * 3 + 2, none⟩ = some (.slice x.D.a x.D.n x.D.c) := by have := hrg 2 _ rfl; simpa using this
      have hjw : wrap64 ((j : Int) + 1) = (j : Int) + 1 := by unfold wrap64; omega
      have HB6r := Lib.hid (show Below w6.heap.size w6 wr from HB7.out.trans (hj.out.bel.mono HB7.out.size))
      subst hAe
      clear hO hDs hll hbl hrg hx hxm
      go_upto_region 9 with fail
      obtain ⟨w9, hw9⟩ : ∃ w9, wr.alloc (.cells #[.int .u64 (x.t : Int), .int .i64 x.k, .slice x.D.a x.D.n x.D.c] 44) = w9 := ⟨_, rfl⟩
      have b9 : Below wr.heap.size wr w9 := by rw [← hw9]; exact (Below.refl _ _).alloc (Nat.le_refl _) _
      have X9 := Lib.hid (show Bl w9 wr.heap.size 44 x.cells by rw [← hw9]; exact Bl.new wr 44 x.cells)
      have HX9 := (HXE.out.below b9).more b9.size
      obtain ⟨w10, hw10⟩ : ∃ w10, w9.alloc (.cells #[.int .u64 (x.t : Int), .int .i64 x.k, .slice x.D.a x.D.n x.D.c] 44) = w10 := ⟨_, rfl⟩
      have b10 : Below w9.heap.size w9 w10 := by rw [← hw10]; exact (Below.refl _ _).alloc (Nat.le_refl _) _
      have S10 := one_en HX9
      rw [hw10] at S10
      have CE1 := Lib.hid (show Calls Try.prog 12 #[.slice (some ⟨w9.heap.size, 0, none⟩) 1 1, .int .i64 1] w10 _ from entries_any S10 1 (by omega))
      rw [show capL 1 (vsE [x]) = [x.v] from capL_one HXL.out] at CE1
      have e11 : min 1 1 = 1 := rfl
      rw [e11] at CE1
      have HW10 := Lib.hid hw10
      have B10 := Lib.hid (show Below wr.heap.size wr w10 from b9.trans (b10.mono b9.size))
      have B910 := Lib.hid b10
      have r1e := fun w => run_one_en w x
      rw [hw9]
      clear hw9 hw10 b9 b10 S10 e11 r0 r1 r2 HX9
      obtain ⟨r0, r1, r2⟩ := en_cells X9.out
      go_upto_region 10 with (first
    | (go_at_call 12; go_loud (rw [HW10.out]); go_loud (with_reducible refine Calls.mono (CE1.out) ?_); go_loud (rintro e w11 ⟨⟨A4, c4, l4, rfl, ho, hv⟩, h11⟩); go_loud (obtain ⟨y, g4, rfl, rfl, s0, s1, s2⟩ := one_own ho); go_loud (have HY := Lib.hid ho); go_loud (have HYV := Lib.hid (show y.v = x.v by injection hv)); go_loud (have B11 := Lib.hid (B10.out.trans (h11.mono B10.out.size))); go_loud (have X11 := Lib.hid (X9.out.below (B910.out.trans (h11.mono B910.out.size)) X9.out.lt)); go_loud (clear ho hv h11 r0 r1 r2))
    | fail)
      clear r1e s0 s1 s2
      obtain ⟨wA, hwA⟩ : ∃ wA, w11.alloc (.cells #[.int .u64 (y.t : Int), .int .i64 y.k, .slice y.D.a y.D.n y.D.c] 44) = wA := ⟨_, rfl⟩
      have b11 : Below w11.heap.size w11 wA := by rw [← hwA]; exact (Below.refl _ _).alloc (Nat.le_refl _) _
      have YA := Lib.hid (show Bl wA w11.heap.size 44 y.cells by rw [← hwA]; exact Bl.new w11 44 y.cells)
      have XA := Lib.hid (X11.out.below b11 X11.out.lt)
      have BA := Lib.hid (show Below wr.heap.size wr wA from B11.out.trans (b11.mono B11.out.size))
      have HYA := Lib.hid (HY.out.below b11)
      have DA := Lib.hid (hj.out.next BA.out hj.out.bel.size)
      have B6A := Lib.hid (show Below w6.heap.size w6 wA from HB6r.out.trans (BA.out.mono HB6r.out.size))
      have HYX := Lib.hid (show EnIn wA wA.heap.size y ∧ EnB y from ⟨HYA.out.sq.e y (by simp), HYA.out.b y (by simp)⟩)
      have HXA := Lib.hid (show EnIn wA wA.heap.size x from (HXE.out.below BA.out).more BA.out.size)
      rw [hwA]
      clear hwA b11 X11 HY X9 HW10 B10 B910 B11 CE1 HYA HXE
      have FA := Lib.hid (fun (W : World) (hw : Below wA.heap.size wA W) => And.intro (HQ.out W (B6A.out.trans (hw.mono B6A.out.size))) (And.intro (en_cells (XA.out.below hw XA.out.lt)) (en_cells (YA.out.below hw YA.out.lt))))
      obtain ⟨⟨⟨bi, bt, bes⟩, ⟨p1, p2⟩, m⟩, hr⟩ : ∃ r, appendW ⟨i, t, vsE l1⟩ x.v = r := ⟨_, rfl⟩
      have CAP := Lib.hid (show Calls Try.prog 19 #[.agg #[.int .u64 (i : Int), .int .u64 (t : Int), .slice A1 n1 k1], .agg #[.int .u64 (x.t : Int), .int .i64 x.k, .slice x.D.a x.D.n x.D.c]] wA _ from Append_any (HS1.out wA B6A.out) (by omega) i t hi ht HXA.out HXB.out)
      rw [hr] at CAP
      dsimp only at CAP
      have HR := Lib.hid hr
      clear hr
      have hbA := Below.refl wA.heap.size wA
      obtain ⟨⟨⟨c0, c1, c2⟩, d0, d1, d2⟩, ⟨x0, x1, x2⟩, y0, y1, y2⟩ := FA.out _ hbA
      go_upto_region 11 with (first
    | (go_at_call 19; go_loud (with_reducible refine Calls.mono (CAP.out) ?_); go_loud (rintro e wB ⟨⟨v, rfl, A5, n5, k5, l5, rfl, ho, hv⟩, hB⟩); go_loud (dsimp only at ho hv); go_loud (dsimp only); go_loud (have OB := Lib.hid ho); go_loud (have VB := Lib.hid hv); go_loud (have BB := Lib.hid hB); go_loud (clear ho hv hB c0 c1 c2 d0 d1 d2 x0 x1 x2 y0 y1 y2))
    | fail)
      obtain ⟨wC, hwC⟩ : ∃ wC, (wB.alloc (.cells #[.int .u64 (bi : Int), .int .u64 (bt : Int), .slice A5 n5 k5] 27)).alloc (.cells #[.int .u64 (p1 : Int), .int .u64 (p2 : Int)] 24) = wC := ⟨_, rfl⟩
      have L12 := Lib.hid (show Bl wC wB.heap.size 27 (lgC bi bt A5 n5 k5) by rw [← hwC]; exact (Bl.new wB 27 (lgC bi bt A5 n5 k5)).alloc _)
      have L13 := Lib.hid (show Bl wC (wB.heap.size + 1) 24 (atC p1 p2) by
        rw [← hwC]
        have h := Bl.new (wB.alloc (.cells #[.int .u64 (bi : Int), .int .u64 (bt : Int), .slice A5 n5 k5] 27)) 24 (atC p1 p2)
        simp only [World.size_alloc] at h
        exact h)
      have bBC : Below wB.heap.size wB wC := by rw [← hwC]; exact ((Below.refl _ _).alloc (Nat.le_refl _) _).alloc (by simp) _
      have BC := Lib.hid (show Below wA.heap.size wA wC from BB.out.trans (bBC.mono BB.out.size))
      have OC := Lib.hid (OB.out.below bBC)
      have hn5 : n5 ≤ 1000 := by
        have h1 := OB.out.len
        have h2 := congrArg List.length VB.out
        have h3 := append_len ⟨i, t, vsE l1⟩ x.v
        rw [HR.out] at h3
        have h4 : bes.length ≤ (vsE l1).length + 1 := h3
        have h5 := (HS1.out wA B6A.out).len
        rw [vsE_len] at h2 h4
        omega
      rw [hwC]
      clear hwC bBC OB BB CAP hbA
      have FC := Lib.hid (fun (W : World) (hw : Below wC.heap.size wC W) => And.intro (FA.out W (BC.out.trans (hw.mono BC.out.size))) (And.intro (lg_cells (L12.out.below hw L12.out.lt)) (at_cells (L13.out.below hw L13.out.lt))))
      have hbC := Below.refl wC.heap.size wC
      obtain ⟨⟨⟨⟨c0, c1, c2⟩, d0, d1, d2⟩, ⟨x0, x1, x2⟩, y0, y1, y2⟩, ⟨g0, g1, g2⟩, z0, z1⟩ := FC.out _ hbC
      rcases R with _ | _
      · have hr := HR.out
        rw [ap1 HRR.out] at hr
        injection hr with hr1 hr2
        injection hr1 with hb1 hb2 hb3
        injection hr2 with hr2 hr3
        injection hr2 with hp1 hp2
        subst hr3
        have dp1 : ((p1 : Int) == 0) = true := by rw [← hp1]; rfl
        have dp2 : ((p2 : Int) == 0) = true := by rw [← hp2]; rfl
        have heq := fun w => eq_at (p1 : Int) (p2 : Int) 0 0 w
        have CSZ := Lib.hid (show Calls Try.prog 14 #[.agg #[.int .u64 (bi : Int), .int .u64 (bt : Int), .slice A5 n5 k5], .agg #[.int .u64 0, .int .u64 0, .slice none 0 0]] wC _ from refSame_any OC.out.sq hn5 SqE.nil_ (by omega) bi bt 0 0)
        rw [show sameG ⟨bi, bt, vsE l5⟩ ⟨0, 0, vsE []⟩ = true from sameG_iff.2 (Lg.ext_ hb1.symm hb2.symm (VB.out.trans hb3.symm))] at CSZ
        clear hb1 hb2 hb3 hp1 hp2
        go_wp2_with (first
    | (go_at_call 14; go_loud (with_reducible refine Calls.mono (CSZ.out) ?_); go_loud (rintro e wD ⟨rfl, hD⟩); go_loud (have BD := Lib.hid (BC.out.trans (hD.mono BC.out.size))); go_loud (clear hD c0 c1 c2 d0 d1 d2 x0 x1 x2 y0 y1 y2 g0 g1 g2 z0 z1))
    | fail)
        go_roundw
        case rel => exact ⟨j + 1, by omega, by go_num, Lib.hid (DA.out.next BD.out (by have h1 := DA.out.bel.size; have h2 := hj.out.bel.size; exact h1))⟩
        case measure => simp [intOf]; omega
      · have CRA := Lib.hid (show Calls Try.prog 20 #[.agg #[.int .u64 (i : Int), .int .u64 (t : Int), .slice A2 n1 k2], .agg #[.int .u64 (y.t : Int), .int .i64 y.k, .slice y.D.a y.D.n y.D.c]] wC _ from refAppend_any (HS2.out wC (B6A.out.trans (BC.out.mono B6A.out.size))) (by omega) HEB2.out i t hi (by rw [HV5.out]; exact HRR.out) ((HYX.out.1.below BC.out).more BC.out.size) HYX.out.2)
        rw [HV5.out, HYV.out, HR.out] at CRA
        dsimp only at CRA
        go_upto_region 15 with (first
    | (go_at_call 20; go_loud (with_reducible refine Calls.mono (CRA.out) ?_); go_loud (rintro e wD ⟨⟨v, rfl, A6, n6, k6, l6, rfl, ho, hv⟩, hD⟩); go_loud (dsimp only at ho hv); go_loud (dsimp only); go_loud (have OD := Lib.hid ho); go_loud (have VD := Lib.hid hv); go_loud (have BD := Lib.hid hD); go_loud (clear ho hv hD c0 c1 c2 d0 d1 d2 x0 x1 x2 y0 y1 y2 g0 g1 g2 z0 z1))
    | fail)
        obtain ⟨wE, hwE⟩ : ∃ wE, (wD.alloc (.cells #[.int .u64 (bi : Int), .int .u64 (bt : Int), .slice A6 n6 k6] 27)).alloc (.cells #[.int .u64 (p1 : Int), .int .u64 (p2 : Int)] 24) = wE := ⟨_, rfl⟩
        have L15 := Lib.hid (show Bl wE wD.heap.size 27 (lgC bi bt A6 n6 k6) by rw [← hwE]; exact (Bl.new wD 27 (lgC bi bt A6 n6 k6)).alloc _)
        have L16 := Lib.hid (show Bl wE (wD.heap.size + 1) 24 (atC p1 p2) by
          rw [← hwE]
          have h := Bl.new (wD.alloc (.cells #[.int .u64 (bi : Int), .int .u64 (bt : Int), .slice A6 n6 k6] 27)) 24 (atC p1 p2)
          simp only [World.size_alloc] at h
          exact h)
        have bDE : Below wD.heap.size wD wE := by rw [← hwE]; exact ((Below.refl _ _).alloc (Nat.le_refl _) _).alloc (by simp) _
        have BE := Lib.hid (show Below wC.heap.size wC wE from BD.out.trans (bDE.mono BD.out.size))
        have OE := Lib.hid (OD.out.below bDE)
        have OCE := Lib.hid (OC.out.below BE.out)
        have hn6 : n6 = n5 := by
          have h1 := OD.out.len
          have h2 := congrArg List.length VD.out
          have h3 := OC.out.len
          have h4 := congrArg List.length VB.out
          rw [vsE_len] at h2 h4
          omega
        subst hn6
        rw [hwE]
        clear hwE bDE OD BD CRA hbC
        have L12E := Lib.hid (L12.out.below BE.out L12.out.lt)
        have L13E := Lib.hid (L13.out.below BE.out L13.out.lt)
        obtain ⟨g0, g1, g2⟩ := lg_cells L12E.out
        obtain ⟨z0, z1⟩ := at_cells L13E.out
        obtain ⟨u0, u1, u2⟩ := lg_cells L15.out
        obtain ⟨q0, q1⟩ := at_cells L16.out
        have dmm : (m != m) = false := by simp
        have heq := fun w => eq_at (p1 : Int) (p2 : Int) (p1 : Int) (p2 : Int) w
        have CSE := Lib.hid (show Calls Try.prog 14 #[.agg #[.int .u64 (bi : Int), .int .u64 (bt : Int), .slice A5 n6 k5], .agg #[.int .u64 (bi : Int), .int .u64 (bt : Int), .slice A6 n6 k6]] wE _ from refSame_any OCE.out.sq hn5 OE.out.sq hn5 bi bt bi bt)
        rw [show sameG ⟨bi, bt, vsE l5⟩ ⟨bi, bt, vsE l6⟩ = true from sameG_iff.2 (Lg.ext_ rfl rfl (VB.out.trans VD.out.symm))] at CSE
        go_upto_region 17 with (first
    | (go_at_call 14; go_loud (with_reducible refine Calls.mono (CSE.out) ?_); go_loud (rintro e wF ⟨rfl, hF⟩); go_loud (have BF := Lib.hid (BE.out.trans (hF.mono BE.out.size))); go_loud (have L12F := Lib.hid (L12E.out.below hF L12E.out.lt)); go_loud (have OF := Lib.hid (OCE.out.below hF)); go_loud (clear hF g0 g1 g2 z0 z1 u0 u1 u2 q0 q1))
    | fail)
        clear dmm heq CSE L12E L13E L15 L16 OE
        obtain ⟨g0, g1, g2⟩ := lg_cells L12F.out
        have BAF := Lib.hid (show Below wA.heap.size wA wF from BC.out.trans (BF.out.mono BC.out.size))
        have CSP := Lib.hid (show Calls Try.prog 18 #[.agg #[.int .u64 (bi : Int), .int .u64 (bt : Int), .slice A5 n6 k5]] wF _ from spoil_any OF.out.m BAF.out.size hn5 bi bt)
        go_upto_region 18 with (first
    | (go_at_call 18; go_loud (with_reducible refine Calls.mono (CSP.out) ?_); go_loud (rintro e wG ⟨rfl, hG⟩); go_loud (have BG := Lib.hid (BAF.out.trans hG)); go_loud (clear hG g0 g1 g2))
    | fail)
        have DG := Lib.hid (DA.out.next BG.out (by have h1 := DA.out.bel.size; exact h1))
        have XG := Lib.hid (XA.out.below BG.out XA.out.lt)
        clear FC FA L12 L13 L12F OC OCE OF VB VD HR CSP BAF BF BE BC BG
        obtain ⟨x0, x1, x2⟩ := en_cells XG.out
        obtain ⟨q, hq⟩ : ∃ q, x.D.n = q := ⟨_, rfl⟩
        have hqn : q ≤ 1025 := by rw [← hq]; exact HDN.out _ HXD.out
        have hq0 : (0 : Int) ≤ (q : Int) := Int.natCast_nonneg _
        rw [hq] at x2
        have HQN := Lib.hid hq
        clear hq
        go_upto_block 2 with fail
        clear x0 x1 x2
        go_cut [] (fun wx => Hid (Dat w7 w7.heap.size (some ⟨b, o, none⟩) n3 c3 Ds wx))
        case first =>
          go_wp2_with fail
          obtain ⟨wo, rfl⟩ : ∃ wo : World, wo = wr := ⟨_, rfl⟩
          go_loopw [91] (fun v wv => ∃ e : Nat, e ≤ q ∧ v = .int .i64 (e : Int) ∧ Hid (Dat w7 w7.heap.size (some ⟨b, o, none⟩) n3 c3 Ds wv) ∧ Hid (Bl wv wo.heap.size 44 x.cells)) (fun v _ => q - (intOf v).toNat)
          case atStart => exact ⟨0, Nat.zero_le _, rfl, DG, XG⟩
          case round =>
            obtain ⟨e, heq2, rfl, hD, hX⟩ := hrel
            have he0 : (0 : Int) ≤ (e : Int) := Int.natCast_nonneg _
            by_cases hl2 : e < q
            · have hd2 : decide ((e : Int) < (q : Int)) = true := by simp; omega
              have he1 : (e : Int) < (q : Int) := by omega
              obtain ⟨gd, z, ed, pz, pzf, ⟨cs, hcs⟩, hgd⟩ := hD.out.peek HXD.out (j := e) (by rw [HQN.out]; exact hl2)
              obtain ⟨x0, x1, x2⟩ := en_cells hX.out
              rw [ed, HQN.out] at x2
              have HP := Lib.hid (hD.out.poke HXD.out (by rw [HQN.out]; exact hl2) ed (z ^^^ 238))
              have HX2 := Lib.hid (hX.out.far (p := ⟨gd, e, none⟩) (bl_ne hX.out hcs (by decide)) (bv (z ^^^ 238)))
              have HXV : Hid (Value.int .u8 (bits .xor .u8 (z.toNat : Int) 238) = bv (z ^^^ 238)) := Lib.hid (by rw [xor_ee]; rfl)
              simp only [bv] at pz
              clear ed hcs hgd x0 x1
              go_wp2_with fail
              rw [HXV.out]
              clear hjw
              refine ⟨⟨e + 1, by omega, by go_num, HP, HX2⟩, ?_⟩
              show q - ((e : Int) + 1).toNat < q - (e : Int).toNat
              omega
            · have hd2 : decide ((e : Int) < (q : Int)) = false := by simp; omega
              go_wp2_with fail
              go_meet
              case rel => exact hD
        case rest =>
          have hb6v : Below w6.heap.size w6 wc := HB7.out.trans (hcut.out.bel.mono HB7.out.size)
          obtain ⟨⟨c0, c1, c2⟩, d0, d1, d2⟩ := HQ.out _ hb6v
          have CSL := Lib.hid (show Calls Try.prog 14 #[.agg #[.int .u64 (i : Int), .int .u64 (t : Int), .slice A1 n1 k1], .agg #[.int .u64 (i : Int), .int .u64 (t : Int), .slice A2 n1 k2]] wc _ from refSame_any (HS1.out wc hb6v) (by omega) (HS2.out wc hb6v) (by omega) i t i t)
          rw [show sameG ⟨i, t, vsE l1⟩ ⟨i, t, vsE l2⟩ = true from sameG_iff.2 (Lg.ext_ rfl rfl HV5.out.symm)] at CSL
          clear hb6v
          go_wp2_with (first
    | (go_at_call 14; go_loud (with_reducible refine Calls.mono (CSL.out) ?_); go_loud (rintro e wy ⟨rfl, hY⟩); go_loud (have DY := Lib.hid (hcut.out.next hY hcut.out.bel.size)); go_loud (clear hY c0 c1 c2 d0 d1 d2))
    | fail)
          go_roundw
          case rel => exact ⟨j + 1, by omega, by go_num, DY⟩
          case measure => simp [intOf]; omega
    · have hd : decide ((j : Int) < (n3 : Int)) = false := by simp; omega
      have hb6r : Below w6.heap.size w6 wr := HB7.out.trans (hj.out.bel.mono HB7.out.size)
      obtain ⟨⟨c0, c1, c2⟩, d0, d1, d2⟩ := HQ.out _ hb6r
      have HB6r := Lib.hid hb6r
      obtain ⟨⟨⟨bi, bt, bes⟩, m⟩, hr⟩ : ∃ r, compactW ⟨i, t, vsE l1⟩ k = r := ⟨_, rfl⟩
      have CCP := Lib.hid (show Calls Try.prog 21 #[.agg #[.int .u64 (i : Int), .int .u64 (t : Int), .slice A1 n1 k1], .int .u64 (k : Int)] wr _ from Compact_any (HS1.out wr hb6r) (by omega) i t hi ht k hk)
      rw [hr] at CCP
      dsimp only at CCP
      have HR := Lib.hid hr
      clear hr hb6r
      go_upto_region 27 with (first
    | (go_at_call 21; go_loud (with_reducible refine Calls.mono (CCP.out) ?_); go_loud (rintro e wB ⟨⟨v, rfl, A5, n5, k5, l5, rfl, ho, hv⟩, hB⟩); go_loud (dsimp only at ho hv); go_loud (dsimp only); go_loud (have OB := Lib.hid ho); go_loud (have VB := Lib.hid hv); go_loud (have BB := Lib.hid hB); go_loud (clear ho hv hB c0 c1 c2 d0 d1 d2))
    | fail)
      obtain ⟨wC, hwC⟩ : ∃ wC, wB.alloc (.cells #[.int .u64 (bi : Int), .int .u64 (bt : Int), .slice A5 n5 k5] 27) = wC := ⟨_, rfl⟩
      have L19 := Lib.hid (show Bl wC wB.heap.size 27 (lgC bi bt A5 n5 k5) by rw [← hwC]; exact Bl.new wB 27 (lgC bi bt A5 n5 k5))
      have bBC : Below wB.heap.size wB wC := by rw [← hwC]; exact (Below.refl _ _).alloc (Nat.le_refl _) _
      have BC := Lib.hid (show Below wr.heap.size wr wC from BB.out.trans (bBC.mono BB.out.size))
      have OC := Lib.hid (OB.out.below bBC)
      have hn5 : n5 ≤ 1000 := by
        have h1 := OB.out.len
        have h2 := congrArg List.length VB.out
        have h3 := compact_len ⟨i, t, vsE l1⟩ k
        rw [HR.out] at h3
        have h4 : bes.length ≤ (vsE l1).length := h3
        have h5 := (HS1.out wr HB6r.out).len
        rw [vsE_len] at h2 h4
        omega
      have b6C : Below w6.heap.size w6 wC := HB6r.out.trans (BC.out.mono HB6r.out.size)
      have B6C := Lib.hid b6C
      rw [hwC]
      clear hwC bBC OB BB CCP
      obtain ⟨⟨c0, c1, c2⟩, d0, d1, d2⟩ := HQ.out _ b6C
      clear b6C
      rcases R with _ | _
      · have hr := HR.out
        have e0 : compactW ⟨i, t, vsE l1⟩ k = (zLg, 220) := by unfold compactW; rw [if_pos HRR.out]
        rw [e0] at hr
        injection hr with hr1 hr3
        injection hr1 with hb1 hb2 hb3
        subst hr3
        have HZ := Lib.hid (show sameG ⟨bi, bt, vsE l5⟩ ⟨0, 0, vsE []⟩ = true from sameG_iff.2 (Lg.ext_ hb1.symm hb2.symm (VB.out.trans hb3.symm)))
        clear hb1 hb2 hb3 e0
        have CRW := Lib.hid (show Calls Try.prog 22 #[.agg #[.int .u64 (i : Int), .int .u64 (t : Int), .slice A2 n1 k2], .int .u64 (k : Int)] wC _ from refCompactW_any (HS2.out wC B6C.out) (by omega) HEB2.out i t k)
        go_upto_region 28 with (first
    | (go_at_call 22; go_loud (with_reducible refine Calls.mono (CRW.out) ?_); go_loud (rintro e wD ⟨⟨i2, t2, A6, n6, k6, r2, rfl⟩, hD⟩); go_loud (have BD := Lib.hid hD); go_loud (clear hD c0 c1 c2 d0 d1 d2))
    | fail)
        obtain ⟨wE, hwE⟩ : ∃ wE, wD.alloc (.cells #[.int .u64 (i2 : Int), .int .u64 (t2 : Int), .slice A6 n6 k6] 27) = wE := ⟨_, rfl⟩
        have BE := Lib.hid (show Below wC.heap.size wC wE by rw [← hwE]; exact BD.out.alloc BD.out.size _)
        rw [hwE]
        clear hwE BD
        obtain ⟨g0, g1, g2⟩ := lg_cells (L19.out.below BE.out L19.out.lt)
        have CSZ := Lib.hid (show Calls Try.prog 14 #[.agg #[.int .u64 (bi : Int), .int .u64 (bt : Int), .slice A5 n5 k5], .agg #[.int .u64 0, .int .u64 0, .slice none 0 0]] wE _ from refSame_any (OC.out.below BE.out).sq hn5 SqE.nil_ (by omega) bi bt 0 0)
        rw [HZ.out] at CSZ
        go_wp2_with (first
    | (go_at_call 14; go_loud (with_reducible refine Calls.mono (CSZ.out) ?_); go_loud (rintro e wF ⟨rfl, hF⟩); go_loud (have BF := Lib.hid (BE.out.trans (hF.mono BE.out.size))); go_loud (clear hF g0 g1 g2))
    | fail)
        go_ret
        exact ⟨rfl, HB46.out.trans ((B6C.out.trans (BF.out.mono B6C.out.size)).mono HB46.out.size)⟩
      · have hw2 : ∃ ok : Bool, cutR ⟨i, t, vsE l2⟩ k = (⟨bi, bt, bes⟩, ok) ∧ ((ok = true ∧ m = 0) ∨ (ok = false ∧ m = 4)) := by
          have hr := HR.out
          rw [HV5.out]
          unfold compactW at hr
          rw [if_neg (by rw [HRR.out]; simp)] at hr
          unfold cutR
          rcases hp : placeW ⟨i, t, vsE l1⟩ k with _ | u
          · rw [hp] at hr
            injection hr with hr1 hr2
            exact ⟨false, by rw [← hr1], .inr ⟨rfl, hr2.symm⟩⟩
          · rw [hp] at hr
            injection hr with hr1 hr2
            exact ⟨true, by rw [← hr1], .inl ⟨rfl, hr2.symm⟩⟩
        obtain ⟨ok, hck, hokm⟩ := hw2
        have hin : i + n1 < 18446744073709551616 := by
          have h := (isLog_sum (show isLogW ⟨i, t, vsE l1⟩ = true from HRR.out) (HS1.out wC B6C.out).len).2
          omega
        have CRW := Lib.hid (show Calls Try.prog 22 #[.agg #[.int .u64 (i : Int), .int .u64 (t : Int), .slice A2 n1 k2], .int .u64 (k : Int)] wC _ from refCompact_any (HS2.out wC B6C.out) (by omega) HEB2.out i t hin k)
        rw [hck] at CRW
        dsimp only at CRW
        clear hck hin
        go_upto_region 28 with (first
    | (go_at_call 22; go_loud (with_reducible refine Calls.mono (CRW.out) ?_); go_loud (rintro e wD ⟨⟨v, rfl, A6, n6, k6, l6, rfl, ho, hv⟩, hD⟩); go_loud (dsimp only at ho hv); go_loud (dsimp only); go_loud (have BD := Lib.hid hD); go_loud (have OD := Lib.hid ho); go_loud (have VD := Lib.hid hv); go_loud (clear hD ho hv c0 c1 c2 d0 d1 d2))
    | fail)
        obtain ⟨wE, hwE⟩ : ∃ wE, wD.alloc (.cells #[.int .u64 (bi : Int), .int .u64 (bt : Int), .slice A6 n6 k6] 27) = wE := ⟨_, rfl⟩
        have L21 := Lib.hid (show Bl wE wD.heap.size 27 (lgC bi bt A6 n6 k6) by rw [← hwE]; exact Bl.new wD 27 (lgC bi bt A6 n6 k6))
        have bDE : Below wD.heap.size wD wE := by rw [← hwE]; exact (Below.refl _ _).alloc (Nat.le_refl _) _
        have BE := Lib.hid (show Below wC.heap.size wC wE from BD.out.trans (bDE.mono BD.out.size))
        have OE := Lib.hid (OD.out.below bDE)
        have OCE := Lib.hid (OC.out.below BE.out)
        have hn6 : n6 = n5 := by
          have h1 := OD.out.len
          have h2 := congrArg List.length VD.out
          have h3 := OC.out.len
          have h4 := congrArg List.length VB.out
          rw [vsE_len] at h2 h4
          omega
        subst hn6
        rw [hwE]
        clear hwE bDE OD BD CRW
        have L19E := Lib.hid (L19.out.below BE.out L19.out.lt)
        obtain ⟨g0, g1, g2⟩ := lg_cells L19E.out
        obtain ⟨u0, u1, u2⟩ := lg_cells L21.out
        have CSE := Lib.hid (show Calls Try.prog 14 #[.agg #[.int .u64 (bi : Int), .int .u64 (bt : Int), .slice A5 n6 k5], .agg #[.int .u64 (bi : Int), .int .u64 (bt : Int), .slice A6 n6 k6]] wE _ from refSame_any OCE.out.sq hn5 OE.out.sq hn5 bi bt bi bt)
        rw [show sameG ⟨bi, bt, vsE l5⟩ ⟨bi, bt, vsE l6⟩ = true from sameG_iff.2 (Lg.ext_ rfl rfl (VB.out.trans VD.out.symm))] at CSE
        have BrE := Lib.hid (show Below wr.heap.size wr wE from BC.out.trans (BE.out.mono BC.out.size))
        clear L19 L21 OC OE VB VD HR BE BC
        rcases hokm with ⟨rfl, rfl⟩ | ⟨rfl, rfl⟩ <;> (
          go_upto_region 32 with (first
    | (go_at_call 14; go_loud (with_reducible refine Calls.mono (CSE.out) ?_); go_loud (rintro e wF ⟨rfl, hF⟩); go_loud (have BF := Lib.hid (BrE.out.trans (hF.mono BrE.out.size))); go_loud (have L19F := Lib.hid (L19E.out.below hF L19E.out.lt)); go_loud (have OF := Lib.hid (OCE.out.below hF)); go_loud (clear hF g0 g1 g2 u0 u1 u2))
    | fail)
          obtain ⟨g0, g1, g2⟩ := lg_cells L19F.out
          have CSP := Lib.hid (show Calls Try.prog 18 #[.agg #[.int .u64 (bi : Int), .int .u64 (bt : Int), .slice A5 n6 k5]] wF _ from spoil_any OF.out.m BF.out.size hn5 bi bt)
          have CSL := Lib.hid (fun (W : World) (hw : Below w6.heap.size w6 W) => (show Calls Try.prog 14 #[.agg #[.int .u64 (i : Int), .int .u64 (t : Int), .slice A1 n1 k1], .agg #[.int .u64 (i : Int), .int .u64 (t : Int), .slice A2 n1 k2]] W _ from refSame_any (HS1.out W hw) (by omega) (HS2.out W hw) (by omega) i t i t))
          rw [show sameG ⟨i, t, vsE l1⟩ ⟨i, t, vsE l2⟩ = true from sameG_iff.2 (Lg.ext_ rfl rfl HV5.out.symm)] at CSL
          go_wp2_with (first
    | (go_at_call 14; go_loud (with_reducible refine Calls.mono (CSL.out _ B6G.out) ?_); go_loud (rintro e wH ⟨rfl, hH⟩); go_loud (have BH := Lib.hid (B6G.out.trans (hH.mono B6G.out.size))); go_loud (clear hH c0 c1 c2 d0 d1 d2))
    | (go_at_call 18; go_loud (with_reducible refine Calls.mono (CSP.out) ?_); go_loud (rintro e wG ⟨rfl, hG⟩); go_loud (have B6G := Lib.hid (HB6r.out.trans ((BF.out.trans hG).mono HB6r.out.size))); go_loud (clear hG g0 g1 g2); go_loud (obtain ⟨⟨c0, c1, c2⟩, d0, d1, d2⟩ := HQ.out _ B6G.out))
    | fail)
          go_ret
          exact ⟨rfl, HB46.out.trans (BH.out.mono HB46.out.size)⟩)

theorem own : ownKnob Try.prog.godebug = none := by kernel_rfl
theorem laidOut : laidOutB Try.prog = true := by kernel_rfl

set_option maxRecDepth 100000 in
theorem lifted (os : Os) (started : os.Started) (H : Type) (enc : TypeId × Value → H) :
    ReturnsInHanded {} Try.checked os 4 .any (Rows.logAppendsSpec.pre6 enc Try.prog Try.f4 Rows.logAppendsRow.domain false) (Rows.logAppendsSpec.post enc Try.prog Try.f4 false true false false) := by
  refine returnsInHanded_of_change (C := Try.checked) own started (by kernel_rfl) Try.func4
    (ChangeSpec.witness6 (enc := enc) (C := Try.checked) false ⟨#[], #[.agg #[.int .u64 0, .int .u64 0, .slice none 0 0], .slice none 0 0, .int .u64 0], []⟩ 8 (by kernel_rfl) (by kernel_rfl) (by kernel_rfl) (by kernel_rfl)) ?_
  intro W base args ds gs before hval0 hW hcnd _
  have hval : ∀ (j : Nat) t v, Try.f4.params[j]? = some t → args[j]? = some v → Value.okWide Try.prog W .any base t v := hval0
  have hW' := hW
  obtain ⟨p, q, hA0, hV, rfl, hfz, hnd⟩ := hW
  have hA : DataW.TrodAll enc Try.prog W 0 (fun _ => true) true Try.f4.params.toList args.toList ds p := hA0
  rw [Try.params4] at hA hval
  obtain ⟨v0, vs0, d0, ds0, p0, q0, hargs, rfl, rfl, h0, r0⟩ := trodAll_cons hA
  obtain ⟨v1, vs1, d1, ds1, p1, q1, rfl, rfl, rfl, h1, r1⟩ := trodAll_cons r0
  obtain ⟨v2, vs2, d2, ds2, p2, q2, rfl, rfl, rfl, h2, r2⟩ := trodAll_cons r1
  obtain ⟨rfl, rfl, rfl⟩ := trodAll_nil r2
  obtain rfl : args = #[v0, v1, v2] := by cases args; simp_all
  obtain ⟨rfl, rfl⟩ := trodVars_none hV
  have k0 := h0
  have lt0 : ∀ x ∈ p0, x.block < W.heap.size := by obtain ⟨m, hm⟩ := k0; exact DataW.trod_lt m _ _ _ hm
  obtain ⟨i0, t0, A0, n0, c0, l0, rfl, hi0, ht0, s0⟩ := log_arg (hval 0 27 v0 rfl rfl) h0
  have k1 := h1
  have lt1 : ∀ x ∈ p1, x.block < W.heap.size := by obtain ⟨m, hm⟩ := k1; exact DataW.trod_lt m _ _ _ hm
  obtain ⟨y1, len1, cap1, rfl⟩ := okWide_slice Try.underlying25 (hval 1 25 v1 rfl rfl)
  obtain ⟨fuel1, hf1⟩ := h1
  obtain ⟨A1, n1, c1, l1, eq1, s1⟩ := entries_arg (show DataW.trod enc Try.prog W 0 (fun _ => true) true fuel1 25 [.slice y1 len1 cap1] = some _ from hf1)
  injection eq1 with eqa1 eqb1 eqc1
  subst eqa1 eqb1 eqc1
  have k2 := h2
  have lt2 : ∀ x ∈ p2, x.block < W.heap.size := by obtain ⟨m, hm⟩ := k2; exact DataW.trod_lt m _ _ _ hm
  obtain ⟨z2, rfl, e2, f2, w2⟩ := open_int Try.underlying22 (hval 2 22 v2 rfl rfl) h2
  have b2 := bounds_u64 w2
  obtain ⟨a2, rfl⟩ : ∃ a2 : Nat, z2 = (a2 : Int) := ⟨z2.toNat, by omega⟩
  clear hA0 hval0
  refine (walk s0 i0 t0 hi0 ht0 s1 a2 (by omega)).mono fun e W' ⟨he, bel⟩ => ?_
  subst he
  exact ⟨_, rfl, _, _, _, [], _, [], hW', trodAll_mk1 (shut_bool Try.underlying4 _), (trodAll_cons_mk (Below.trod laidOut (by kernel_rfl) (of_decide_eq_true (by kernel_rfl)) k0 bel lt0) (trodAll_cons_mk (Below.trod laidOut (by kernel_rfl) (of_decide_eq_true (by kernel_rfl)) k1 bel lt1) (trodAll_cons_mk (Below.trod laidOut (by kernel_rfl) (of_decide_eq_true (by kernel_rfl)) k2 bel lt2) trodAll_mk0))), rfl, bel.frame _, fun h => by cases h⟩

theorem over : Rows.logAppendsRow.holds Try.pinned (OpenSpec.ofChange Rows.logAppendsSpec) :=
  OpenClaim.holds_of_wide 4 Try.f4 rfl rfl rfl rfl rfl rfl rfl ⟨rfl, rfl, rfl, rfl, rfl⟩ rfl rfl rfl rfl rfl (by kernel_rfl) Try.func4 (by kernel_rfl)
    (of_decide_eq_true (by kernel_rfl)) (by unfold Func.isWrapper; first | (rw [if_pos (by decide +kernel)]; kernel_rfl) | (rw [if_neg (by decide +kernel)]; exact ⟨rfl, rfl⟩))
    (fun os started H enc _ => lifted os started H enc)

theorem proved : Rows.LogAppendsSaid := over
#print axioms proved
end Go.Proofs.Ytgdcahakefmakaa.logAppends
