/-
  LOGS, THE DOCUMENT'S ANSWER: which entries and logs may be.
-/
import Derived.Test.YtgdcahakefmakaaGy
import Derived.Test.YtgdcahakefmakaaPm2
namespace Go.Proofs.Ytgdcahakefmakaa
set_option linter.unusedVariables false
set_option linter.unusedSimpArgs false
open Go.RowKit Go.WideShapes Go.ChangeShapes Go.Deep Go.Shelf
attribute [local irreducible] wpQuiet

theorem le_dec (m : Nat) : decide ((m : Int) ≤ 1024) = decide (m ≤ 1024) := by by_cases hh : m ≤ 1024 <;> simp [hh] <;> omega
theorem okE_parts (t : Nat) (k : Int) (d : List UInt8) (m : Nat) (hm : d.length = m) : okE ⟨t, k, d⟩ = (decide ((1 : Int) ≤ (t : Int)) && (((k == 1 && ((m : Int) == 0)) || (k == 2 || k == 3)) && decide ((m : Int) ≤ 1024))) := by
  have e1 : decide ((1 : Int) ≤ (t : Int)) = decide (0 < t) := by by_cases h : 0 < t <;> simp [h] <;> omega
  rw [e1, le_dec]
  unfold okE kindOk mostD
  show ((k == 1 || k == 2 || k == 3) && (decide (0 < t) && decide (d.length ≤ if k = 1 then 0 else 1024))) = _
  rw [hm]
  rcases kind_cases k with h | h | h | ⟨h1, h2, h3⟩
  · subst h
    by_cases h0 : m = 0
    · subst h0; simp
    · have : ((m : Int) == 0) = false := by
        rw [beq_eq_false_iff_ne]
        intro h
        exact h0 (by omega)
      simp [h0, this]
  · subst h; simp
  · subst h; simp
  · have d1 : (k == 1) = false := by simpa using h1
    have d2 : (k == 2) = false := by simpa using h2
    have d3 : (k == 3) = false := by simpa using h3
    simp [d1, d2, d3]
set_option maxRecDepth 100000 in
set_option maxHeartbeats 8000000 in
theorem refEntry_any {w : World} {B : Nat} {x : En} (h : EnIn w B x) : Calls Try.prog 52 #[enV x] w fun e w' => e = .returned (.bool (okE x.v)) ∧ Below w.heap.size w w' := by
  obtain ⟨t, k, ⟨A, n, c⟩, d⟩ := x
  have hl := h.d.len
  simp only at hl
  subst hl
  have hB : Below w.heap.size w (w.alloc (.cells #[.int .u64 (t : Int), .int .i64 k, .slice A d.length c] 44)) := (Below.refl _ _).alloc (Nat.le_refl _) _
  have HB := Lib.hid hB
  obtain ⟨m, hm⟩ : ∃ m, d.length = m := ⟨_, rfl⟩
  show Calls _ _ #[.agg #[.int .u64 (t : Int), .int .i64 k, .slice A d.length c]] _ (fun e w' => e = .returned (.bool (okE ⟨t, k, d⟩)) ∧ _)
  rw [okE_parts t k d m hm]
  rw [hm] at HB ⊢
  clear hm hB h
  have ht : decide ((t : Int) < 1) = !decide ((1 : Int) ≤ (t : Int)) := by by_cases h : (1 : Int) ≤ (t : Int) <;> simp [h] <;> omega
  obtain ⟨b1, h1⟩ : ∃ b, decide ((1 : Int) ≤ (t : Int)) = b := ⟨_, rfl⟩
  obtain ⟨b2, h2⟩ : ∃ b, (k == 1) = b := ⟨_, rfl⟩
  obtain ⟨b3, h3⟩ : ∃ b, (k == 2) = b := ⟨_, rfl⟩
  obtain ⟨b4, h4⟩ : ∃ b, (k == 3) = b := ⟨_, rfl⟩
  obtain ⟨b5, h5⟩ : ∃ b, ((m : Int) == 0) = b := ⟨_, rfl⟩
  obtain ⟨b6, h6⟩ : ∃ b, decide ((m : Int) ≤ 1024) = b := ⟨_, rfl⟩
  rw [h1] at ht
  rw [h1, h2, h3, h4, h5, h6]
  cases b1
  · clear h2 h3 h4 h5 h6
    go_enter Try.func52, Try.ntmps52
    go_wp2_with fail
    go_ret
    exact ⟨rfl, HB.out⟩
  cases b2 <;> cases b3 <;> cases b4 <;> cases b5 <;> cases b6 <;>
    (go_enter Try.func52, Try.ntmps52
     go_wp2_with fail
     go_ret
     exact ⟨rfl, HB.out⟩)
theorem riseE_at {f : Nat} {l : List Ev} {q : Nat} {e : Ev} (h : l[q]? = some e) : riseE f (l.drop q) = (okE e && (decide (f ≤ e.t) && riseE e.t (l.drop (q + 1)))) := by
  obtain ⟨h1, h2⟩ := List.getElem?_eq_some_iff.1 h
  rw [List.drop_eq_getElem_cons h1, h2]
  rfl
set_option maxRecDepth 100000 in
set_option maxHeartbeats 8000000 in
theorem rising_any {w : World} {A : Option Addr} {n c : Nat} {l : List En} (hs : SqE w w.heap.size A n c l) (hn : n ≤ 1000) (f : Nat) :
    Calls Try.prog 46 #[.slice A n c, .int .u64 (f : Int)] w fun e w' => e = .returned (.bool (riseE f (vsE l))) ∧ Below w.heap.size w w' := by
  have hlen := hs.len
  have HS := Lib.hid hs
  have hn63 : (n : Int) ≤ 9223372036854775807 := by have := hs.s.le; unfold maxLen at this; omega
  have HN63 := Lib.hid hn63
  obtain ⟨r, hr⟩ : ∃ r, riseE f (vsE l) = r := ⟨_, rfl⟩
  have HR := Lib.hid hr
  rw [hr]
  clear hs hn63 hr
  go_enter Try.func46, Try.ntmps46
  go_wp2_with fail
  go_loopw [1, 9] (fun v i wr => ∃ (k g : Nat), k ≤ n ∧ i = .int .i64 (k : Int) ∧ v = .int .u64 (g : Int) ∧ Hid (riseE g ((vsE l).drop k) = r) ∧ Hid (Below w.heap.size w wr)) (fun _ i _ => n - (intOf i).toNat)
  case atStart => exact ⟨0, f, Nat.zero_le _, rfl, rfl, Lib.hid (by rw [List.drop_zero]; exact HR.out), Lib.hid (Below.refl _ _)⟩
  case round =>
    obtain ⟨k, g, hk, rfl, rfl, hj, hbr⟩ := hrel
    have hk0 : (0 : Int) ≤ (k : Int) := Int.natCast_nonneg _
    by_cases hlt : k < n
    · have hd : decide ((k : Int) < (n : Int)) = true := by simp; omega
      have hk1 : (k : Int) < (n : Int) := by omega
      have TW := HS.out.below hbr.out
      obtain ⟨b, o, hA, hbl, hrg⟩ := TW.s.at_ hlt
      have hkl : k < l.length := by omega
      have hxe := TW.e _ (List.getElem_mem hkl)
      obtain ⟨x, hx⟩ : ∃ x, l[k] = x := ⟨_, rfl⟩
      rw [hx] at hrg hxe
      have hjx := hj.out
      rw [riseE_at (show (vsE l)[k]? = some x.v by unfold vsE; rw [List.getElem?_map, List.getElem?_eq_getElem hkl, hx]; rfl)] at hjx
      have HRG := Lib.hid (show wr.rangeAt b (o + k * 3) x.cells from hrg)
      obtain ⟨wA, hwA⟩ : ∃ wA, wr.alloc (.cells zEn.cells.toArray 44) = wA := ⟨_, rfl⟩
      have YA : Bl wA wr.heap.size 44 zEn.cells := by rw [← hwA]; exact Bl.new wr 44 zEn.cells
      have BA : Below wr.heap.size wr wA := by rw [← hwA]; exact (Below.refl _ _).alloc (Nat.le_refl _) _
      obtain ⟨wB, hwB⟩ : ∃ wB, wA.setCells wr.heap.size 0 x.cells = wB := ⟨_, rfl⟩
      have YB : Bl wB wr.heap.size 44 x.cells := by rw [← hwB]; exact bl_setCells YA rfl
      have BB : Below wr.heap.size wr wB := by rw [← hwB]; exact below_setCells BA (Nat.le_refl _) _ _
      have TA := Lib.hid (show wA.there wr.heap.size 0 3 from YA.th)
      have HWA := Lib.hid hwA
      have HWB := Lib.hid hwB
      have hwr := hbr.out.size
      have hbB : Below w.heap.size w wB := hbr.out.trans (BB.mono hwr)
      have HBB := Lib.hid hbB
      have HYB := Lib.hid YB
      have CE := Lib.hid (show Calls Try.prog 52 #[.agg #[.int .u64 (x.t : Int), .int .i64 x.k, .slice x.D.a x.D.n x.D.c]] wB _ from refEntry_any (hxe.below (BB.mono hwr)))
      obtain ⟨q1, hq1⟩ : ∃ q, okE x.v = q := ⟨_, rfl⟩
      rw [hq1] at CE hjx
      have HJX := Lib.hid hjx
      clear hrg hxe hx hwA YA BA hwB YB BB TW hbl hkl hjx hq1 hwr hbB
      subst hA
      go_upto_region 4 with (first
        | ((with_reducible refine lde (.tmp 11) ?_ ?_ b (o + k * 3) x ?_ HRG.out ?_); rfl; (first | rfl | (go_simp <;> fail)); (first | rfl | go_simp))
        | ((with_reducible refine alt 44 ?_ ?_ zEn.cells zero_en ?_); rfl; (first | rfl | (go_simp <;> fail)); rw [HWA.out]; (try simp only [Act.put, List.setIfInBounds_toArray, List.set_cons_succ, List.set_cons_zero]))
        | ((with_reducible refine ste (.tmp 6) (.tmp 12) ?_ ?_ wr.heap.size 0 x ?_ ?_ TA.out ?_); rfl; (first | rfl | (go_simp <;> fail)); rfl; rfl; rw [HWB.out])
        | fail)
      have y0 := HYB.out.cell 0
      have y1 := HYB.out.cell 1
      have y2 := HYB.out.cell 2
      simp only [En.cells, List.getElem?_cons_zero, List.getElem?_cons_succ] at y0 y1 y2
      cases q1
      · obtain rfl : r = false := by have := HJX.out; simpa using this.symm
        go_wp2_with (first
          | (go_at_call 52; with_reducible refine Calls.mono CE.out ?_; rintro e w2 ⟨rfl, hb2⟩; have HB2 := Lib.hid (HBB.out.trans (hb2.mono HBB.out.size)); clear hb2 y0 y1 y2)
          | fail)
        go_ret
        exact ⟨rfl, HB2.out⟩
      · by_cases hg : g ≤ x.t
        · have dg : decide (g ≤ x.t) = true := by simpa using hg
          have dlt : decide ((x.t : Int) < (g : Int)) = false := by simp; omega
          have HJ2 := Lib.hid (show riseE x.t ((vsE l).drop (k + 1)) = r by have := HJX.out; rw [show decide (g ≤ x.v.t) = true from dg] at this; simp only [Bool.true_and] at this; exact this)
          have hnx : ¬ x.t < g := by omega
          have dl2 : decide (x.t < g) = false := by simpa using hg
          clear hg dg
          go_wp2_with (first
            | (go_at_call 52; with_reducible refine Calls.mono CE.out ?_; rintro e w2 ⟨rfl, hb2⟩; have HB2 := Lib.hid (HBB.out.trans (hb2.mono HBB.out.size)); have Y2 := HYB.out.below hb2 HYB.out.lt; clear y0 y1 y2; have y0 := Y2.cell 0; simp only [En.cells, List.getElem?_cons_zero] at y0; clear hb2 Y2)
            | fail)
          go_roundw
          case rel => exact ⟨k + 1, x.t, by omega, by go_num, rfl, HJ2, HB2⟩
          case measure => simp [intOf]; omega
        · have dg : decide (g ≤ x.t) = false := by simpa using hg
          have dlt : decide ((x.t : Int) < (g : Int)) = true := by simp; omega
          have hnx : x.t < g := by omega
          have dl2 : decide (x.t < g) = true := by simpa using hnx
          obtain rfl : r = false := by have := HJX.out; rw [show decide (g ≤ x.v.t) = false from dg] at this; simpa using this.symm
          clear hg dg
          go_wp2_with (first
            | (go_at_call 52; with_reducible refine Calls.mono CE.out ?_; rintro e w2 ⟨rfl, hb2⟩; have HB2 := Lib.hid (HBB.out.trans (hb2.mono HBB.out.size)); have Y2 := HYB.out.below hb2 HYB.out.lt; clear y0 y1 y2; have y0 := Y2.cell 0; simp only [En.cells, List.getElem?_cons_zero] at y0; clear hb2 Y2)
            | fail)
          go_ret
          exact ⟨rfl, HB2.out⟩
    · have hd : decide ((k : Int) < (n : Int)) = false := by simp; omega
      obtain rfl : r = true := by
        have := hj.out
        rw [List.drop_eq_nil_of_le (by rw [vsE_len]; omega)] at this
        exact this.symm
      go_wp2_with fail
      go_ret
      exact ⟨rfl, hbr.out⟩
set_option maxRecDepth 100000 in
set_option maxHeartbeats 8000000 in
theorem right_any {w : World} {A : Option Addr} {n c : Nat} {l : List En} (hs : SqE w w.heap.size A n c l) (hn : n ≤ 1000) (i t : Nat) (hi : i < 18446744073709551616) :
    Calls Try.prog 16 #[lgV i t A n c] w fun e w' => e = .returned (.bool (isLogW ⟨i, t, vsE l⟩)) ∧ Below w.heap.size w w' := by
  obtain ⟨w1, hw1⟩ : ∃ w1, (w.alloc (.cells #[.int .u64 (i : Int), .int .u64 (t : Int), .slice A n c] 27)) = w1 := ⟨_, rfl⟩
  have L0 : Bl w1 (w.heap.size) 27 [.int .u64 (i : Int), .int .u64 (t : Int), .slice A n c] := by
    rw [← hw1]
    have h := Bl.new w 27 [.int .u64 (i : Int), .int .u64 (t : Int), .slice A n c]
    (try simp only [World.size_alloc] at h)
    exact h
  have B1 : Below w.heap.size w w1 := by
    rw [← hw1]
    exact ((Below.refl _ _).alloc (by simp <;> omega) _)
  have Z1 : w1.heap.size = w.heap.size + 1 := by rw [← hw1]; simp
  have HW := Lib.hid hw1
  have HB1 := Lib.hid B1
  have hlen := hs.len
  have hn63 : (n : Int) ≤ 9223372036854775807 := by have := hs.s.le; unfold maxLen at this; omega
  have CR := Lib.hid (rising_any (hs.next (Nat.le_refl _) B1) hn t)
  have c0 := L0.cell 0
  have c1 := L0.cell 1
  have c2 := L0.cell 2
  simp only [List.getElem?_cons_zero, List.getElem?_cons_succ] at c0 c1 c2
  have e0 : isLogW ⟨i, t, vsE l⟩ = (decide ((n : Int) ≤ 16) && ((((i : Int) == 0) == ((t : Int) == 0)) && (decide (i + n ≤ 18446744073709551614) && riseE t (vsE l)))) := by
    have h1 : decide ((n : Int) ≤ 16) = decide (n ≤ 16) := by by_cases h : n ≤ 16 <;> simp [h] <;> omega
    have h2 : ((i : Int) == 0) = decide (i = 0) := by by_cases h : i = 0 <;> simp [h]
    have h3 : ((t : Int) == 0) = decide (t = 0) := by by_cases h : t = 0 <;> simp [h]
    have h4 : decide (i + n ≤ 18446744073709551614) = (decide (i ≤ 18446744073709551614) && decide (n ≤ 18446744073709551614 - i)) := by
      rw [← Bool.decide_and]
      congr 1
      apply propext
      omega
    rw [h1, h2, h3, h4]
    unfold isLogW mayW topI
    show ((decide (i = 0) == decide (t = 0)) && (decide ((vsE l).length ≤ 16) && (decide (i ≤ 18446744073709551614) && (decide ((vsE l).length ≤ 18446744073709551614 - i) && riseE t (vsE l))))) = _
    rw [vsE_len, hlen]
    cases (decide (i = 0) == decide (t = 0)) <;> cases decide (n ≤ 16) <;> simp [Bool.and_assoc]
  rw [e0]
  obtain ⟨r, hr⟩ : ∃ r, riseE t (vsE l) = r := ⟨_, rfl⟩
  rw [hr] at CR ⊢
  clear hw1 L0 B1 hs hr e0 hlen
  by_cases h16 : n ≤ 16
  · have d16 : decide ((n : Int) ≤ 16) = true := by simp; omega
    rw [d16]
    obtain ⟨q1, hq1⟩ : ∃ q, ((i : Int) == 0) = q := ⟨_, rfl⟩
    obtain ⟨q2, hq2⟩ : ∃ q, ((t : Int) == 0) = q := ⟨_, rfl⟩
    rw [hq1, hq2]
    have hsub : IntKind.u64.wrap (18446744073709551614 - (n : Int)) = 18446744073709551614 - (n : Int) := by show (18446744073709551614 - (n : Int)) % 18446744073709551616 = _; omega
    have hwn : IntKind.u64.wrap (n : Int) = (n : Int) := by show (n : Int) % 18446744073709551616 = _; omega
    by_cases hq : (q1 == q2) = true
    · rw [hq]
      by_cases hin : i + n ≤ 18446744073709551614
      · have din : decide (i + n ≤ 18446744073709551614) = true := by simpa using hin
        have din2 : decide ((i : Int) ≤ 18446744073709551614 - (n : Int)) = true := by simp; omega
        rw [din]
        clear din hin h16 hi
        go_enter Try.func16, Try.ntmps16
        go_upto_region 1 with fail
        rw [HW.out]
        go_wp2_with (first | (go_at_call 46; refine Calls.mono CR.out ?_; rintro e w2 ⟨rfl, hb2⟩; have HB2 := Lib.hid (HB1.out.trans (hb2.mono HB1.out.size)); clear hb2) | fail)
        go_ret
        exact ⟨rfl, HB2.out⟩
      · have din : decide (i + n ≤ 18446744073709551614) = false := by simpa using hin
        have din2 : decide ((i : Int) ≤ 18446744073709551614 - (n : Int)) = false := by simp; omega
        rw [din]
        clear din hin h16 hi
        go_enter Try.func16, Try.ntmps16
        go_upto_region 1 with fail
        rw [HW.out]
        go_wp2_with fail
        go_ret
        exact ⟨rfl, HB1.out⟩
    · have hq' : (q1 == q2) = false := by simpa using hq
      rw [hq']
      clear h16 hi
      go_enter Try.func16, Try.ntmps16
      go_upto_region 1 with fail
      rw [HW.out]
      go_wp2_with fail
      go_ret
      exact ⟨rfl, HB1.out⟩
  · have d16 : decide ((n : Int) ≤ 16) = false := by simp; omega
    rw [d16]
    clear h16 hi
    go_enter Try.func16, Try.ntmps16
    go_upto_region 1 with fail
    rw [HW.out]
    go_wp2_with fail
    go_ret
    exact ⟨rfl, HB1.out⟩
end Go.Proofs.Ytgdcahakefmakaa
