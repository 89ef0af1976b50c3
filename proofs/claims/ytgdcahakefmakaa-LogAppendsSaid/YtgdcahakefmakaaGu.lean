/-
  LOGS: Splice.
-/
import Derived.Test.YtgdcahakefmakaaGt
namespace Go.Proofs.Ytgdcahakefmakaa
set_option linter.unusedVariables false
set_option linter.unusedSimpArgs false
open Go.RowKit Go.WideShapes Go.ChangeShapes Go.Deep Go.Shelf
attribute [local irreducible] wpQuiet

theorem SqE.cut {w : World} {B n c : Nat} {A : Option Addr} {l : List En} (h : SqE w B A n c l) {d : Nat} (hd : d ≤ n) : SqE w B (if c = d then A else A.map fun x => x.add (d * 3)) (n - d) (c - d) (l.drop d) := by
  have hcap := h.s.cap
  by_cases hcd : c = d
  · rw [if_pos hcd, show n - d = 0 by omega, show c - d = 0 by omega, show d = n by omega]
    exact h.none_
  · rw [if_neg hcd]
    exact h.drop hd (by omega)
theorem results_splice (tmps : Array Value) (W : World) (b i t : Nat) (A : Option Addr) (n c : Nat) (x : Int) (k : Int) (h6 : tmps.getD 6 undef = .pointer (some ⟨b, 0, none⟩)) (h7 : tmps.getD 7 undef = .int .u64 x) (h8 : tmps.getD 8 undef = .int .i64 k) (hx : Bl W b 27 (lgC i t A n c)) :
    (results Try.f13 tmps).run Try.prog W = .ok (.tuple #[lgV i t A n c, .int .u64 x, .int .i64 k]) W := by
  have h6' : tmps[6]?.getD undef = .pointer (some ⟨b, 0, none⟩) := by simpa using h6
  have h7' : tmps[7]?.getD undef = .int .u64 x := by simpa using h7
  have h8' : tmps[8]?.getD undef = .int .i64 k := by simpa using h8
  have x0 := hx.cell 0
  have x1 := hx.cell 1
  have x2 := hx.cell 2
  simp only [lgC, List.getElem?_cons_zero, List.getElem?_cons_succ] at x0 x1 x2
  simp [results, Try.f13, go_sem, h6', h7', h8', x0, x1, x2]
theorem ends_splice {W : World} {R : Ending → World → Prop} (tmps : Array Value) (b i t : Nat) (A : Option Addr) (n c : Nat) (x : Int) (k : Int) (h6 : tmps.getD 6 undef = .pointer (some ⟨b, 0, none⟩)) (h7 : tmps.getD 7 undef = .int .u64 x) (h8 : tmps.getD 8 undef = .int .i64 k) (hx : Bl W b 27 (lgC i t A n c))
    (h : R (.returned (.tuple #[lgV i t A n c, .int .u64 x, .int .i64 k])) W) : bodyPost Try.prog Try.f13 R Exit.ret { tmps := tmps, defers := [] } W := bodyPost_ret (results_splice tmps W b i t A n c x k h6 h7 h8 hx) rfl h
theorem mayW_sum {i t n : Nat} {es : List En} (h : mayW i t (vsE es) = true) (hl : es.length = n) : i + n ≤ 18446744073709551614 := by
  unfold mayW topI at h
  simp only [Bool.and_eq_true, decide_eq_true_eq, vsE_len, hl] at h
  omega
theorem mayW_rise {i t : Nat} {es : List Ev} (h : mayW i t es = true) : riseE t es = true := by
  unfold mayW at h
  simp only [Bool.and_eq_true] at h
  exact h.2.2
section
variable {l : Lg} {pi pt : Nat} {es : List Ev}
theorem sp1 (h : isLogW l = false) : spliceW l pi pt es = (zLg, 0, 220) := by unfold spliceW; rw [if_pos h]
theorem sp2 (h : isLogW l = true) (h2 : mayW pi pt es = false) : spliceW l pi pt es = (zLg, 0, 2) := by unfold spliceW; rw [if_neg (by rw [h]; simp), if_pos h2]
theorem sp3 (h : isLogW l = true) (h2 : mayW pi pt es = true) (h3 : l.bi ≤ pi) (h4 : hasW l pi pt = false) : spliceW l pi pt es = (zLg, 0, 4) := by unfold spliceW; rw [if_neg (by rw [h]; simp), if_neg (by rw [h2]; simp), if_pos ⟨h3, h4⟩]
theorem sp4 (h : isLogW l = true) (h2 : mayW pi pt es = true) (h3 : ¬ (l.bi ≤ pi ∧ hasW l pi pt = false)) : spliceW l pi pt es = match es.drop (knownW l pi es) with
  | [] => (l, pi + es.length, 0)
  | e :: r => match placeW l (pi + knownW l pi es) with
    | none => (zLg, 0, 4)
    | some a => if e.t < a then (zLg, 0, 2) else if 16 < (pi + knownW l pi es - l.bi) + (r.length + 1) then (zLg, 0, 6)
      else (⟨l.bi, l.bt, l.es.take (pi + knownW l pi es - l.bi) ++ e :: r⟩, pi + es.length, 0) := by unfold spliceW; rw [if_neg (by rw [h]; simp), if_neg (by rw [h2]; simp), if_neg h3]; rfl
end
set_option maxRecDepth 100000 in
set_option maxHeartbeats 40000000 in
theorem Splice_any {w : World} {A : Option Addr} {n c : Nat} {es : List En} (hs : SqE w w.heap.size A n c es) (hn : n ≤ 1000) (i t : Nat) (hi : i < 18446744073709551616) (ht : t < 18446744073709551616)
    {A' : Option Addr} {n' c' : Nat} {xs : List En} (hx : SqE w w.heap.size A' n' c' xs) (hn' : n' ≤ 1000) (pi pt : Nat) (hpi : pi < 18446744073709551616) (hpt : pt < 18446744073709551616) :
    Calls Try.prog 13 #[lgV i t A n c, atV pi pt, .slice A' n' c'] w fun e w' => (∃ v, e = .returned (.tuple #[v, .int .u64 ((spliceW ⟨i, t, vsE es⟩ pi pt (vsE xs)).2.1 : Int), .int .i64 (spliceW ⟨i, t, vsE es⟩ pi pt (vsE xs)).2.2]) ∧ LgOut w.heap.size w' (spliceW ⟨i, t, vsE es⟩ pi pt (vsE xs)).1 v) ∧ Below w.heap.size w w' := by
  obtain ⟨w1, hw1⟩ : ∃ w1, (((w.alloc (.cells #[.int .u64 (i : Int), .int .u64 (t : Int), .slice A n c] 27)).alloc (.cells #[.int .u64 (pi : Int), .int .u64 (pt : Int)] 24)).alloc (.cells #[.int .u64 0, .int .u64 0, .slice none 0 0] 27)) = w1 := ⟨_, rfl⟩
  have L0 : Bl w1 (w.heap.size) 27 [.int .u64 (i : Int), .int .u64 (t : Int), .slice A n c] := by
    rw [← hw1]
    have h := Bl.new w 27 [.int .u64 (i : Int), .int .u64 (t : Int), .slice A n c]
    (try simp only [World.size_alloc] at h)
    exact ((h.alloc _).alloc _)
  have L1 : Bl w1 (w.heap.size + 1) 24 [.int .u64 (pi : Int), .int .u64 (pt : Int)] := by
    rw [← hw1]
    have h := Bl.new (w.alloc (.cells #[.int .u64 (i : Int), .int .u64 (t : Int), .slice A n c] 27)) 24 [.int .u64 (pi : Int), .int .u64 (pt : Int)]
    (try simp only [World.size_alloc] at h)
    exact (h.alloc _)
  have L2 : Bl w1 (w.heap.size + 1 + 1) 27 [.int .u64 0, .int .u64 0, .slice none 0 0] := by
    rw [← hw1]
    have h := Bl.new ((w.alloc (.cells #[.int .u64 (i : Int), .int .u64 (t : Int), .slice A n c] 27)).alloc (.cells #[.int .u64 (pi : Int), .int .u64 (pt : Int)] 24)) 27 [.int .u64 0, .int .u64 0, .slice none 0 0]
    (try simp only [World.size_alloc] at h)
    exact h
  have B1 : Below w.heap.size w w1 := by
    rw [← hw1]
    exact ((((Below.refl _ _).alloc (by simp <;> omega) _).alloc (by simp <;> omega) _).alloc (by simp <;> omega) _)
  have Z1 : w1.heap.size = w.heap.size + 3 := by rw [← hw1]; simp
  have HQ : Hid (∀ w', Below w1.heap.size w1 w' → w'.cell? ⟨w.heap.size, 0, none⟩ = some (.int .u64 (i : Int)) ∧ w'.cell? ⟨w.heap.size, 1, none⟩ = some (.int .u64 (t : Int)) ∧ w'.cell? ⟨w.heap.size, 2, none⟩ = some (.slice A n c)) := Lib.hid fun w' hw => by
    have := L0.below hw L0.lt
    have q0 := this.cell 0
    have q1 := this.cell 1
    have q2 := this.cell 2
    simp only [List.getElem?_cons_zero, List.getElem?_cons_succ] at q0 q1 q2
    exact ⟨q0, q1, q2⟩
  have HP : Hid (∀ w', Below w1.heap.size w1 w' → w'.cell? ⟨w.heap.size + 1, 0, none⟩ = some (.int .u64 (pi : Int)) ∧ w'.cell? ⟨w.heap.size + 1, 1, none⟩ = some (.int .u64 (pt : Int))) := Lib.hid fun w' hw => by
    have := L1.below hw L1.lt
    have q0 := this.cell 0
    have q1 := this.cell 1
    simp only [List.getElem?_cons_zero, List.getElem?_cons_succ] at q0 q1
    exact ⟨q0, q1⟩
  obtain ⟨c0, c1, c2⟩ := HQ.out _ (Below.refl _ _)
  have HW := Lib.hid hw1
  have HB1 := Lib.hid B1
  have HL1 := Lib.hid (show Bl w1 (w.heap.size + 1 + 1) 27 (lgC 0 0 none 0 0) from L2)
  have HS := Lib.hid (fun (w' : World) (hw : Below w1.heap.size w1 w') => hs.next (Nat.le_refl _) (B1.trans (hw.mono B1.size)))
  have HX := Lib.hid (fun (w' : World) (hw : Below w1.heap.size w1 w') => hx.next (Nat.le_refl _) (B1.trans (hw.mono B1.size)))
  have CL := Lib.hid (isLog_any (HS.out _ (Below.refl _ _)) hn i t hi ht)
  have CM := Lib.hid (fun (w' : World) (hw : Below w1.heap.size w1 w') => mayFollow_any (HX.out w' hw) hn' pi pt hpi hpt)
  have HT := Lib.hid ht
  have hlen := hs.len
  have hlen' := hx.len
  have hF : w.heap.size ≤ w.heap.size + 1 + 1 := by omega
  have HF := Lib.hid hF
  have HZL : Hid (∀ w' (hb : Below w1.heap.size w1 w'), Bl (((w'.setCell ⟨w.heap.size + 1 + 1, 0, none⟩ (.int .u64 (0 : Int))).setCell ⟨w.heap.size + 1 + 1, 1, none⟩ (.int .u64 (0 : Int))).setCell ⟨w.heap.size + 1 + 1, 2, none⟩ (.slice none 0 0)) (w.heap.size + 1 + 1) 27 (lgC 0 0 none 0 0) ∧ Below w.heap.size w (((w'.setCell ⟨w.heap.size + 1 + 1, 0, none⟩ (.int .u64 (0 : Int))).setCell ⟨w.heap.size + 1 + 1, 1, none⟩ (.int .u64 (0 : Int))).setCell ⟨w.heap.size + 1 + 1, 2, none⟩ (.slice none 0 0))) := Lib.hid fun w' hb => res3 (w1 := w1) (HL1.out.below hb HL1.out.lt) (HB1.out.trans (hb.mono HB1.out.size)) HF.out 0 0 none 0 0
  clear hw1 L0 L1 L2 B1 Z1 hi hpt hF
  rcases hq : isLogW ⟨i, t, vsE es⟩ with _ | _
  · rw [sp1 hq]
    rw [hq] at CL
    clear hq hs hx
    go_enter Try.func13, Try.ntmps13
    go_upto_region 1 with fail
    rw [HW.out]
    go_wp2_with (first | (go_at_call 39; refine CL.out.mono ?_; rintro e w2 ⟨rfl, hb2⟩; have HB2 := Lib.hid hb2; clear hb2; have M := (HL1.out.below HB2.out HL1.out.lt); have r0 := M.cell 0; have r1 := M.cell 1; have r2 := M.cell 2; have f0 := M.frozen 0; have f1 := M.frozen 1; have f2 := M.frozen 2; simp only [lgC, List.getElem?_cons_zero, List.getElem?_cons_succ] at r0 r1 r2; clear M) | fail)
    have R := HZL.out _ HB2.out
    exact ends_splice _ _ 0 0 none 0 0 0 220 rfl rfl rfl R.1 ⟨⟨_, rfl, LgOut.zero _ _⟩, R.2⟩
  obtain ⟨hn16, hin⟩ := isLog_sum hq hlen
  rw [hq] at CL
  rcases hq2 : mayW pi pt (vsE xs) with _ | _
  · rw [sp2 hq hq2]
    rw [hq2] at CM
    clear hq hq2 hs hx hin
    go_enter Try.func13, Try.ntmps13
    go_upto_region 1 with fail
    rw [HW.out]
    go_wp2_with (first | (go_at_call 39; refine CL.out.mono ?_; rintro e w2 ⟨rfl, hb2⟩; have HB2 := Lib.hid hb2; clear hb2; clear c0 c1 c2; obtain ⟨c0, c1, c2⟩ := HQ.out _ HB2.out; obtain ⟨p0, p1⟩ := HP.out _ HB2.out) | (go_at_call 40; refine (CM.out _ HB2.out).mono ?_; rintro e w3 ⟨rfl, hb3⟩; have HB3 := Lib.hid (HB2.out.trans (hb3.mono HB2.out.size)); clear hb3; clear p0 p1; have M := (HL1.out.below HB3.out HL1.out.lt); have r0 := M.cell 0; have r1 := M.cell 1; have r2 := M.cell 2; have f0 := M.frozen 0; have f1 := M.frozen 1; have f2 := M.frozen 2; simp only [lgC, List.getElem?_cons_zero, List.getElem?_cons_succ] at r0 r1 r2; clear M) | fail)
    have R := HZL.out _ HB3.out
    exact ends_splice _ _ 0 0 none 0 0 0 2 rfl rfl rfl R.1 ⟨⟨_, rfl, LgOut.zero _ _⟩, R.2⟩
  have hin' := mayW_sum hq2 hlen'
  have HEB := Lib.hid (enB_of (i := i) (right_rise hq) hs)
  have HEX := Lib.hid (enB_of (i := pi) (mayW_rise hq2) hx)
  rw [hq2] at CM
  have CH := Lib.hid (fun (w' : World) (hw : Below w1.heap.size w1 w') => has_any (HS.out w' hw) hn i t (show i + n < 18446744073709551616 by omega) HT.out pi pt hpi)
  by_cases h3 : i ≤ pi ∧ hasW ⟨i, t, vsE es⟩ pi pt = false
  · rw [sp3 hq hq2 h3.1 h3.2]
    rw [h3.2] at CH
    have d3 : decide ((i : Int) ≤ (pi : Int)) = true := by have := h3.1; simp; omega
    have d3a : decide ((pi : Int) < (i : Int)) = false := by have := h3.1; simp; omega
    have d3b : (i : Int) ≤ (pi : Int) := by have := h3.1; omega
    have d3c : i ≤ pi := h3.1
    clear hq hq2 hs hx hin hin' h3
    go_enter Try.func13, Try.ntmps13
    go_upto_region 1 with fail
    rw [HW.out]
    go_wp2_with (first | (go_at_call 39; refine CL.out.mono ?_; rintro e w2 ⟨rfl, hb2⟩; have HB2 := Lib.hid hb2; clear hb2; clear c0 c1 c2; obtain ⟨c0, c1, c2⟩ := HQ.out _ HB2.out; obtain ⟨p0, p1⟩ := HP.out _ HB2.out) | (go_at_call 40; refine (CM.out _ HB2.out).mono ?_; rintro e w3 ⟨rfl, hb3⟩; have HB3 := Lib.hid (HB2.out.trans (hb3.mono HB2.out.size)); clear hb3; clear c0 c1 c2 p0 p1; obtain ⟨c0, c1, c2⟩ := HQ.out _ HB3.out; obtain ⟨p0, p1⟩ := HP.out _ HB3.out) | (go_at_call 41; refine (CH.out _ HB3.out).mono ?_; rintro e w4 ⟨rfl, hb4⟩; have HB4 := Lib.hid (HB3.out.trans (hb4.mono HB3.out.size)); clear hb4; clear c0 c1 c2 p0 p1; have M := (HL1.out.below HB4.out HL1.out.lt); have r0 := M.cell 0; have r1 := M.cell 1; have r2 := M.cell 2; have f0 := M.frozen 0; have f1 := M.frozen 1; have f2 := M.frozen 2; simp only [lgC, List.getElem?_cons_zero, List.getElem?_cons_succ] at r0 r1 r2; clear M) | fail)
    have R := HZL.out _ HB4.out
    exact ends_splice _ _ 0 0 none 0 0 0 4 rfl rfl rfl R.1 ⟨⟨_, rfl, LgOut.zero _ _⟩, R.2⟩
  have CK := Lib.hid (fun (w' : World) (hw : Below w1.heap.size w1 w') => known_any (HS.out w' hw) hn i t (show i + n < 18446744073709551616 by omega) HT.out (HX.out w' hw) hn' pi pt (show pi + n' < 18446744073709551616 by omega))
  have e0 := sp4 (l := ⟨i, t, vsE es⟩) hq hq2 h3
  have hkn := knownW_le ⟨i, t, vsE es⟩ pi (vsE xs)
  obtain ⟨kk, hkk⟩ : ∃ kk, knownW ⟨i, t, vsE es⟩ pi (vsE xs) = kk := ⟨_, rfl⟩
  rw [hkk] at CK e0 hkn
  rw [vsE_len, hlen'] at hkn e0
  have hsum : ((pi : Int) + (n' : Int)) < 18446744073709551616 := by omega
  have HDR := Lib.hid (show (vsE xs).drop kk = vsE (xs.drop kk) by unfold vsE; rw [List.map_drop])
  rw [HDR.out] at e0
  clear hkk
  by_cases hkn2 : kk = n'
  · subst hkn2
    rw [List.drop_of_length_le (by omega)] at e0
    rw [e0]
    have HBN := Lib.hid (And.intro hn16 hlen)
    clear e0 hkn hn hn' hn16 hin hin' hpi ht hlen' hs hx hq hq2
    by_cases hle : i ≤ pi
    · have hhas : hasW ⟨i, t, vsE es⟩ pi pt = true := by
        rcases hh : hasW ⟨i, t, vsE es⟩ pi pt with _ | _
        · exact absurd ⟨hle, hh⟩ h3
        · rfl
      rw [hhas] at CH
      have d3a : decide ((pi : Int) < (i : Int)) = false := by simp; omega
      have d3 : decide ((i : Int) ≤ (pi : Int)) = true := by simp; omega
      clear h3 hhas
      go_enter Try.func13, Try.ntmps13
      go_upto_region 1 with fail
      rw [HW.out]
      go_upto_region 10 with (first | (go_at_call 39; refine CL.out.mono ?_; rintro e w2 ⟨rfl, hb2⟩; have HB2 := Lib.hid hb2; clear hb2; clear c0 c1 c2; obtain ⟨c0, c1, c2⟩ := HQ.out _ HB2.out; obtain ⟨p0, p1⟩ := HP.out _ HB2.out) | (go_at_call 40; refine (CM.out _ HB2.out).mono ?_; rintro e w3 ⟨rfl, hb3⟩; have HB3 := Lib.hid (HB2.out.trans (hb3.mono HB2.out.size)); clear hb3; clear c0 c1 c2 p0 p1; obtain ⟨c0, c1, c2⟩ := HQ.out _ HB3.out; obtain ⟨p0, p1⟩ := HP.out _ HB3.out) | (go_at_call 41; refine (CH.out _ HB3.out).mono ?_; rintro e w4 ⟨rfl, hb4⟩; have HB4 := Lib.hid (HB3.out.trans (hb4.mono HB3.out.size)); clear hb4; clear c0 c1 c2 p0 p1; obtain ⟨c0, c1, c2⟩ := HQ.out _ HB4.out; obtain ⟨p0, p1⟩ := HP.out _ HB4.out) | (go_at_call 42; refine (CK.out _ HB4.out).mono ?_; rintro e w5 ⟨rfl, hb5⟩; have HB5 := Lib.hid (HB4.out.trans (hb5.mono HB4.out.size)); clear hb5; clear c0 c1 c2 p0 p1; obtain ⟨c0, c1, c2⟩ := HQ.out _ HB5.out; obtain ⟨p0, p1⟩ := HP.out _ HB5.out) | fail)
      obtain ⟨A6, hA6⟩ : ∃ A6, (if c' = kk then A' else Option.map (fun x => x.add (kk * 3)) A') = A6 := ⟨_, rfl⟩
      rw [hA6]
      clear hA6 hsum d3 d3a
      go_upto_region 11 with fail
      obtain ⟨w6, hw6⟩ : ∃ w6, w5.alloc (.cells #[.slice A n c] 25) = w6 := ⟨_, rfl⟩
      have SL6 := one_ls (HS.out _ HB5.out)
      rw [hw6] at SL6
      have CW := Lib.hid (with_any i t SL6 (by omega) (by rw [catL_one]; have := HBN.out; omega) (by rw [catL_one]; exact HEB.out))
      rw [catL_one, HBN.out.2] at CW
      have HB6 := Lib.hid (show Below w1.heap.size w1 w6 by rw [← hw6]; exact HB5.out.alloc HB5.out.size _)
      have HW6 := Lib.hid hw6
      clear hw6 SL6
      go_wp2_with (first | (go_at_call 43; rw [HW6.out]; refine CW.out.mono ?_; rintro e w7 ⟨⟨A7, c7, l7, rfl, ho7, hv7⟩, hb7⟩; have HB7 := Lib.hid (HB6.out.trans (hb7.mono HB6.out.size)); have HO7 := Lib.hid (ho7.base_ (base' := w1.heap.size) HB6.out.size); have HV7 := Lib.hid hv7; clear ho7 hv7 hb7 c0 c1 c2 p0 p1; have M := (HL1.out.below HB7.out HL1.out.lt); have r0 := M.cell 0; have r1 := M.cell 1; have r2 := M.cell 2; have f0 := M.frozen 0; have f1 := M.frozen 1; have f2 := M.frozen 2; simp only [lgC, List.getElem?_cons_zero, List.getElem?_cons_succ] at r0 r1 r2; clear M) | fail)
      have R := res3 (w1 := w1) (HL1.out.below HB7.out HL1.out.lt) (HB1.out.trans (HB7.out.mono HB1.out.size)) HF.out i t A7 n c7
      exact ends_splice _ _ i t A7 n c7 _ 0 rfl rfl rfl R.1 ⟨⟨_, by go_num, A7, n, c7, l7, rfl, (HO7.out.far' (HL1.out.below HB7.out HL1.out.lt) HL1.out.lt _ _ _).base_ HB1.out.size, HV7.out⟩, R.2⟩
    · have d3a : decide ((pi : Int) < (i : Int)) = true := by simp; omega
      have d3 : decide ((i : Int) ≤ (pi : Int)) = false := by simp; omega
      clear h3
      go_enter Try.func13, Try.ntmps13
      go_upto_region 1 with fail
      rw [HW.out]
      go_upto_region 10 with (first | (go_at_call 39; refine CL.out.mono ?_; rintro e w2 ⟨rfl, hb2⟩; have HB2 := Lib.hid hb2; clear hb2; clear c0 c1 c2; obtain ⟨c0, c1, c2⟩ := HQ.out _ HB2.out; obtain ⟨p0, p1⟩ := HP.out _ HB2.out) | (go_at_call 40; refine (CM.out _ HB2.out).mono ?_; rintro e w3 ⟨rfl, hb3⟩; have HB3 := Lib.hid (HB2.out.trans (hb3.mono HB2.out.size)); clear hb3; clear c0 c1 c2 p0 p1; obtain ⟨c0, c1, c2⟩ := HQ.out _ HB3.out; obtain ⟨p0, p1⟩ := HP.out _ HB3.out) | (go_at_call 42; refine (CK.out _ HB3.out).mono ?_; rintro e w5 ⟨rfl, hb5⟩; have HB5 := Lib.hid (HB3.out.trans (hb5.mono HB3.out.size)); clear hb5; clear c0 c1 c2 p0 p1; obtain ⟨c0, c1, c2⟩ := HQ.out _ HB5.out; obtain ⟨p0, p1⟩ := HP.out _ HB5.out) | fail)
      obtain ⟨A6, hA6⟩ : ∃ A6, (if c' = kk then A' else Option.map (fun x => x.add (kk * 3)) A') = A6 := ⟨_, rfl⟩
      rw [hA6]
      clear hA6 hsum d3 d3a
      go_upto_region 11 with fail
      obtain ⟨w6, hw6⟩ : ∃ w6, w5.alloc (.cells #[.slice A n c] 25) = w6 := ⟨_, rfl⟩
      have SL6 := one_ls (HS.out _ HB5.out)
      rw [hw6] at SL6
      have CW := Lib.hid (with_any i t SL6 (by omega) (by rw [catL_one]; have := HBN.out; omega) (by rw [catL_one]; exact HEB.out))
      rw [catL_one, HBN.out.2] at CW
      have HB6 := Lib.hid (show Below w1.heap.size w1 w6 by rw [← hw6]; exact HB5.out.alloc HB5.out.size _)
      have HW6 := Lib.hid hw6
      clear hw6 SL6
      go_wp2_with (first | (go_at_call 43; rw [HW6.out]; refine CW.out.mono ?_; rintro e w7 ⟨⟨A7, c7, l7, rfl, ho7, hv7⟩, hb7⟩; have HB7 := Lib.hid (HB6.out.trans (hb7.mono HB6.out.size)); have HO7 := Lib.hid (ho7.base_ (base' := w1.heap.size) HB6.out.size); have HV7 := Lib.hid hv7; clear ho7 hv7 hb7 c0 c1 c2 p0 p1; have M := (HL1.out.below HB7.out HL1.out.lt); have r0 := M.cell 0; have r1 := M.cell 1; have r2 := M.cell 2; have f0 := M.frozen 0; have f1 := M.frozen 1; have f2 := M.frozen 2; simp only [lgC, List.getElem?_cons_zero, List.getElem?_cons_succ] at r0 r1 r2; clear M) | fail)
      have R := res3 (w1 := w1) (HL1.out.below HB7.out HL1.out.lt) (HB1.out.trans (HB7.out.mono HB1.out.size)) HF.out i t A7 n c7
      exact ends_splice _ _ i t A7 n c7 _ 0 rfl rfl rfl R.1 ⟨⟨_, by go_num, A7, n, c7, l7, rfl, (HO7.out.far' (HL1.out.below HB7.out HL1.out.lt) HL1.out.lt _ _ _).base_ HB1.out.size, HV7.out⟩, R.2⟩
  · obtain ⟨f, hf⟩ : ∃ f, n' - kk = f := ⟨_, rfl⟩
    have hf0 : 0 < f := by omega
    have df : ((f : Int) == 0) = false := by simp; omega
    obtain ⟨pk, hpk⟩ : ∃ pk, pi + kk = pk := ⟨_, rfl⟩
    have hadd : (pi : Int) + (kk : Int) = (pk : Int) := by omega
    have hpk64 : pk < 18446744073709551616 := by omega
    have CP := Lib.hid (fun (w' : World) (hw : Below w1.heap.size w1 w') => place_any (HS.out w' hw) hn i t (show i + n < 18446744073709551616 by omega) HT.out pk hpk64)
    have HXC := Lib.hid (fun (w' : World) (hw : Below w1.heap.size w1 w') => (HX.out w' hw).drop (k := kk) hkn (by have := hx.s.cap; omega))
    rw [hf] at HXC
    have hkc : kk ≤ c' := by have := hx.s.cap; omega
    have hk0 : (0 : Int) ≤ (kk : Int) := Int.natCast_nonneg _
    have hk1 : (kk : Int) ≤ (n' : Int) := by omega
    have hk2 : (kk : Int) ≤ (c' : Int) := by omega
    have hk3 : (n' : Int) ≤ (c' : Int) := by have := hx.s.cap; omega
    obtain ⟨A6, hA6⟩ : ∃ A6, (Option.map (fun x => x.add (kk * 3)) A') = A6 := ⟨_, rfl⟩
    obtain ⟨c6, hc6⟩ : ∃ c6, c' - kk = c6 := ⟨_, rfl⟩
    rw [hA6, hc6] at HXC
    have HA6 := Lib.hid hA6
    have HC6 := Lib.hid hc6
    have HFF := Lib.hid hf
    obtain ⟨x, rest, hxr⟩ : ∃ x rest, xs.drop kk = x :: rest := by
      rcases hd : xs.drop kk with _ | ⟨x, rest⟩
      · have := congrArg List.length hd
        rw [List.length_drop] at this
        simp at this
        omega
      · exact ⟨x, rest, rfl⟩
    rw [hxr] at HXC e0
    have hrl : rest.length + 1 = f := by
      have := congrArg List.length hxr
      rw [List.length_drop, hlen'] at this
      simp at this
      omega
    have HEXD := Lib.hid (show ∀ y ∈ x :: rest, EnB y from fun y hy => HEX.out y (by rw [← hxr] at hy; exact List.mem_of_mem_drop hy))
    have HRL := Lib.hid hrl
    have e1 : vsE (x :: rest) = x.v :: vsE rest := rfl
    rw [hpk, e1] at e0
    obtain ⟨b6, o6, hA6', hb6, _⟩ := ((HXC.out w1 (Below.refl _ _)).s.pos hf0)
    subst hA6'
    have HX0 : Hid (∀ w', Below w1.heap.size w1 w' → w'.cell? ⟨b6, o6, none⟩ = some (.int .u64 (x.t : Int))) := Lib.hid fun w' hw => by
      obtain ⟨b, o, he, _, hrg⟩ := (HXC.out w' hw).s.pos hf0
      injection he with he
      injection he with h1 h2
      subst h1 h2
      rw [List.flatMap_cons, rangeAt_app] at hrg
      have := hrg.1 0 _ rfl
      rwa [Nat.add_zero] at this
    have HBN := Lib.hid (And.intro hn16 (And.intro hlen hlen'))
    have HKC := Lib.hid hkc
    have hcc : ¬ (c' = kk) := by have := hx.s.cap; omega
    have HSUM2 := Lib.hid hin
    have HFP := Lib.hid hf0
    clear hA6 hc6 hb6 hxr e1 hx hkn hin' hpi ht hlen' hkc hf0
    rcases ho : placeW ⟨i, t, vsE es⟩ pk with _ | a
    · have e2 : spliceW ⟨i, t, vsE es⟩ pi pt (vsE xs) = (zLg, 0, 4) := by rw [e0]; simp only [ho]
      rw [e2]
      rw [ho] at CP
      clear e0 e2 ho hq hq2 hs hin hlen hn16 hkn2 hn hn' hrl
      by_cases hle : i ≤ pi
      · have hhas : hasW ⟨i, t, vsE es⟩ pi pt = true := by
          rcases hh : hasW ⟨i, t, vsE es⟩ pi pt with _ | _
          · exact absurd ⟨hle, hh⟩ h3
          · rfl
        rw [hhas] at CH
        have d3a : decide ((pi : Int) < (i : Int)) = false := by simp; omega
        have d3 : decide ((i : Int) ≤ (pi : Int)) = true := by simp; omega
        clear h3 hhas
        go_enter Try.func13, Try.ntmps13
        go_upto_region 1 with fail
        rw [HW.out]
        go_upto_region 10 with (first | (go_at_call 39; refine CL.out.mono ?_; rintro e w2 ⟨rfl, hb2⟩; have HB2 := Lib.hid hb2; clear hb2; clear c0 c1 c2; obtain ⟨c0, c1, c2⟩ := HQ.out _ HB2.out; obtain ⟨p0, p1⟩ := HP.out _ HB2.out) | (go_at_call 40; refine (CM.out _ HB2.out).mono ?_; rintro e w3 ⟨rfl, hb3⟩; have HB3 := Lib.hid (HB2.out.trans (hb3.mono HB2.out.size)); clear hb3; clear c0 c1 c2 p0 p1; obtain ⟨c0, c1, c2⟩ := HQ.out _ HB3.out; obtain ⟨p0, p1⟩ := HP.out _ HB3.out) | (go_at_call 41; refine (CH.out _ HB3.out).mono ?_; rintro e w4 ⟨rfl, hb4⟩; have HB4 := Lib.hid (HB3.out.trans (hb4.mono HB3.out.size)); clear hb4; clear c0 c1 c2 p0 p1; obtain ⟨c0, c1, c2⟩ := HQ.out _ HB4.out; obtain ⟨p0, p1⟩ := HP.out _ HB4.out) | (go_at_call 42; refine (CK.out _ HB4.out).mono ?_; rintro e w5 ⟨rfl, hb5⟩; have HB5 := Lib.hid (HB4.out.trans (hb5.mono HB4.out.size)); clear hb5; clear c0 c1 c2 p0 p1; obtain ⟨c0, c1, c2⟩ := HQ.out _ HB5.out; obtain ⟨p0, p1⟩ := HP.out _ HB5.out) | fail)
        rw [HC6.out, HA6.out]
        clear hsum d3 d3a hk0 hk1 hk2 hk3 hf hcc
        go_upto_region 13 with (first | (go_at_call 44; refine (CP.out _ HB5.out).mono ?_; rintro e w6 ⟨rfl, hb6⟩; have HB6 := Lib.hid (HB5.out.trans (hb6.mono HB5.out.size)); clear hb6 c0 c1 c2 p0 p1; dsimp only [placeV]) | fail)
        obtain ⟨w7, hw7⟩ : ∃ w7, w6.alloc (.cells #[.int .u64 (0 : Int), .int .u64 (0 : Int)] 24) = w7 := ⟨_, rfl⟩
        have N7 := Lib.hid (show Bl w7 w6.heap.size 24 (atC 0 0) by rw [← hw7]; exact Bl.new w6 24 (atC 0 0))
        have HB7 := Lib.hid (show Below w1.heap.size w1 w7 by rw [← hw7]; exact HB6.out.alloc HB6.out.size _)
        rw [hw7]
        clear hw7 hadd hpk64 df
        have M := (HL1.out.below HB7.out HL1.out.lt)
        have r0 := M.cell 0
        have r1 := M.cell 1
        have r2 := M.cell 2
        have f0 := M.frozen 0
        have f1 := M.frozen 1
        have f2 := M.frozen 2
        simp only [lgC, List.getElem?_cons_zero, List.getElem?_cons_succ] at r0 r1 r2
        clear M
        go_wp2_with fail
        have R := HZL.out _ HB7.out
        exact ends_splice _ _ 0 0 none 0 0 0 4 rfl rfl rfl R.1 ⟨⟨_, rfl, LgOut.zero _ _⟩, R.2⟩
      · have d3a : decide ((pi : Int) < (i : Int)) = true := by simp; omega
        have d3 : decide ((i : Int) ≤ (pi : Int)) = false := by simp; omega
        clear h3
        go_enter Try.func13, Try.ntmps13
        go_upto_region 1 with fail
        rw [HW.out]
        go_upto_region 10 with (first | (go_at_call 39; refine CL.out.mono ?_; rintro e w2 ⟨rfl, hb2⟩; have HB2 := Lib.hid hb2; clear hb2; clear c0 c1 c2; obtain ⟨c0, c1, c2⟩ := HQ.out _ HB2.out; obtain ⟨p0, p1⟩ := HP.out _ HB2.out) | (go_at_call 40; refine (CM.out _ HB2.out).mono ?_; rintro e w3 ⟨rfl, hb3⟩; have HB3 := Lib.hid (HB2.out.trans (hb3.mono HB2.out.size)); clear hb3; clear c0 c1 c2 p0 p1; obtain ⟨c0, c1, c2⟩ := HQ.out _ HB3.out; obtain ⟨p0, p1⟩ := HP.out _ HB3.out) | (go_at_call 42; refine (CK.out _ HB3.out).mono ?_; rintro e w5 ⟨rfl, hb5⟩; have HB5 := Lib.hid (HB3.out.trans (hb5.mono HB3.out.size)); clear hb5; clear c0 c1 c2 p0 p1; obtain ⟨c0, c1, c2⟩ := HQ.out _ HB5.out; obtain ⟨p0, p1⟩ := HP.out _ HB5.out) | fail)
        rw [HC6.out, HA6.out]
        clear hsum d3 d3a hk0 hk1 hk2 hk3 hf hcc
        go_upto_region 13 with (first | (go_at_call 44; refine (CP.out _ HB5.out).mono ?_; rintro e w6 ⟨rfl, hb6⟩; have HB6 := Lib.hid (HB5.out.trans (hb6.mono HB5.out.size)); clear hb6 c0 c1 c2 p0 p1; dsimp only [placeV]) | fail)
        obtain ⟨w7, hw7⟩ : ∃ w7, w6.alloc (.cells #[.int .u64 (0 : Int), .int .u64 (0 : Int)] 24) = w7 := ⟨_, rfl⟩
        have N7 := Lib.hid (show Bl w7 w6.heap.size 24 (atC 0 0) by rw [← hw7]; exact Bl.new w6 24 (atC 0 0))
        have HB7 := Lib.hid (show Below w1.heap.size w1 w7 by rw [← hw7]; exact HB6.out.alloc HB6.out.size _)
        rw [hw7]
        clear hw7 hadd hpk64 df
        have M := (HL1.out.below HB7.out HL1.out.lt)
        have r0 := M.cell 0
        have r1 := M.cell 1
        have r2 := M.cell 2
        have f0 := M.frozen 0
        have f1 := M.frozen 1
        have f2 := M.frozen 2
        simp only [lgC, List.getElem?_cons_zero, List.getElem?_cons_succ] at r0 r1 r2
        clear M
        go_wp2_with fail
        have R := HZL.out _ HB7.out
        exact ends_splice _ _ 0 0 none 0 0 0 4 rfl rfl rfl R.1 ⟨⟨_, rfl, LgOut.zero _ _⟩, R.2⟩
    · have hp := placeW_some ho
      simp only [lastI, vsE_len, hlen] at hp
      obtain ⟨d, hd⟩ : ∃ d, pk = i + d := ⟨pk - i, by omega⟩
      have hdn : d ≤ n := by omega
      have e2 : spliceW ⟨i, t, vsE es⟩ pi pt (vsE xs) = if x.t < a then (zLg, 0, 2) else if 16 < d + f then (zLg, 0, 6) else (⟨i, t, vsE (es.take d ++ x :: rest)⟩, pi + n', 0) := by
        rw [e0]
        simp only [ho]
        show (if x.t < a then (zLg, 0, 2) else if 16 < pk - i + ((vsE rest).length + 1) then (zLg, 0, 6) else (Lg.mk i t ((vsE es).take (pk - i) ++ x.v :: vsE rest), pi + n', 0)) = _
        rw [vsE_len, hrl, show pk - i = d by omega]
        unfold vsE
        rw [List.map_append, List.map_take, List.map_cons]
      rw [e2]
      rw [ho] at CP
      clear e0 e2 hq hq2 hs hp ho hkn2
      by_cases hxa : x.t < a
      · rw [if_pos hxa]
        have dxa : decide (x.t < a) = true := by simp; omega
        have dxb : decide ((x.t : Int) < (a : Int)) = true := by simp; omega
        clear hxa hd hdn hin hlen hn16 hn hn' hrl
        by_cases hle : i ≤ pi
        · have hhas : hasW ⟨i, t, vsE es⟩ pi pt = true := by
            rcases hh : hasW ⟨i, t, vsE es⟩ pi pt with _ | _
            · exact absurd ⟨hle, hh⟩ h3
            · rfl
          rw [hhas] at CH
          have d3a : decide ((pi : Int) < (i : Int)) = false := by simp; omega
          have d3 : decide ((i : Int) ≤ (pi : Int)) = true := by simp; omega
          clear h3 hhas
          go_enter Try.func13, Try.ntmps13
          go_upto_region 1 with fail
          rw [HW.out]
          go_upto_region 10 with (first | (go_at_call 39; refine CL.out.mono ?_; rintro e w2 ⟨rfl, hb2⟩; have HB2 := Lib.hid hb2; clear hb2; clear c0 c1 c2; obtain ⟨c0, c1, c2⟩ := HQ.out _ HB2.out; obtain ⟨p0, p1⟩ := HP.out _ HB2.out) | (go_at_call 40; refine (CM.out _ HB2.out).mono ?_; rintro e w3 ⟨rfl, hb3⟩; have HB3 := Lib.hid (HB2.out.trans (hb3.mono HB2.out.size)); clear hb3; clear c0 c1 c2 p0 p1; obtain ⟨c0, c1, c2⟩ := HQ.out _ HB3.out; obtain ⟨p0, p1⟩ := HP.out _ HB3.out) | (go_at_call 41; refine (CH.out _ HB3.out).mono ?_; rintro e w4 ⟨rfl, hb4⟩; have HB4 := Lib.hid (HB3.out.trans (hb4.mono HB3.out.size)); clear hb4; clear c0 c1 c2 p0 p1; obtain ⟨c0, c1, c2⟩ := HQ.out _ HB4.out; obtain ⟨p0, p1⟩ := HP.out _ HB4.out) | (go_at_call 42; refine (CK.out _ HB4.out).mono ?_; rintro e w5 ⟨rfl, hb5⟩; have HB5 := Lib.hid (HB4.out.trans (hb5.mono HB4.out.size)); clear hb5; clear c0 c1 c2 p0 p1; obtain ⟨c0, c1, c2⟩ := HQ.out _ HB5.out; obtain ⟨p0, p1⟩ := HP.out _ HB5.out) | fail)
          rw [HC6.out, HA6.out]
          clear hsum d3 d3a hk0 hk1 hk2 hk3 hf hcc
          go_upto_region 13 with (first | (go_at_call 44; refine (CP.out _ HB5.out).mono ?_; rintro e w6 ⟨rfl, hb6⟩; have HB6 := Lib.hid (HB5.out.trans (hb6.mono HB5.out.size)); clear hb6 c0 c1 c2 p0 p1; dsimp only [placeV]) | fail)
          obtain ⟨w7, hw7⟩ : ∃ w7, w6.alloc (.cells #[.int .u64 (pk : Int), .int .u64 (a : Int)] 24) = w7 := ⟨_, rfl⟩
          have N7 := Lib.hid (show Bl w7 w6.heap.size 24 (atC pk a) by rw [← hw7]; exact Bl.new w6 24 (atC pk a))
          have HB7 := Lib.hid (show Below w1.heap.size w1 w7 by rw [← hw7]; exact HB6.out.alloc HB6.out.size _)
          rw [hw7]
          clear hw7 hadd hpk64 df
          obtain ⟨c0, c1, c2⟩ := HQ.out _ HB7.out
          have z0 := N7.out.cell 0
          have z1 := N7.out.cell 1
          simp only [atC, List.getElem?_cons_zero, List.getElem?_cons_succ] at z0 z1
          have x0 := HX0.out _ HB7.out
          have M := (HL1.out.below HB7.out HL1.out.lt)
          have r0 := M.cell 0
          have r1 := M.cell 1
          have r2 := M.cell 2
          have f0 := M.frozen 0
          have f1 := M.frozen 1
          have f2 := M.frozen 2
          simp only [lgC, List.getElem?_cons_zero, List.getElem?_cons_succ] at r0 r1 r2
          clear M
          have hf1 := HFP.out
          have hf2 : (0 : Int) < (f : Int) := by omega
          go_upto_region 15 with fail
          go_quiet (fail)
          go_wp2_with fail
          have R := HZL.out _ (below_drewN HB7.out nq)
          exact ends_splice _ _ 0 0 none 0 0 0 2 rfl rfl rfl R.1 ⟨⟨_, rfl, LgOut.zero _ _⟩, R.2⟩
        · have d3a : decide ((pi : Int) < (i : Int)) = true := by simp; omega
          have d3 : decide ((i : Int) ≤ (pi : Int)) = false := by simp; omega
          clear h3
          go_enter Try.func13, Try.ntmps13
          go_upto_region 1 with fail
          rw [HW.out]
          go_upto_region 10 with (first | (go_at_call 39; refine CL.out.mono ?_; rintro e w2 ⟨rfl, hb2⟩; have HB2 := Lib.hid hb2; clear hb2; clear c0 c1 c2; obtain ⟨c0, c1, c2⟩ := HQ.out _ HB2.out; obtain ⟨p0, p1⟩ := HP.out _ HB2.out) | (go_at_call 40; refine (CM.out _ HB2.out).mono ?_; rintro e w3 ⟨rfl, hb3⟩; have HB3 := Lib.hid (HB2.out.trans (hb3.mono HB2.out.size)); clear hb3; clear c0 c1 c2 p0 p1; obtain ⟨c0, c1, c2⟩ := HQ.out _ HB3.out; obtain ⟨p0, p1⟩ := HP.out _ HB3.out) | (go_at_call 42; refine (CK.out _ HB3.out).mono ?_; rintro e w5 ⟨rfl, hb5⟩; have HB5 := Lib.hid (HB3.out.trans (hb5.mono HB3.out.size)); clear hb5; clear c0 c1 c2 p0 p1; obtain ⟨c0, c1, c2⟩ := HQ.out _ HB5.out; obtain ⟨p0, p1⟩ := HP.out _ HB5.out) | fail)
          rw [HC6.out, HA6.out]
          clear hsum d3 d3a hk0 hk1 hk2 hk3 hf hcc
          go_upto_region 13 with (first | (go_at_call 44; refine (CP.out _ HB5.out).mono ?_; rintro e w6 ⟨rfl, hb6⟩; have HB6 := Lib.hid (HB5.out.trans (hb6.mono HB5.out.size)); clear hb6 c0 c1 c2 p0 p1; dsimp only [placeV]) | fail)
          obtain ⟨w7, hw7⟩ : ∃ w7, w6.alloc (.cells #[.int .u64 (pk : Int), .int .u64 (a : Int)] 24) = w7 := ⟨_, rfl⟩
          have N7 := Lib.hid (show Bl w7 w6.heap.size 24 (atC pk a) by rw [← hw7]; exact Bl.new w6 24 (atC pk a))
          have HB7 := Lib.hid (show Below w1.heap.size w1 w7 by rw [← hw7]; exact HB6.out.alloc HB6.out.size _)
          rw [hw7]
          clear hw7 hadd hpk64 df
          obtain ⟨c0, c1, c2⟩ := HQ.out _ HB7.out
          have z0 := N7.out.cell 0
          have z1 := N7.out.cell 1
          simp only [atC, List.getElem?_cons_zero, List.getElem?_cons_succ] at z0 z1
          have x0 := HX0.out _ HB7.out
          have M := (HL1.out.below HB7.out HL1.out.lt)
          have r0 := M.cell 0
          have r1 := M.cell 1
          have r2 := M.cell 2
          have f0 := M.frozen 0
          have f1 := M.frozen 1
          have f2 := M.frozen 2
          simp only [lgC, List.getElem?_cons_zero, List.getElem?_cons_succ] at r0 r1 r2
          clear M
          have hf1 := HFP.out
          have hf2 : (0 : Int) < (f : Int) := by omega
          go_upto_region 15 with fail
          go_quiet (fail)
          go_wp2_with fail
          have R := HZL.out _ (below_drewN HB7.out nq)
          exact ends_splice _ _ 0 0 none 0 0 0 2 rfl rfl rfl R.1 ⟨⟨_, rfl, LgOut.zero _ _⟩, R.2⟩
      · rw [if_neg hxa]
        have dxa : decide (x.t < a) = false := by simp; omega
        have dxb : decide ((x.t : Int) < (a : Int)) = false := by simp; omega
        clear hxa
        have CPA := Lib.hid (fun (w' : World) (hw : Below w1.heap.size w1 w') => (show Calls Try.prog 45 #[lgV i t A n c, atV pk a] w' _ by rw [hd]; exact parted_any (HS.out w' hw) hn i t d a hdn (by omega)))
        obtain ⟨kp, hkp⟩ : ∃ kp, es.take d = kp := ⟨_, rfl⟩
        have HKP := Lib.hid (show kp.length = d ∧ ∀ y ∈ kp, EnB y by rw [← hkp]; exact ⟨by rw [List.length_take]; omega, fun y hy => HEB.out y (List.mem_of_mem_take hy)⟩)
        obtain ⟨N5, hN5⟩ : ∃ N5, n - d = N5 := ⟨_, rfl⟩
        rw [hkp, hN5] at CPA
        rw [hkp]
        have hd16 : d ≤ 16 := by omega
        have hf1000 : f ≤ 1000 := by omega
        clear hkp hN5 hd hdn hin hlen hn16 hn hn' hrl
        have hsd : ((d : Int) + (f : Int)) ≤ 1016 := by omega
        by_cases h16 : 16 < d + f
        · rw [if_pos h16]
          have d16 : decide ((16 : Int) < (d : Int) + (f : Int)) = true := by simp; omega
          have d16b : decide (16 < d + f) = true := by simp; omega
          by_cases hle : i ≤ pi
          · have hhas : hasW ⟨i, t, vsE es⟩ pi pt = true := by
              rcases hh : hasW ⟨i, t, vsE es⟩ pi pt with _ | _
              · exact absurd ⟨hle, hh⟩ h3
              · rfl
            rw [hhas] at CH
            have d3a : decide ((pi : Int) < (i : Int)) = false := by simp; omega
            have d3 : decide ((i : Int) ≤ (pi : Int)) = true := by simp; omega
            clear h3 hhas
            go_enter Try.func13, Try.ntmps13
            go_upto_region 1 with fail
            rw [HW.out]
            go_upto_region 10 with (first | (go_at_call 39; refine CL.out.mono ?_; rintro e w2 ⟨rfl, hb2⟩; have HB2 := Lib.hid hb2; clear hb2; clear c0 c1 c2; obtain ⟨c0, c1, c2⟩ := HQ.out _ HB2.out; obtain ⟨p0, p1⟩ := HP.out _ HB2.out) | (go_at_call 40; refine (CM.out _ HB2.out).mono ?_; rintro e w3 ⟨rfl, hb3⟩; have HB3 := Lib.hid (HB2.out.trans (hb3.mono HB2.out.size)); clear hb3; clear c0 c1 c2 p0 p1; obtain ⟨c0, c1, c2⟩ := HQ.out _ HB3.out; obtain ⟨p0, p1⟩ := HP.out _ HB3.out) | (go_at_call 41; refine (CH.out _ HB3.out).mono ?_; rintro e w4 ⟨rfl, hb4⟩; have HB4 := Lib.hid (HB3.out.trans (hb4.mono HB3.out.size)); clear hb4; clear c0 c1 c2 p0 p1; obtain ⟨c0, c1, c2⟩ := HQ.out _ HB4.out; obtain ⟨p0, p1⟩ := HP.out _ HB4.out) | (go_at_call 42; refine (CK.out _ HB4.out).mono ?_; rintro e w5 ⟨rfl, hb5⟩; have HB5 := Lib.hid (HB4.out.trans (hb5.mono HB4.out.size)); clear hb5; clear c0 c1 c2 p0 p1; obtain ⟨c0, c1, c2⟩ := HQ.out _ HB5.out; obtain ⟨p0, p1⟩ := HP.out _ HB5.out) | fail)
            rw [HC6.out, HA6.out]
            clear hsum d3 d3a hk0 hk1 hk2 hk3 hf hcc
            go_upto_region 13 with (first | (go_at_call 44; refine (CP.out _ HB5.out).mono ?_; rintro e w6 ⟨rfl, hb6⟩; have HB6 := Lib.hid (HB5.out.trans (hb6.mono HB5.out.size)); clear hb6 c0 c1 c2 p0 p1; dsimp only [placeV]) | fail)
            obtain ⟨w7, hw7⟩ : ∃ w7, w6.alloc (.cells #[.int .u64 (pk : Int), .int .u64 (a : Int)] 24) = w7 := ⟨_, rfl⟩
            have N7 := Lib.hid (show Bl w7 w6.heap.size 24 (atC pk a) by rw [← hw7]; exact Bl.new w6 24 (atC pk a))
            have HB7 := Lib.hid (show Below w1.heap.size w1 w7 by rw [← hw7]; exact HB6.out.alloc HB6.out.size _)
            rw [hw7]
            clear hw7 hadd hpk64 df
            obtain ⟨c0, c1, c2⟩ := HQ.out _ HB7.out
            have z0 := N7.out.cell 0
            have z1 := N7.out.cell 1
            simp only [atC, List.getElem?_cons_zero, List.getElem?_cons_succ] at z0 z1
            have x0 := HX0.out _ HB7.out
            have M := (HL1.out.below HB7.out HL1.out.lt)
            have r0 := M.cell 0
            have r1 := M.cell 1
            have r2 := M.cell 2
            have f0 := M.frozen 0
            have f1 := M.frozen 1
            have f2 := M.frozen 2
            simp only [lgC, List.getElem?_cons_zero, List.getElem?_cons_succ] at r0 r1 r2
            clear M
            have hf1 := HFP.out
            have hf2 : (0 : Int) < (f : Int) := by omega
            go_upto_region 15 with fail
            go_quiet (fail)
            go_upto_region 17 with fail
            clear z0 z1 x0 c0 c1 c2 r0 r1 r2 f0 f1 f2 hf1 hf2 dxa dxb
            obtain ⟨w8, hw8⟩ : ∃ w8, w7.drewN nq = w8 := ⟨_, rfl⟩
            have HB8 := Lib.hid (show Below w1.heap.size w1 w8 by rw [← hw8]; exact below_drewN HB7.out nq)
            have N8 := Lib.hid (show Bl w8 w6.heap.size 24 (atC pk a) by rw [← hw8]; exact N7.out)
            rw [hw8]
            clear hw8
            obtain ⟨c0, c1, c2⟩ := HQ.out _ HB8.out
            have z0 := N8.out.cell 0
            have z1 := N8.out.cell 1
            simp only [atC, List.getElem?_cons_zero, List.getElem?_cons_succ] at z0 z1
            go_wp2_with (first | (go_at_call 45; refine (CPA.out _ HB8.out).mono ?_; rintro e w9 ⟨⟨A9, c9, rfl, hst9, hsd9⟩, hb9⟩; have HB9 := Lib.hid (HB8.out.trans (hb9.mono HB8.out.size)); have HST := Lib.hid (hst9.next (Nat.le_refl _) hb9); clear hst9 hsd9 hb9 c0 c1 c2 z0 z1; have M := (HL1.out.below HB9.out HL1.out.lt); have r0 := M.cell 0; have r1 := M.cell 1; have r2 := M.cell 2; have f0 := M.frozen 0; have f1 := M.frozen 1; have f2 := M.frozen 2; simp only [lgC, List.getElem?_cons_zero, List.getElem?_cons_succ] at r0 r1 r2; clear M) | fail)
            have R := HZL.out _ HB9.out
            exact ends_splice _ _ 0 0 none 0 0 0 6 rfl rfl rfl R.1 ⟨⟨_, rfl, LgOut.zero _ _⟩, R.2⟩
          · have d3a : decide ((pi : Int) < (i : Int)) = true := by simp; omega
            have d3 : decide ((i : Int) ≤ (pi : Int)) = false := by simp; omega
            clear h3
            go_enter Try.func13, Try.ntmps13
            go_upto_region 1 with fail
            rw [HW.out]
            go_upto_region 10 with (first | (go_at_call 39; refine CL.out.mono ?_; rintro e w2 ⟨rfl, hb2⟩; have HB2 := Lib.hid hb2; clear hb2; clear c0 c1 c2; obtain ⟨c0, c1, c2⟩ := HQ.out _ HB2.out; obtain ⟨p0, p1⟩ := HP.out _ HB2.out) | (go_at_call 40; refine (CM.out _ HB2.out).mono ?_; rintro e w3 ⟨rfl, hb3⟩; have HB3 := Lib.hid (HB2.out.trans (hb3.mono HB2.out.size)); clear hb3; clear c0 c1 c2 p0 p1; obtain ⟨c0, c1, c2⟩ := HQ.out _ HB3.out; obtain ⟨p0, p1⟩ := HP.out _ HB3.out) | (go_at_call 42; refine (CK.out _ HB3.out).mono ?_; rintro e w5 ⟨rfl, hb5⟩; have HB5 := Lib.hid (HB3.out.trans (hb5.mono HB3.out.size)); clear hb5; clear c0 c1 c2 p0 p1; obtain ⟨c0, c1, c2⟩ := HQ.out _ HB5.out; obtain ⟨p0, p1⟩ := HP.out _ HB5.out) | fail)
            rw [HC6.out, HA6.out]
            clear hsum d3 d3a hk0 hk1 hk2 hk3 hf hcc
            go_upto_region 13 with (first | (go_at_call 44; refine (CP.out _ HB5.out).mono ?_; rintro e w6 ⟨rfl, hb6⟩; have HB6 := Lib.hid (HB5.out.trans (hb6.mono HB5.out.size)); clear hb6 c0 c1 c2 p0 p1; dsimp only [placeV]) | fail)
            obtain ⟨w7, hw7⟩ : ∃ w7, w6.alloc (.cells #[.int .u64 (pk : Int), .int .u64 (a : Int)] 24) = w7 := ⟨_, rfl⟩
            have N7 := Lib.hid (show Bl w7 w6.heap.size 24 (atC pk a) by rw [← hw7]; exact Bl.new w6 24 (atC pk a))
            have HB7 := Lib.hid (show Below w1.heap.size w1 w7 by rw [← hw7]; exact HB6.out.alloc HB6.out.size _)
            rw [hw7]
            clear hw7 hadd hpk64 df
            obtain ⟨c0, c1, c2⟩ := HQ.out _ HB7.out
            have z0 := N7.out.cell 0
            have z1 := N7.out.cell 1
            simp only [atC, List.getElem?_cons_zero, List.getElem?_cons_succ] at z0 z1
            have x0 := HX0.out _ HB7.out
            have M := (HL1.out.below HB7.out HL1.out.lt)
            have r0 := M.cell 0
            have r1 := M.cell 1
            have r2 := M.cell 2
            have f0 := M.frozen 0
            have f1 := M.frozen 1
            have f2 := M.frozen 2
            simp only [lgC, List.getElem?_cons_zero, List.getElem?_cons_succ] at r0 r1 r2
            clear M
            have hf1 := HFP.out
            have hf2 : (0 : Int) < (f : Int) := by omega
            go_upto_region 15 with fail
            go_quiet (fail)
            go_upto_region 17 with fail
            clear z0 z1 x0 c0 c1 c2 r0 r1 r2 f0 f1 f2 hf1 hf2 dxa dxb
            obtain ⟨w8, hw8⟩ : ∃ w8, w7.drewN nq = w8 := ⟨_, rfl⟩
            have HB8 := Lib.hid (show Below w1.heap.size w1 w8 by rw [← hw8]; exact below_drewN HB7.out nq)
            have N8 := Lib.hid (show Bl w8 w6.heap.size 24 (atC pk a) by rw [← hw8]; exact N7.out)
            rw [hw8]
            clear hw8
            obtain ⟨c0, c1, c2⟩ := HQ.out _ HB8.out
            have z0 := N8.out.cell 0
            have z1 := N8.out.cell 1
            simp only [atC, List.getElem?_cons_zero, List.getElem?_cons_succ] at z0 z1
            go_wp2_with (first | (go_at_call 45; refine (CPA.out _ HB8.out).mono ?_; rintro e w9 ⟨⟨A9, c9, rfl, hst9, hsd9⟩, hb9⟩; have HB9 := Lib.hid (HB8.out.trans (hb9.mono HB8.out.size)); have HST := Lib.hid (hst9.next (Nat.le_refl _) hb9); clear hst9 hsd9 hb9 c0 c1 c2 z0 z1; have M := (HL1.out.below HB9.out HL1.out.lt); have r0 := M.cell 0; have r1 := M.cell 1; have r2 := M.cell 2; have f0 := M.frozen 0; have f1 := M.frozen 1; have f2 := M.frozen 2; simp only [lgC, List.getElem?_cons_zero, List.getElem?_cons_succ] at r0 r1 r2; clear M) | fail)
            have R := HZL.out _ HB9.out
            exact ends_splice _ _ 0 0 none 0 0 0 6 rfl rfl rfl R.1 ⟨⟨_, rfl, LgOut.zero _ _⟩, R.2⟩
        · rw [if_neg h16]
          have d16 : decide ((16 : Int) < (d : Int) + (f : Int)) = false := by simp; omega
          have d16b : decide (16 < d + f) = false := by simp; omega
          by_cases hle : i ≤ pi
          · have hhas : hasW ⟨i, t, vsE es⟩ pi pt = true := by
              rcases hh : hasW ⟨i, t, vsE es⟩ pi pt with _ | _
              · exact absurd ⟨hle, hh⟩ h3
              · rfl
            rw [hhas] at CH
            have d3a : decide ((pi : Int) < (i : Int)) = false := by simp; omega
            have d3 : decide ((i : Int) ≤ (pi : Int)) = true := by simp; omega
            clear h3 hhas
            go_enter Try.func13, Try.ntmps13
            go_upto_region 1 with fail
            rw [HW.out]
            go_upto_region 10 with (first | (go_at_call 39; refine CL.out.mono ?_; rintro e w2 ⟨rfl, hb2⟩; have HB2 := Lib.hid hb2; clear hb2; clear c0 c1 c2; obtain ⟨c0, c1, c2⟩ := HQ.out _ HB2.out; obtain ⟨p0, p1⟩ := HP.out _ HB2.out) | (go_at_call 40; refine (CM.out _ HB2.out).mono ?_; rintro e w3 ⟨rfl, hb3⟩; have HB3 := Lib.hid (HB2.out.trans (hb3.mono HB2.out.size)); clear hb3; clear c0 c1 c2 p0 p1; obtain ⟨c0, c1, c2⟩ := HQ.out _ HB3.out; obtain ⟨p0, p1⟩ := HP.out _ HB3.out) | (go_at_call 41; refine (CH.out _ HB3.out).mono ?_; rintro e w4 ⟨rfl, hb4⟩; have HB4 := Lib.hid (HB3.out.trans (hb4.mono HB3.out.size)); clear hb4; clear c0 c1 c2 p0 p1; obtain ⟨c0, c1, c2⟩ := HQ.out _ HB4.out; obtain ⟨p0, p1⟩ := HP.out _ HB4.out) | (go_at_call 42; refine (CK.out _ HB4.out).mono ?_; rintro e w5 ⟨rfl, hb5⟩; have HB5 := Lib.hid (HB4.out.trans (hb5.mono HB4.out.size)); clear hb5; clear c0 c1 c2 p0 p1; obtain ⟨c0, c1, c2⟩ := HQ.out _ HB5.out; obtain ⟨p0, p1⟩ := HP.out _ HB5.out) | fail)
            rw [HC6.out, HA6.out]
            clear hsum d3 d3a hk0 hk1 hk2 hk3 hf hcc
            go_upto_region 13 with (first | (go_at_call 44; refine (CP.out _ HB5.out).mono ?_; rintro e w6 ⟨rfl, hb6⟩; have HB6 := Lib.hid (HB5.out.trans (hb6.mono HB5.out.size)); clear hb6 c0 c1 c2 p0 p1; dsimp only [placeV]) | fail)
            obtain ⟨w7, hw7⟩ : ∃ w7, w6.alloc (.cells #[.int .u64 (pk : Int), .int .u64 (a : Int)] 24) = w7 := ⟨_, rfl⟩
            have N7 := Lib.hid (show Bl w7 w6.heap.size 24 (atC pk a) by rw [← hw7]; exact Bl.new w6 24 (atC pk a))
            have HB7 := Lib.hid (show Below w1.heap.size w1 w7 by rw [← hw7]; exact HB6.out.alloc HB6.out.size _)
            rw [hw7]
            clear hw7 hadd hpk64 df
            obtain ⟨c0, c1, c2⟩ := HQ.out _ HB7.out
            have z0 := N7.out.cell 0
            have z1 := N7.out.cell 1
            simp only [atC, List.getElem?_cons_zero, List.getElem?_cons_succ] at z0 z1
            have x0 := HX0.out _ HB7.out
            have M := (HL1.out.below HB7.out HL1.out.lt)
            have r0 := M.cell 0
            have r1 := M.cell 1
            have r2 := M.cell 2
            have f0 := M.frozen 0
            have f1 := M.frozen 1
            have f2 := M.frozen 2
            simp only [lgC, List.getElem?_cons_zero, List.getElem?_cons_succ] at r0 r1 r2
            clear M
            have hf1 := HFP.out
            have hf2 : (0 : Int) < (f : Int) := by omega
            go_upto_region 15 with fail
            go_quiet (fail)
            go_upto_region 17 with fail
            clear z0 z1 x0 c0 c1 c2 r0 r1 r2 f0 f1 f2 hf1 hf2 dxa dxb
            obtain ⟨w8, hw8⟩ : ∃ w8, w7.drewN nq = w8 := ⟨_, rfl⟩
            have HB8 := Lib.hid (show Below w1.heap.size w1 w8 by rw [← hw8]; exact below_drewN HB7.out nq)
            have N8 := Lib.hid (show Bl w8 w6.heap.size 24 (atC pk a) by rw [← hw8]; exact N7.out)
            rw [hw8]
            clear hw8
            obtain ⟨c0, c1, c2⟩ := HQ.out _ HB8.out
            have z0 := N8.out.cell 0
            have z1 := N8.out.cell 1
            simp only [atC, List.getElem?_cons_zero, List.getElem?_cons_succ] at z0 z1
            go_upto_region 20 with (first | (go_at_call 45; refine (CPA.out _ HB8.out).mono ?_; rintro e w9 ⟨⟨A9, c9, rfl, hst9, hsd9⟩, hb9⟩; have HB9 := Lib.hid (HB8.out.trans (hb9.mono HB8.out.size)); have HST := Lib.hid (hst9.next (Nat.le_refl _) hb9); clear hst9 hsd9 hb9 c0 c1 c2 z0 z1) | fail)
            clear d16 d16b hsd
            obtain ⟨c0, c1, c2⟩ := HQ.out _ HB9.out
            obtain ⟨wA, hwA⟩ : ∃ wA, w9.alloc (.cells #[.slice A d c, .slice (some ⟨b6, o6, none⟩) f c6] 25) = wA := ⟨_, rfl⟩
            have SLA := two_ls HST.out (HXC.out _ HB9.out)
            rw [hwA] at SLA
            have hcl : (kp ++ x :: rest).length = d + f := by rw [List.length_append, HKP.out.1, List.length_cons, HRL.out]
            have CW := Lib.hid (with_any i t SLA (by omega) (by rw [catL_two, hcl]; omega) (by
              rw [catL_two]
              intro y hy
              rcases List.mem_append.1 hy with h | h
              · exact HKP.out.2 y h
              · exact HEXD.out y h))
            rw [catL_two, hcl] at CW
            have HBA := Lib.hid (show Below w1.heap.size w1 wA by rw [← hwA]; exact HB9.out.alloc HB9.out.size _)
            have HWA := Lib.hid hwA
            clear hwA SLA hcl
            go_wp2_with (first | (go_at_call 43; rw [HWA.out]; refine CW.out.mono ?_; rintro e wB ⟨⟨AB, cB, lB, rfl, hoB, hvB⟩, hbB⟩; have HBB := Lib.hid (HBA.out.trans (hbB.mono HBA.out.size)); have HOB := Lib.hid (hoB.base_ (base' := w1.heap.size) HBA.out.size); have HVB := Lib.hid hvB; clear hoB hvB hbB c0 c1 c2; have M := (HL1.out.below HBB.out HL1.out.lt); have r0 := M.cell 0; have r1 := M.cell 1; have r2 := M.cell 2; have f0 := M.frozen 0; have f1 := M.frozen 1; have f2 := M.frozen 2; simp only [lgC, List.getElem?_cons_zero, List.getElem?_cons_succ] at r0 r1 r2; clear M) | fail)
            have R := res3 (w1 := w1) (HL1.out.below HBB.out HL1.out.lt) (HB1.out.trans (HBB.out.mono HB1.out.size)) HF.out i t AB (d + f) cB
            exact ends_splice _ _ i t AB (d + f) cB _ 0 rfl rfl rfl R.1 ⟨⟨_, by go_num, AB, d + f, cB, lB, rfl, (HOB.out.far' (HL1.out.below HBB.out HL1.out.lt) HL1.out.lt _ _ _).base_ HB1.out.size, HVB.out⟩, R.2⟩
          · have d3a : decide ((pi : Int) < (i : Int)) = true := by simp; omega
            have d3 : decide ((i : Int) ≤ (pi : Int)) = false := by simp; omega
            clear h3
            go_enter Try.func13, Try.ntmps13
            go_upto_region 1 with fail
            rw [HW.out]
            go_upto_region 10 with (first | (go_at_call 39; refine CL.out.mono ?_; rintro e w2 ⟨rfl, hb2⟩; have HB2 := Lib.hid hb2; clear hb2; clear c0 c1 c2; obtain ⟨c0, c1, c2⟩ := HQ.out _ HB2.out; obtain ⟨p0, p1⟩ := HP.out _ HB2.out) | (go_at_call 40; refine (CM.out _ HB2.out).mono ?_; rintro e w3 ⟨rfl, hb3⟩; have HB3 := Lib.hid (HB2.out.trans (hb3.mono HB2.out.size)); clear hb3; clear c0 c1 c2 p0 p1; obtain ⟨c0, c1, c2⟩ := HQ.out _ HB3.out; obtain ⟨p0, p1⟩ := HP.out _ HB3.out) | (go_at_call 42; refine (CK.out _ HB3.out).mono ?_; rintro e w5 ⟨rfl, hb5⟩; have HB5 := Lib.hid (HB3.out.trans (hb5.mono HB3.out.size)); clear hb5; clear c0 c1 c2 p0 p1; obtain ⟨c0, c1, c2⟩ := HQ.out _ HB5.out; obtain ⟨p0, p1⟩ := HP.out _ HB5.out) | fail)
            rw [HC6.out, HA6.out]
            clear hsum d3 d3a hk0 hk1 hk2 hk3 hf hcc
            go_upto_region 13 with (first | (go_at_call 44; refine (CP.out _ HB5.out).mono ?_; rintro e w6 ⟨rfl, hb6⟩; have HB6 := Lib.hid (HB5.out.trans (hb6.mono HB5.out.size)); clear hb6 c0 c1 c2 p0 p1; dsimp only [placeV]) | fail)
            obtain ⟨w7, hw7⟩ : ∃ w7, w6.alloc (.cells #[.int .u64 (pk : Int), .int .u64 (a : Int)] 24) = w7 := ⟨_, rfl⟩
            have N7 := Lib.hid (show Bl w7 w6.heap.size 24 (atC pk a) by rw [← hw7]; exact Bl.new w6 24 (atC pk a))
            have HB7 := Lib.hid (show Below w1.heap.size w1 w7 by rw [← hw7]; exact HB6.out.alloc HB6.out.size _)
            rw [hw7]
            clear hw7 hadd hpk64 df
            obtain ⟨c0, c1, c2⟩ := HQ.out _ HB7.out
            have z0 := N7.out.cell 0
            have z1 := N7.out.cell 1
            simp only [atC, List.getElem?_cons_zero, List.getElem?_cons_succ] at z0 z1
            have x0 := HX0.out _ HB7.out
            have M := (HL1.out.below HB7.out HL1.out.lt)
            have r0 := M.cell 0
            have r1 := M.cell 1
            have r2 := M.cell 2
            have f0 := M.frozen 0
            have f1 := M.frozen 1
            have f2 := M.frozen 2
            simp only [lgC, List.getElem?_cons_zero, List.getElem?_cons_succ] at r0 r1 r2
            clear M
            have hf1 := HFP.out
            have hf2 : (0 : Int) < (f : Int) := by omega
            go_upto_region 15 with fail
            go_quiet (fail)
            go_upto_region 17 with fail
            clear z0 z1 x0 c0 c1 c2 r0 r1 r2 f0 f1 f2 hf1 hf2 dxa dxb
            obtain ⟨w8, hw8⟩ : ∃ w8, w7.drewN nq = w8 := ⟨_, rfl⟩
            have HB8 := Lib.hid (show Below w1.heap.size w1 w8 by rw [← hw8]; exact below_drewN HB7.out nq)
            have N8 := Lib.hid (show Bl w8 w6.heap.size 24 (atC pk a) by rw [← hw8]; exact N7.out)
            rw [hw8]
            clear hw8
            obtain ⟨c0, c1, c2⟩ := HQ.out _ HB8.out
            have z0 := N8.out.cell 0
            have z1 := N8.out.cell 1
            simp only [atC, List.getElem?_cons_zero, List.getElem?_cons_succ] at z0 z1
            go_upto_region 20 with (first | (go_at_call 45; refine (CPA.out _ HB8.out).mono ?_; rintro e w9 ⟨⟨A9, c9, rfl, hst9, hsd9⟩, hb9⟩; have HB9 := Lib.hid (HB8.out.trans (hb9.mono HB8.out.size)); have HST := Lib.hid (hst9.next (Nat.le_refl _) hb9); clear hst9 hsd9 hb9 c0 c1 c2 z0 z1) | fail)
            clear d16 d16b hsd
            obtain ⟨c0, c1, c2⟩ := HQ.out _ HB9.out
            obtain ⟨wA, hwA⟩ : ∃ wA, w9.alloc (.cells #[.slice A d c, .slice (some ⟨b6, o6, none⟩) f c6] 25) = wA := ⟨_, rfl⟩
            have SLA := two_ls HST.out (HXC.out _ HB9.out)
            rw [hwA] at SLA
            have hcl : (kp ++ x :: rest).length = d + f := by rw [List.length_append, HKP.out.1, List.length_cons, HRL.out]
            have CW := Lib.hid (with_any i t SLA (by omega) (by rw [catL_two, hcl]; omega) (by
              rw [catL_two]
              intro y hy
              rcases List.mem_append.1 hy with h | h
              · exact HKP.out.2 y h
              · exact HEXD.out y h))
            rw [catL_two, hcl] at CW
            have HBA := Lib.hid (show Below w1.heap.size w1 wA by rw [← hwA]; exact HB9.out.alloc HB9.out.size _)
            have HWA := Lib.hid hwA
            clear hwA SLA hcl
            go_wp2_with (first | (go_at_call 43; rw [HWA.out]; refine CW.out.mono ?_; rintro e wB ⟨⟨AB, cB, lB, rfl, hoB, hvB⟩, hbB⟩; have HBB := Lib.hid (HBA.out.trans (hbB.mono HBA.out.size)); have HOB := Lib.hid (hoB.base_ (base' := w1.heap.size) HBA.out.size); have HVB := Lib.hid hvB; clear hoB hvB hbB c0 c1 c2; have M := (HL1.out.below HBB.out HL1.out.lt); have r0 := M.cell 0; have r1 := M.cell 1; have r2 := M.cell 2; have f0 := M.frozen 0; have f1 := M.frozen 1; have f2 := M.frozen 2; simp only [lgC, List.getElem?_cons_zero, List.getElem?_cons_succ] at r0 r1 r2; clear M) | fail)
            have R := res3 (w1 := w1) (HL1.out.below HBB.out HL1.out.lt) (HB1.out.trans (HBB.out.mono HB1.out.size)) HF.out i t AB (d + f) cB
            exact ends_splice _ _ i t AB (d + f) cB _ 0 rfl rfl rfl R.1 ⟨⟨_, by go_num, AB, d + f, cB, lB, rfl, (HOB.out.far' (HL1.out.below HBB.out HL1.out.lt) HL1.out.lt _ _ _).base_ HB1.out.size, HVB.out⟩, R.2⟩
end Go.Proofs.Ytgdcahakefmakaa
