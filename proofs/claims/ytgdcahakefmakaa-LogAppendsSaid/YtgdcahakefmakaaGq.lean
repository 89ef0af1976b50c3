/-
  LOGS: Same, Check, Last, Term, Has, Newer.
-/
import Derived.Test.YtgdcahakefmakaaGp
namespace Go.Proofs.Ytgdcahakefmakaa
set_option linter.unusedVariables false
set_option linter.unusedSimpArgs false
open Go.RowKit Go.WideShapes Go.ChangeShapes Go.Deep Go.Shelf
attribute [local irreducible] wpQuiet

theorem beqN (a b : Nat) : ((a : Int) == (b : Int)) = (a == b) := by
  by_cases h : a = b
  · rw [h]; simp
  · have : ((a : Int) == (b : Int)) = false := by simp; omega
    rw [this]; simp [h]
set_option maxRecDepth 100000 in
set_option maxHeartbeats 2000000 in
theorem Same_any {w : World} {A A' : Option Addr} {n c n' c' : Nat} {l l' : List En} (h : SqE w w.heap.size A n c l) (hn : n ≤ 1000) (h' : SqE w w.heap.size A' n' c' l') (hn' : n' ≤ 1000) (i t i' t' : Nat) :
    Calls Try.prog 37 #[lgV i t A n c, lgV i' t' A' n' c'] w fun e w' => e = .returned (.bool (sameG ⟨i, t, vsE l⟩ ⟨i', t', vsE l'⟩)) ∧ Below w.heap.size w w' := by
  obtain ⟨w1, hw1⟩ : ∃ w1, ((w.alloc (.cells #[.int .u64 (i : Int), .int .u64 (t : Int), .slice A n c] 27)).alloc (.cells #[.int .u64 (i' : Int), .int .u64 (t' : Int), .slice A' n' c'] 27)) = w1 := ⟨_, rfl⟩
  have L0 : Bl w1 (w.heap.size) 27 [.int .u64 (i : Int), .int .u64 (t : Int), .slice A n c] := by
    rw [← hw1]
    have h := Bl.new w 27 [.int .u64 (i : Int), .int .u64 (t : Int), .slice A n c]
    (try simp only [World.size_alloc] at h)
    exact (h.alloc _)
  have L1 : Bl w1 (w.heap.size + 1) 27 [.int .u64 (i' : Int), .int .u64 (t' : Int), .slice A' n' c'] := by
    rw [← hw1]
    have h := Bl.new (w.alloc (.cells #[.int .u64 (i : Int), .int .u64 (t : Int), .slice A n c] 27)) 27 [.int .u64 (i' : Int), .int .u64 (t' : Int), .slice A' n' c']
    (try simp only [World.size_alloc] at h)
    exact h
  have B1 : Below w.heap.size w w1 := by
    rw [← hw1]
    exact (((Below.refl _ _).alloc (by simp <;> omega) _).alloc (by simp <;> omega) _)
  have Z1 : w1.heap.size = w.heap.size + 2 := by rw [← hw1]; simp
  have c0 := L0.cell 0
  have c1 := L0.cell 1
  have c2 := L0.cell 2
  have d0 := L1.cell 0
  have d1 := L1.cell 1
  have d2 := L1.cell 2
  simp only [List.getElem?_cons_zero, List.getElem?_cons_succ] at c0 c1 c2 d0 d1 d2
  have HW := Lib.hid hw1
  have HB1 := Lib.hid B1
  have CE := Lib.hid (EqualFunc_any (h.next (Nat.le_refl _) B1) hn (h'.next (Nat.le_refl _) B1) hn')
  have heq := fun w => eq_at (i : Int) (t : Int) (i' : Int) (t' : Int) w
  rw [beqN, beqN] at heq
  obtain ⟨q1, h1⟩ : ∃ q, (i == i' && t == t') = q := ⟨_, rfl⟩
  rw [h1] at heq
  have e0 : sameG ⟨i, t, vsE l⟩ ⟨i', t', vsE l'⟩ = (q1 && sameEs (vsE l) (vsE l')) := by rw [← h1]; rfl
  rw [e0]
  clear hw1 L0 L1 B1 Z1 h h' h1 e0
  cases q1
  · go_enter Try.func37, Try.ntmps37
    go_upto_region 1 with fail
    rw [HW.out]
    go_wp2_with fail
    go_ret
    exact ⟨rfl, HB1.out⟩
  go_enter Try.func37, Try.ntmps37
  go_upto_region 1 with fail
  rw [HW.out]
  go_wp2_with (first | (go_at_call 56; refine CE.out.mono ?_; rintro e w2 ⟨rfl, hb2⟩; have HB2 := Lib.hid (HB1.out.trans (hb2.mono HB1.out.size)); clear hb2) | fail)
  go_ret
  exact ⟨by simp, HB2.out⟩
theorem isLog_sum {i t n : Nat} {es : List En} (h : isLogW ⟨i, t, vsE es⟩ = true) (hl : es.length = n) : n ≤ 16 ∧ i + n ≤ 18446744073709551614 := by
  unfold isLogW mayW topI at h
  simp only [Bool.and_eq_true, decide_eq_true_eq, vsE_len, hl] at h
  obtain ⟨_, h1, h2, h3, _⟩ := h
  exact ⟨h1, by omega⟩
theorem fld1 (a b : Nat) (w : World) : (Instr.field 24 (atV a b) 1).run Try.prog w = .ok (.int .u64 (b : Int)) w := by kernel_rfl
def checkW (l : Lg) (top : Nat) : Int := if isLogW l = false then 220 else if top < lastT l.bt l.es then 2 else 0
set_option maxRecDepth 100000 in
set_option maxHeartbeats 2000000 in
theorem Check_any {w : World} {A : Option Addr} {n c : Nat} {es : List En} (hs : SqE w w.heap.size A n c es) (hn : n ≤ 1000) (i t : Nat) (hi : i < 18446744073709551616) (ht : t < 18446744073709551616) (top : Nat) (htop : top < 18446744073709551616) :
    Calls Try.prog 36 #[lgV i t A n c, .int .u64 (top : Int)] w fun e w' => e = .returned (.int .i64 (checkW ⟨i, t, vsE es⟩ top)) ∧ Below w.heap.size w w' := by
  obtain ⟨w1, hw1⟩ : ∃ w1, (w.alloc (.cells #[.int .u64 (i : Int), .int .u64 (t : Int), .slice A n c] 27)) = w1 := ⟨_, rfl⟩
  have L0 : Bl w1 (w.heap.size) 27 [.int .u64 (i : Int), .int .u64 (t : Int), .slice A n c] := by
    rw [← hw1]
    have h := Bl.new w 27 [.int .u64 (i : Int), .int .u64 (t : Int), .slice A n c]
    (try simp only [World.size_alloc] at h)
    exact h
  have B1 : Below w.heap.size w w1 := by
    rw [← hw1]
    exact ((Below.refl _ _).alloc (by simp <;> omega) _)
  have Z1 : w1.heap.size = w.heap.size + 1 := by rw [← hw1]; simp
  have HQ : Hid (∀ w', Below w1.heap.size w1 w' → w'.cell? ⟨w.heap.size, 0, none⟩ = some (.int .u64 (i : Int)) ∧ w'.cell? ⟨w.heap.size, 1, none⟩ = some (.int .u64 (t : Int)) ∧ w'.cell? ⟨w.heap.size, 2, none⟩ = some (.slice A n c)) := Lib.hid fun w' hw => by
    have := L0.below hw L0.lt
    have q0 := this.cell 0
    have q1 := this.cell 1
    have q2 := this.cell 2
    simp only [List.getElem?_cons_zero, List.getElem?_cons_succ] at q0 q1 q2
    exact ⟨q0, q1, q2⟩
  obtain ⟨c0, c1, c2⟩ := HQ.out _ (Below.refl _ _)
  have HW := Lib.hid hw1
  have HB1 := Lib.hid B1
  have HS := Lib.hid (fun (w' : World) (hw : Below w1.heap.size w1 w') => hs.next (Nat.le_refl _) (B1.trans (hw.mono B1.size)))
  have CL := Lib.hid (isLog_any (HS.out _ (Below.refl _ _)) hn i t hi ht)
  have HT := Lib.hid ht
  have hlen := hs.len
  clear hw1 L0 B1 Z1 hs hi
  rcases hq : isLogW ⟨i, t, vsE es⟩ with _ | _
  · have e0 : checkW ⟨i, t, vsE es⟩ top = 220 := by unfold checkW; rw [hq]; rfl
    rw [e0]
    rw [hq] at CL
    clear hq e0
    go_enter Try.func36, Try.ntmps36
    go_upto_region 1 with fail
    rw [HW.out]
    go_wp2_with (first | (go_at_call 39; refine CL.out.mono ?_; rintro e w2 ⟨rfl, hb2⟩; have HB2 := Lib.hid hb2; clear hb2 c0 c1 c2; obtain ⟨c0, c1, c2⟩ := HQ.out _ HB2.out) | fail)
    go_ret
    exact ⟨rfl, HB1.out.trans (HB2.out.mono HB1.out.size)⟩
  · obtain ⟨hn16, hin⟩ := isLog_sum hq hlen
    have CE := Lib.hid (fun (w' : World) (hw : Below w1.heap.size w1 w') => end_any (HS.out w' hw) hn i t (show i + n < 18446744073709551616 by omega) HT.out)
    rw [hq] at CL
    obtain ⟨u, hu⟩ : ∃ u, lastT t (vsE es) = u := ⟨_, rfl⟩
    rw [hu] at CE
    have HU := Lib.hid hu
    have hf := fun w => fld1 (i + n) u w
    by_cases htu : top < u
    · have e0 : checkW ⟨i, t, vsE es⟩ top = 2 := by unfold checkW; rw [hq, if_neg (by simp), if_pos (by show top < lastT t (vsE es); rw [hu]; exact htu)]
      rw [e0]
      have d0 : decide ((top : Int) < (u : Int)) = true := by simp; omega
      clear hq e0 hu hin
      go_enter Try.func36, Try.ntmps36
      go_upto_region 1 with fail
      rw [HW.out]
      go_wp2_with (first | (go_at_call 39; refine CL.out.mono ?_; rintro e w2 ⟨rfl, hb2⟩; have HB2 := Lib.hid hb2; clear hb2 c0 c1 c2; obtain ⟨c0, c1, c2⟩ := HQ.out _ HB2.out) | (go_at_call 50; refine (CE.out _ HB2.out).mono ?_; rintro e w3 ⟨rfl, hb3⟩; have HB3 := Lib.hid (HB2.out.trans (hb3.mono HB2.out.size)); clear hb3 c0 c1 c2) | fail)
      go_ret
      exact ⟨rfl, HB1.out.trans (HB3.out.mono HB1.out.size)⟩
    · have e0 : checkW ⟨i, t, vsE es⟩ top = 0 := by unfold checkW; rw [hq, if_neg (by simp), if_neg (by show ¬ top < lastT t (vsE es); rw [hu]; exact htu)]
      rw [e0]
      have d0 : decide ((top : Int) < (u : Int)) = false := by simp; omega
      clear hq e0 hu hin
      go_enter Try.func36, Try.ntmps36
      go_upto_region 1 with fail
      rw [HW.out]
      go_wp2_with (first | (go_at_call 39; refine CL.out.mono ?_; rintro e w2 ⟨rfl, hb2⟩; have HB2 := Lib.hid hb2; clear hb2 c0 c1 c2; obtain ⟨c0, c1, c2⟩ := HQ.out _ HB2.out) | (go_at_call 50; refine (CE.out _ HB2.out).mono ?_; rintro e w3 ⟨rfl, hb3⟩; have HB3 := Lib.hid (HB2.out.trans (hb3.mono HB2.out.size)); clear hb3 c0 c1 c2) | fail)
      go_ret
      exact ⟨rfl, HB1.out.trans (HB3.out.mono HB1.out.size)⟩
/-- A result that is a place in a cell. -/
theorem results_at {f : Func} {p : Tmp} (hf : f.results = #[.cell p 24]) (tmps : Array Value) (W : World) (b : Nat) (i t : Nat) (hp : tmps.getD p undef = .pointer (some ⟨b, 0, none⟩)) (h : Bl W b 24 (atC i t)) :
    (results f tmps).run Try.prog W = .ok (atV i t) W := by
  have := results_cell_mid (P := Try.prog) hf tmps W b 0 (atC i t) _ hp h.rg Try.underlying24 rfl size_at
  exact this
def lastW (l : Lg) : Nat × Nat := if isLogW l = false then (0, 0) else (lastI l, lastT l.bt l.es)
set_option maxRecDepth 100000 in
set_option maxHeartbeats 2000000 in
theorem Last_any {w : World} {A : Option Addr} {n c : Nat} {es : List En} (hs : SqE w w.heap.size A n c es) (hn : n ≤ 1000) (i t : Nat) (hi : i < 18446744073709551616) (ht : t < 18446744073709551616) :
    Calls Try.prog 24 #[lgV i t A n c] w fun e w' => e = .returned (atV (lastW ⟨i, t, vsE es⟩).1 (lastW ⟨i, t, vsE es⟩).2) ∧ Below w.heap.size w w' := by
  obtain ⟨w1, hw1⟩ : ∃ w1, ((w.alloc (.cells #[.int .u64 (i : Int), .int .u64 (t : Int), .slice A n c] 27)).alloc (.cells #[.int .u64 0, .int .u64 0] 24)) = w1 := ⟨_, rfl⟩
  have L0 : Bl w1 (w.heap.size) 27 [.int .u64 (i : Int), .int .u64 (t : Int), .slice A n c] := by
    rw [← hw1]
    have h := Bl.new w 27 [.int .u64 (i : Int), .int .u64 (t : Int), .slice A n c]
    (try simp only [World.size_alloc] at h)
    exact (h.alloc _)
  have L1 : Bl w1 (w.heap.size + 1) 24 [.int .u64 0, .int .u64 0] := by
    rw [← hw1]
    have h := Bl.new (w.alloc (.cells #[.int .u64 (i : Int), .int .u64 (t : Int), .slice A n c] 27)) 24 [.int .u64 0, .int .u64 0]
    (try simp only [World.size_alloc] at h)
    exact h
  have B1 : Below w.heap.size w w1 := by
    rw [← hw1]
    exact (((Below.refl _ _).alloc (by simp <;> omega) _).alloc (by simp <;> omega) _)
  have Z1 : w1.heap.size = w.heap.size + 2 := by rw [← hw1]; simp
  have HQ : Hid (∀ w', Below w1.heap.size w1 w' → w'.cell? ⟨w.heap.size, 0, none⟩ = some (.int .u64 (i : Int)) ∧ w'.cell? ⟨w.heap.size, 1, none⟩ = some (.int .u64 (t : Int)) ∧ w'.cell? ⟨w.heap.size, 2, none⟩ = some (.slice A n c)) := Lib.hid fun w' hw => by
    have := L0.below hw L0.lt
    have q0 := this.cell 0
    have q1 := this.cell 1
    have q2 := this.cell 2
    simp only [List.getElem?_cons_zero, List.getElem?_cons_succ] at q0 q1 q2
    exact ⟨q0, q1, q2⟩
  obtain ⟨c0, c1, c2⟩ := HQ.out _ (Below.refl _ _)
  have HW := Lib.hid hw1
  have HB1 := Lib.hid B1
  have HS := Lib.hid (fun (w' : World) (hw : Below w1.heap.size w1 w') => hs.next (Nat.le_refl _) (B1.trans (hw.mono B1.size)))
  have CL := Lib.hid (isLog_any (HS.out _ (Below.refl _ _)) hn i t hi ht)
  have HT := Lib.hid ht
  have hlen := hs.len
  have HL1 := Lib.hid (show Bl w1 (w.heap.size + 1) 24 (atC 0 0) from L1)
  have HR : Hid (∀ w', Below w1.heap.size w1 w' → w'.cell? ⟨w.heap.size + 1, 0, none⟩ = some (.int .u64 0) ∧ w'.cell? ⟨w.heap.size + 1, 1, none⟩ = some (.int .u64 0) ∧ w'.frozen? ⟨w.heap.size + 1, 0, none⟩ = false ∧ w'.frozen? ⟨w.heap.size + 1, 1, none⟩ = false) := Lib.hid fun w' hw => by
    have := HL1.out.below hw HL1.out.lt
    exact ⟨this.cell 0, this.cell 1, this.frozen 0, this.frozen 1⟩
  clear hw1 L0 L1 B1 Z1 hs hi
  have fin : ∀ w', Below w1.heap.size w1 w' → ∀ a b : Nat, Bl ((w'.setCell ⟨w.heap.size + 1, 0, none⟩ (.int .u64 (a : Int))).setCell ⟨w.heap.size + 1, 1, none⟩ (.int .u64 (b : Int))) (w.heap.size + 1) 24 (atC a b) ∧ Below w.heap.size w ((w'.setCell ⟨w.heap.size + 1, 0, none⟩ (.int .u64 (a : Int))).setCell ⟨w.heap.size + 1, 1, none⟩ (.int .u64 (b : Int))) := fun w' hw a b => by
    have hz := HB1.out.size
    have hz2 := hw.size
    exact ⟨bl_set2 (HL1.out.below hw HL1.out.lt) _ _, ((HB1.out.trans (hw.mono HB1.out.size)).trans (below_cell (by omega) (by omega))).trans (below_cell (by omega) (by simp [World.setCell]; omega))⟩
  have FIN := Lib.hid fin
  clear fin
  rcases hq : isLogW ⟨i, t, vsE es⟩ with _ | _
  · have e0 : lastW ⟨i, t, vsE es⟩ = (0, 0) := by unfold lastW; rw [hq]; rfl
    rw [e0]
    rw [hq] at CL
    clear hq e0
    go_enter Try.func24, Try.ntmps24
    go_upto_region 1 with fail
    rw [HW.out]
    go_wp2_with (first | (go_at_call 39; refine CL.out.mono ?_; rintro e w2 ⟨rfl, hb2⟩; have HB2 := Lib.hid hb2; clear hb2 c0 c1 c2; obtain ⟨r0, r1, f0, f1⟩ := HR.out _ HB2.out) | fail)
    exact bodyPost_ret (results_at rfl _ _ _ 0 0 rfl (FIN.out _ HB2.out 0 0).1) rfl ⟨rfl, (FIN.out _ HB2.out 0 0).2⟩
  · obtain ⟨hn16, hin⟩ := isLog_sum hq hlen
    have CE := Lib.hid (fun (w' : World) (hw : Below w1.heap.size w1 w') => end_any (HS.out w' hw) hn i t (show i + n < 18446744073709551616 by omega) HT.out)
    rw [hq] at CL
    have e0 : lastW ⟨i, t, vsE es⟩ = (i + n, lastT t (vsE es)) := by unfold lastW lastI; rw [hq, if_neg (by simp), vsE_len, hlen]
    rw [e0]
    obtain ⟨u, hu⟩ : ∃ u, lastT t (vsE es) = u := ⟨_, rfl⟩
    rw [hu] at CE ⊢
    obtain ⟨s, hs⟩ : ∃ s, i + n = s := ⟨_, rfl⟩
    rw [hs] at CE ⊢
    clear hq e0 hu hs hin
    go_enter Try.func24, Try.ntmps24
    go_upto_region 1 with fail
    rw [HW.out]
    go_wp2_with (first | (go_at_call 39; refine CL.out.mono ?_; rintro e w2 ⟨rfl, hb2⟩; have HB2 := Lib.hid hb2; clear hb2 c0 c1 c2; obtain ⟨c0, c1, c2⟩ := HQ.out _ HB2.out) | (go_at_call 50; refine (CE.out _ HB2.out).mono ?_; rintro e w3 ⟨rfl, hb3⟩; have HB3 := Lib.hid (HB2.out.trans (hb3.mono HB2.out.size)); clear hb3 c0 c1 c2; obtain ⟨r0, r1, f0, f1⟩ := HR.out _ HB3.out) | fail)
    exact bodyPost_ret (results_at rfl _ _ _ s u rfl (FIN.out _ HB3.out s u).1) rfl ⟨rfl, (FIN.out _ HB3.out s u).2⟩
end Go.Proofs.Ytgdcahakefmakaa
