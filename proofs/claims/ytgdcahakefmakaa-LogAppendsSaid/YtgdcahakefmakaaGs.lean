/-
  LOGS: Compact.
-/
import Derived.Test.YtgdcahakefmakaaGr
namespace Go.Proofs.Ytgdcahakefmakaa
set_option linter.unusedVariables false
set_option linter.unusedSimpArgs false
open Go.RowKit Go.WideShapes Go.ChangeShapes Go.Deep Go.Shelf
attribute [local irreducible] wpQuiet

/-- A log that is told, of its own memory. -/
def LgOut (base : Nat) (w' : World) (L : Lg) (v : Value) : Prop := ∃ A n c l', v = lgV L.bi L.bt A n c ∧ OwnL w' base A n c l' ∧ vsE l' = L.es
theorem OwnL.nil_ (w : World) (base : Nat) : OwnL w base none 0 0 [] := ⟨World.ownsRow_nil _ _ _ _, (fun x hx => by cases hx), (fun x hx => by cases hx)⟩
theorem LgOut.zero (base : Nat) (w' : World) : LgOut base w' zLg (lgV 0 0 none 0 0) := ⟨none, 0, 0, [], rfl, OwnL.nil_ _ _, rfl⟩
theorem LgOut.below {base : Nat} {w w' : World} {L : Lg} {v : Value} (h : LgOut base w L v) (hb : Below w.heap.size w w') : LgOut base w' L v := by
  obtain ⟨A, n, c, l, h1, h2, h3⟩ := h
  exact ⟨A, n, c, l, h1, h2.below hb, h3⟩
theorem enB_of {w : World} {B i t n c : Nat} {A : Option Addr} {es : List En} (h : riseE t (vsE es) = true) (hs : SqE w B A n c es) : ∀ x ∈ es, EnB x := fun x hx => by
  have h1 := (riseE_mem h x.v (by unfold vsE; exact List.mem_map.2 ⟨x, hx, rfl⟩)).1
  have h2 := hs.e x hx
  refine ⟨h2.t, h2.k, ?_⟩
  unfold okE mostD at h1
  simp only [Bool.and_eq_true, decide_eq_true_eq] at h1
  have h3 := h1.2.2
  show x.d.length ≤ 100000
  have h4 : x.v.d.length = x.d.length := rfl
  split at h3 <;> omega
theorem right_rise {i t : Nat} {es : List Ev} (h : isLogW ⟨i, t, es⟩ = true) : riseE t es = true := by
  unfold isLogW mayW at h
  simp only [Bool.and_eq_true] at h
  exact h.2.2.2.2
/-- Lists that are written out. -/
theorem one_ls {w : World} {A : Option Addr} {n c : Nat} {l : List En} (h : SqE w w.heap.size A n c l) : SqL (w.alloc (.cells #[.slice A n c] 25)) (w.alloc (.cells #[.slice A n c] 25)).heap.size (some ⟨w.heap.size, 0, none⟩) 1 1 [⟨A, n, c, l⟩] :=
  ⟨⟨rfl, Nat.le_refl _, by unfold maxLen; omega, (fun e => by cases e), ls_sz, fun _ => ⟨_, 0, rfl, by simp, (Lies.new w [.slice A n c] 25).rg⟩⟩, fun x hx => by
    rcases List.mem_cons.1 hx with rfl | hx
    · exact h.next (Nat.le_refl _) ((Below.refl _ _).alloc (Nat.le_refl _) _)
    · cases hx⟩
theorem two_ls {w : World} {A A' : Option Addr} {n c n' c' : Nat} {l l' : List En} (h : SqE w w.heap.size A n c l) (h' : SqE w w.heap.size A' n' c' l') : SqL (w.alloc (.cells #[.slice A n c, .slice A' n' c'] 25)) (w.alloc (.cells #[.slice A n c, .slice A' n' c'] 25)).heap.size (some ⟨w.heap.size, 0, none⟩) 2 2 [⟨A, n, c, l⟩, ⟨A', n', c', l'⟩] :=
  ⟨⟨rfl, Nat.le_refl _, by unfold maxLen; omega, (fun e => by cases e), ls_sz, fun _ => ⟨_, 0, rfl, by simp, (Lies.new w [.slice A n c, .slice A' n' c'] 25).rg⟩⟩, fun x hx => by
    rcases List.mem_cons.1 hx with rfl | hx
    · exact h.next (Nat.le_refl _) ((Below.refl _ _).alloc (Nat.le_refl _) _)
    rcases List.mem_cons.1 hx with rfl | hx
    · exact h'.next (Nat.le_refl _) ((Below.refl _ _).alloc (Nat.le_refl _) _)
    · cases hx⟩
theorem catL_one (A : Option Addr) (n c : Nat) (l : List En) : catL [⟨A, n, c, l⟩] = l := by simp [catL]
theorem catL_two (A A' : Option Addr) (n c n' c' : Nat) (l l' : List En) : catL [⟨A, n, c, l⟩, ⟨A', n', c', l'⟩] = l ++ l' := by simp [catL]
theorem results_compact (tmps : Array Value) (W : World) (b i t : Nat) (A : Option Addr) (n c : Nat) (k : Int) (h4 : tmps.getD 4 undef = .pointer (some ⟨b, 0, none⟩)) (h5 : tmps.getD 5 undef = .int .i64 k) (x : Bl W b 27 (lgC i t A n c)) :
    (results Try.f21 tmps).run Try.prog W = .ok (.tuple #[lgV i t A n c, .int .i64 k]) W := by
  have h4' : tmps[4]?.getD undef = .pointer (some ⟨b, 0, none⟩) := by simpa using h4
  have h5' : tmps[5]?.getD undef = .int .i64 k := by simpa using h5
  have x0 := x.cell 0
  have x1 := x.cell 1
  have x2 := x.cell 2
  simp only [lgC, List.getElem?_cons_zero, List.getElem?_cons_succ] at x0 x1 x2
  simp [results, Try.f21, go_sem, h4', h5', x0, x1, x2]
theorem ends_compact {W : World} {R : Ending → World → Prop} (tmps : Array Value) (b i t : Nat) (A : Option Addr) (n c : Nat) (k : Int) (h4 : tmps.getD 4 undef = .pointer (some ⟨b, 0, none⟩)) (h5 : tmps.getD 5 undef = .int .i64 k) (x : Bl W b 27 (lgC i t A n c))
    (h : R (.returned (.tuple #[lgV i t A n c, .int .i64 k])) W) : bodyPost Try.prog Try.f21 R Exit.ret { tmps := tmps, defers := [] } W := bodyPost_ret (results_compact tmps W b i t A n c k h4 h5 x) rfl h
/-- Three cells of a result that are stored. -/
theorem res3 {w w1 w' : World} {b : Nat} {u0 u1 u2 : Value} (hL : Bl w' b 27 [u0, u1, u2]) (hB : Below w.heap.size w w') (hb : w.heap.size ≤ b) (i t : Nat) (A : Option Addr) (n c : Nat) :
    Bl (((w'.setCell ⟨b, 0, none⟩ (.int .u64 (i : Int))).setCell ⟨b, 1, none⟩ (.int .u64 (t : Int))).setCell ⟨b, 2, none⟩ (.slice A n c)) b 27 (lgC i t A n c) ∧
    Below w.heap.size w (((w'.setCell ⟨b, 0, none⟩ (.int .u64 (i : Int))).setCell ⟨b, 1, none⟩ (.int .u64 (t : Int))).setCell ⟨b, 2, none⟩ (.slice A n c)) := by
  have hz := hB.size
  exact ⟨bl_set3 hL _ _ _, ((hB.trans (below_cell hb hz)).trans (below_cell hb (by simpa [World.setCell] using hz))).trans (below_cell hb (by simpa [World.setCell] using hz))⟩
set_option maxRecDepth 100000 in
set_option maxHeartbeats 4000000 in
theorem Compact_any {w : World} {A : Option Addr} {n c : Nat} {es : List En} (hs : SqE w w.heap.size A n c es) (hn : n ≤ 1000) (i t : Nat) (hi : i < 18446744073709551616) (ht : t < 18446744073709551616) (k : Nat) (hk : k < 18446744073709551616) :
    Calls Try.prog 21 #[lgV i t A n c, .int .u64 (k : Int)] w fun e w' => (∃ v, e = .returned (.tuple #[v, .int .i64 (compactW ⟨i, t, vsE es⟩ k).2]) ∧ LgOut w.heap.size w' (compactW ⟨i, t, vsE es⟩ k).1 v) ∧ Below w.heap.size w w' := by
  obtain ⟨w1, hw1⟩ : ∃ w1, ((w.alloc (.cells #[.int .u64 (i : Int), .int .u64 (t : Int), .slice A n c] 27)).alloc (.cells #[.int .u64 0, .int .u64 0, .slice none 0 0] 27)) = w1 := ⟨_, rfl⟩
  have L0 : Bl w1 (w.heap.size) 27 [.int .u64 (i : Int), .int .u64 (t : Int), .slice A n c] := by
    rw [← hw1]
    have h := Bl.new w 27 [.int .u64 (i : Int), .int .u64 (t : Int), .slice A n c]
    (try simp only [World.size_alloc] at h)
    exact (h.alloc _)
  have L1 : Bl w1 (w.heap.size + 1) 27 [.int .u64 0, .int .u64 0, .slice none 0 0] := by
    rw [← hw1]
    have h := Bl.new (w.alloc (.cells #[.int .u64 (i : Int), .int .u64 (t : Int), .slice A n c] 27)) 27 [.int .u64 0, .int .u64 0, .slice none 0 0]
    (try simp only [World.size_alloc] at h)
    exact h
  have B1 : Below w.heap.size w w1 := by
    rw [← hw1]
    exact (((Below.refl _ _).alloc (by simp <;> omega) _).alloc (by simp <;> omega) _)
  have Z1 : w1.heap.size = w.heap.size + 2 := by rw [← hw1]; simp
  have HQ : Hid (∀ w', Below w1.heap.size w1 w' → w'.cell? ⟨w.heap.size, 0, none⟩ = some (.int .u64 (i : Int)) ∧ w'.cell? ⟨w.heap.size, 1, none⟩ = some (.int .u64 (t : Int)) ∧ w'.cell? ⟨w.heap.size, 2, none⟩ = some (.slice A n c)) := Lib.hid fun w' hw => by
    have := L0.below hw L0.lt
    have q0 := this.cell 0
    have q1 := this.cell 1
    have q2 := this.cell 2
    simp only [List.getElem?_cons_zero, List.getElem?_cons_succ] at q0 q1 q2
    exact ⟨q0, q1, q2⟩
  obtain ⟨c0, c1, c2⟩ := HQ.out _ (Below.refl _ _)
  have HW := Lib.hid hw1
  have HB1 := Lib.hid B1
  have HS := Lib.hid (fun (w' : World) (hw : Below w1.heap.size w1 w') => hs.next (Nat.le_refl _) (B1.trans (hw.mono B1.size)))
  have CL := Lib.hid (isLog_any (HS.out _ (Below.refl _ _)) hn i t hi ht)
  have HT := Lib.hid ht
  have hlen := hs.len
  have HL1 := Lib.hid (show Bl w1 (w.heap.size + 1) 27 (lgC 0 0 none 0 0) from L1)
  clear hw1 L0 L1 B1 Z1 hi
  rcases hq : isLogW ⟨i, t, vsE es⟩ with _ | _
  · have e0 : compactW ⟨i, t, vsE es⟩ k = (zLg, 220) := by unfold compactW; rw [hq]; rfl
    rw [e0]
    rw [hq] at CL
    clear hq e0 hs
    go_enter Try.func21, Try.ntmps21
    go_upto_region 1 with fail
    rw [HW.out]
    go_wp2_with (first | (go_at_call 39; refine CL.out.mono ?_; rintro e w2 ⟨rfl, hb2⟩; have HB2 := Lib.hid hb2; clear hb2 c0 c1 c2; have M := (HL1.out.below HB2.out HL1.out.lt); have r0 := M.cell 0; have r1 := M.cell 1; have r2 := M.cell 2; have f0 := M.frozen 0; have f1 := M.frozen 1; have f2 := M.frozen 2; simp only [lgC, List.getElem?_cons_zero, List.getElem?_cons_succ] at r0 r1 r2; clear M) | fail)
    have R := res3 (w1 := w1) (HL1.out.below HB2.out HL1.out.lt) (HB1.out.trans (HB2.out.mono HB1.out.size)) (Nat.le_succ _) 0 0 none 0 0
    exact ends_compact _ _ 0 0 none 0 0 220 rfl rfl R.1 ⟨⟨_, rfl, LgOut.zero _ _⟩, R.2⟩
  obtain ⟨hn16, hin⟩ := isLog_sum hq hlen
  have HEB := Lib.hid (enB_of (i := i) (right_rise hq) hs)
  have CP := Lib.hid (fun (w' : World) (hw : Below w1.heap.size w1 w') => place_any (HS.out w' hw) hn i t (show i + n < 18446744073709551616 by omega) HT.out k hk)
  rw [hq] at CL
  rcases ho : placeW ⟨i, t, vsE es⟩ k with _ | u
  · have e0 : compactW ⟨i, t, vsE es⟩ k = (zLg, 4) := by unfold compactW; rw [hq, if_neg (by simp), ho]
    rw [e0]
    rw [ho] at CP
    clear hq e0 hs ho hin
    go_enter Try.func21, Try.ntmps21
    go_upto_region 1 with fail
    rw [HW.out]
    go_upto_region 4 with (first | (go_at_call 39; refine CL.out.mono ?_; rintro e w2 ⟨rfl, hb2⟩; have HB2 := Lib.hid hb2; clear hb2 c0 c1 c2; obtain ⟨c0, c1, c2⟩ := HQ.out _ HB2.out) | (go_at_call 44; refine (CP.out _ HB2.out).mono ?_; rintro e w3 ⟨rfl, hb3⟩; have HB3 := Lib.hid (HB2.out.trans (hb3.mono HB2.out.size)); clear hb3 c0 c1 c2; dsimp only [placeV]) | fail)
    obtain ⟨w4, hw4⟩ : ∃ w4, w3.alloc (.cells #[.int .u64 0, .int .u64 0] 24) = w4 := ⟨_, rfl⟩
    have HB4 := Lib.hid (show Below w1.heap.size w1 w4 by rw [← hw4]; exact HB3.out.alloc HB3.out.size _)
    rw [hw4]
    clear hw4
    have M := (HL1.out.below HB4.out HL1.out.lt)
    have r0 := M.cell 0
    have r1 := M.cell 1
    have r2 := M.cell 2
    have f0 := M.frozen 0
    have f1 := M.frozen 1
    have f2 := M.frozen 2
    simp only [lgC, List.getElem?_cons_zero, List.getElem?_cons_succ] at r0 r1 r2
    clear M
    go_wp2_with fail
    have R := res3 (w1 := w1) (HL1.out.below HB4.out HL1.out.lt) (HB1.out.trans (HB4.out.mono HB1.out.size)) (Nat.le_succ _) 0 0 none 0 0
    exact ends_compact _ _ 0 0 none 0 0 4 rfl rfl R.1 ⟨⟨_, rfl, LgOut.zero _ _⟩, R.2⟩
  · have hp := placeW_some ho
    simp only [lastI, vsE_len, hlen] at hp
    obtain ⟨d, hkd⟩ : ∃ d, k = i + d := ⟨k - i, by omega⟩
    have hdn : d ≤ n := by omega
    have e0 : compactW ⟨i, t, vsE es⟩ k = (⟨k, u, vsE (es.drop d)⟩, 0) := by
      unfold compactW
      rw [hq, if_neg (by simp), ho]
      show (Lg.mk k u ((vsE es).drop (k - i)), (0 : Int)) = _
      rw [show k - i = d by omega]
      unfold vsE
      rw [List.map_drop]
    rw [e0]
    rw [ho] at CP
    have CPA := Lib.hid (fun (w' : World) (hw : Below w1.heap.size w1 w') => (show Calls Try.prog 45 #[lgV i t A n c, atV k u] w' _ by rw [hkd]; exact parted_any (HS.out w' hw) hn i t d u hdn (by omega)))
    have HDL := Lib.hid (show (es.drop d).length = n - d ∧ ∀ x ∈ es.drop d, EnB x by rw [List.length_drop, hlen]; exact ⟨rfl, fun x hx => HEB.out x (List.mem_of_mem_drop hx)⟩)
    obtain ⟨es', hes'⟩ : ∃ es', es.drop d = es' := ⟨_, rfl⟩
    rw [hes'] at CPA HDL ⊢
    obtain ⟨N, hN⟩ : ∃ N, n - d = N := ⟨_, rfl⟩
    rw [hN] at CPA HDL
    have hNn : N ≤ n := by omega
    clear hq e0 hs ho hin hp hes' HEB hkd hN hdn
    go_enter Try.func21, Try.ntmps21
    go_upto_region 1 with fail
    rw [HW.out]
    go_upto_region 4 with (first | (go_at_call 39; refine CL.out.mono ?_; rintro e w2 ⟨rfl, hb2⟩; have HB2 := Lib.hid hb2; clear hb2 c0 c1 c2; obtain ⟨c0, c1, c2⟩ := HQ.out _ HB2.out) | (go_at_call 44; refine (CP.out _ HB2.out).mono ?_; rintro e w3 ⟨rfl, hb3⟩; have HB3 := Lib.hid (HB2.out.trans (hb3.mono HB2.out.size)); clear hb3 c0 c1 c2; dsimp only [placeV]) | fail)
    obtain ⟨w4, hw4⟩ : ∃ w4, w3.alloc (.cells #[.int .u64 (k : Int), .int .u64 (u : Int)] 24) = w4 := ⟨_, rfl⟩
    have HN4 := Lib.hid (show Bl w4 w3.heap.size 24 (atC k u) by rw [← hw4]; exact Bl.new w3 24 (atC k u))
    have HB4 := Lib.hid (show Below w1.heap.size w1 w4 by rw [← hw4]; exact HB3.out.alloc HB3.out.size _)
    have HG4 := Lib.hid (show w1.heap.size ≤ w3.heap.size from HB3.out.size)
    rw [hw4]
    clear hw4
    obtain ⟨c0, c1, c2⟩ := HQ.out _ HB4.out
    have z0 := HN4.out.cell 0
    have z1 := HN4.out.cell 1
    simp only [atC, List.getElem?_cons_zero, List.getElem?_cons_succ] at z0 z1
    go_upto_region 7 with (first | (go_at_call 45; refine (CPA.out _ HB4.out).mono ?_; rintro e w5 ⟨⟨A5, c5, rfl, hst5, hsd5⟩, hb5⟩; have HB5 := Lib.hid (HB4.out.trans (hb5.mono HB4.out.size)); have HN5 := Lib.hid (HN4.out.below hb5 HN4.out.lt); have HSD := Lib.hid (hsd5.next (Nat.le_refl _) hb5); clear hst5 hsd5 hb5 c0 c1 c2 z0 z1) | fail)
    obtain ⟨w6, hw6⟩ : ∃ w6, w5.alloc (.cells #[.slice A5 N c5] 25) = w6 := ⟨_, rfl⟩
    have SL6 := one_ls HSD.out
    rw [hw6] at SL6
    have CW := Lib.hid (with_any k u SL6 (by omega) (by rw [catL_one]; have := HDL.out.1; have := HSD.out.len; omega) (by rw [catL_one]; exact HDL.out.2))
    rw [catL_one, HDL.out.1] at CW
    have HB6 := Lib.hid (show Below w1.heap.size w1 w6 by rw [← hw6]; exact HB5.out.alloc HB5.out.size _)
    have HW6 := Lib.hid hw6
    have z0 := HN5.out.cell 0
    have z1 := HN5.out.cell 1
    simp only [atC, List.getElem?_cons_zero, List.getElem?_cons_succ] at z0 z1
    clear hw6 SL6
    go_wp2_with (first | (go_at_call 43; rw [HW6.out]; refine CW.out.mono ?_; rintro e w7 ⟨⟨A7, c7, l7, rfl, ho7, hv7⟩, hb7⟩; have HB7 := Lib.hid (HB6.out.trans (hb7.mono HB6.out.size)); have HO7 := Lib.hid (ho7.base_ (base' := w1.heap.size) HB6.out.size); have HV7 := Lib.hid hv7; clear ho7 hv7 hb7 z0 z1; have M := (HL1.out.below HB7.out HL1.out.lt); have r0 := M.cell 0; have r1 := M.cell 1; have r2 := M.cell 2; have f0 := M.frozen 0; have f1 := M.frozen 1; have f2 := M.frozen 2; simp only [lgC, List.getElem?_cons_zero, List.getElem?_cons_succ] at r0 r1 r2; clear M) | fail)
    have R := res3 (w1 := w1) (HL1.out.below HB7.out HL1.out.lt) (HB1.out.trans (HB7.out.mono HB1.out.size)) (Nat.le_succ _) k u A7 N c7
    have hz := HL1.out.lt
    exact ends_compact _ _ k u A7 N c7 0 rfl rfl R.1 ⟨⟨_, rfl, A7, N, c7, l7, rfl, (HO7.out.far' (HL1.out.below HB7.out HL1.out.lt) hz _ _ _).base_ HB1.out.size, HV7.out⟩, R.2⟩
end Go.Proofs.Ytgdcahakefmakaa
