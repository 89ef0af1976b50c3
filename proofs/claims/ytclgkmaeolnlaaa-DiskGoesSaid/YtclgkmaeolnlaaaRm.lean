/-
  CONTRACTS OF THE STATEMENTS' HELPERS: stands.
-/
import Derived.Test.YtclgkmaeolnlaaaRl
namespace Go.Proofs.Ytclgkmaeolnlaaa
set_option linter.unusedVariables false
set_option linter.unusedSimpArgs false
open Go.RowKit Go.WideShapes Go.ChangeShapes Go.Deep

theorem equal_same {w : World} {B B' : Nat} {A A' : Option Addr} {n c n' c' : Nat} {l : List Int} (hs : SlV w B A n c (ints l)) (hs' : SlV w B' A' n' c' (ints l)) :
    Calls Try.prog 36 #[.slice A n c, .slice A' n' c'] w fun e w' => e = .returned (.bool true) ∧ Below w.heap.size w w' :=
  (equal_any hs hs').mono fun e w' ⟨he, m, hw⟩ => ⟨by rw [he]; simp, by rw [hw]; exact below_drewN (Below.refl _ _) m⟩
/-- What waits, of the disk and of the document's. -/
def wtI (M : Mo) : List Int := M.wt.map fun p => (p.1 : Int)
theorem wtI_ints (M : Mo) : (M.wt.map fun p => Value.int .i64 (p.1 : Int)) = ints (wtI M) := by simp [ints, wtI]
theorem wtI_waitS {M : Mo} {s : Rs} {es : List En} (h : Rl M s es) : ((waitS es).map fun x : Nat => Value.int .i64 (x : Int)) = ints (wtI M) ∧ (waitS es).length = M.wt.length := by
  rw [h.ex.waits]
  simp [ints, wtI]

/-- Pending, as a slice that reads so. -/
theorem pending_sl {w : World} {g : Nat} {S : Nat → Prop} {M : Mo} (h : Dk w g S M) (hwt : M.wt.length ≤ 1000000000) :
    Calls Try.prog 25 #[rp g] w fun e w' => ∃ A c, e = .returned (.slice A M.wt.length c) ∧ w'.ownsRow w.heap.size 3 1 (.slice A M.wt.length c) M.wt.length (ints (wtI M)) ∧ Below w.heap.size w w' := by
  refine (pending_dk h hwt).mono ?_
  rintro e w' ⟨v, rfl, h1, h2⟩
  obtain ⟨A, c, rfl⟩ := own_form h1
  rw [wtI_ints] at h1
  exact ⟨A, c, rfl, h1, h2⟩
theorem waiting_sl {w : World} {A : Option Addr} {l c : Nat} {es : List En} (h : Ew w A l c es) (hl : l ≤ 1000000) {s : Rs} {M : Mo} (hr : Rl M s es) (n : Int) :
    Calls Try.prog 43 #[s.val n (.slice A l c)] w fun e w' => ∃ A c, e = .returned (.slice A M.wt.length c) ∧ SlV w' w'.heap.size A M.wt.length c (ints (wtI M)) ∧ Below w.heap.size w w' := by
  refine (waiting_any h hl s n).mono ?_
  rintro e w' ⟨v, rfl, h1, h2⟩
  obtain ⟨e1, e2⟩ := wtI_waitS hr
  rw [e1, e2] at h1
  obtain ⟨A, c, rfl⟩ := own_form h1
  exact ⟨A, c, rfl, own_slv h1, h2⟩

set_option maxRecDepth 100000 in
set_option maxHeartbeats 2000000 in
theorem stands_any {w : World} {g : Nat} {S : Nat → Prop} {M : Mo} (h : Dk w g S M) (hwt : M.wt.length ≤ 1000000) {A : Option Addr} {l c : Nat} {es : List En} (he : Ew w A l c es) (hl : l ≤ 1000000) {s : Rs} (hr : Rl M s es) (N : Int) (hN : N = (M.safe.length : Int)) :
    Calls Try.prog 17 #[rp g, s.val N (.slice A l c)] w fun e w' => e = .returned (.bool true) ∧ Below w.heap.size w w' := by
  subst hN
  obtain ⟨dead, fu, fa, done⟩ := s
  have e1 := hr.dead
  have e2 := hr.done
  simp only at e1 e2
  subst e1 e2
  obtain ⟨nn, hnn⟩ : ∃ nn, M.safe.length = nn := ⟨_, rfl⟩
  obtain ⟨dd, hdd⟩ : ∃ dd, M.dead = dd := ⟨_, rfl⟩
  obtain ⟨oo, hoo⟩ : ∃ oo, M.ops = oo := ⟨_, rfl⟩
  obtain ⟨wl, hwl⟩ : ∃ wl, M.wt.length = wl := ⟨_, rfl⟩
  have hcell : ∀ w', Below w.heap.size w w' → ∃ a n, w'.cell? ⟨g, 0, none⟩ = some (.slice a nn n) ∧ w'.cell? ⟨g, 6, none⟩ = some (.bool dd) ∧ w'.cell? ⟨g, 7, none⟩ = some (.int .i64 oo) := by
    intro w' hb
    obtain ⟨ga, O, W, hd⟩ := h.below hb
    rw [← hnn, ← hdd, ← hoo]
    exact ⟨_, _, hd.db.c0, hd.db.c6, hd.db.c7⟩
  have hpe := fun w' (hb : Below w.heap.size w w') => pending_sl (h.below hb) (by omega : M.wt.length ≤ 1000000000)
  have hwa := fun w' (hb : Below w.heap.size w w') => waiting_sl (he.below hb) hl hr nn
  rw [hwl] at hpe hwa hwt
  rw [hnn, hdd, hoo]
  rw [hdd, hoo] at hwa
  have HC := Lib.hid hcell
  have HP := Lib.hid hpe
  have HW := Lib.hid hwa
  have HB0 := Lib.hid (boxR_below w nn (.slice A l c) dd fu fa oo)
  have HBX := Lib.hid (boxR_bl w nn (.slice A l c) dd fu fa oo)
  have HZ1 := Lib.hid (boxR_size w nn (.slice A l c) dd fu fa oo)
  clear hcell hpe hwa h he hr hnn hdd hoo hwl
  go_enter Try.func17, Try.ntmps17
  go_wp2_with fail
  refine (HP.out _ HB0.out).mono ?_
  rintro e w2 ⟨A2, c2, rfl, hown2, hb2⟩
  rw [HZ1.out] at hown2 hb2
  have HO2 := Lib.hid hown2
  have B2 := Lib.hid (HB0.out.trans (hb2.mono (Nat.le_succ _)))
  have X2 := Lib.hid (HBX.out.below hb2 (Nat.lt_succ_self _))
  clear hown2 hb2
  have XD := Lib.hid (show Bl w2.drew w.heap.size 31 (rfL nn (.slice A l c) dd fu fa oo) from X2.out)
  have BD := Lib.hid B2.out.drew
  have SD := Lib.hid (own_slv HO2.out).drew
  have HK2 := Lib.hid (show w2.drew.cell? ⟨w.heap.size, 0, none⟩ = some (.int .i64 nn) ∧ w2.drew.cell? ⟨w.heap.size, 1, none⟩ = some (.slice A l c) ∧ w2.drew.cell? ⟨w.heap.size, 2, none⟩ = some (.bool dd) ∧ w2.drew.cell? ⟨w.heap.size, 3, none⟩ = some (.int .i64 fu) ∧ w2.drew.cell? ⟨w.heap.size, 4, none⟩ = some (.int .i64 fa) ∧ w2.drew.cell? ⟨w.heap.size, 5, none⟩ = some (.int .i64 oo) from ⟨XD.out.cell 0, XD.out.cell 1, XD.out.cell 2, XD.out.cell 3, XD.out.cell 4, XD.out.cell 5⟩)
  go_wp2
  go_region_held3 (fun w' => w'.cell? ⟨w.heap.size, 0, none⟩ = some (.int .i64 nn) ∧ w'.cell? ⟨w.heap.size, 1, none⟩ = some (.slice A l c) ∧ w'.cell? ⟨w.heap.size, 2, none⟩ = some (.bool dd) ∧ w'.cell? ⟨w.heap.size, 3, none⟩ = some (.int .i64 fu) ∧ w'.cell? ⟨w.heap.size, 4, none⟩ = some (.int .i64 fa) ∧ w'.cell? ⟨w.heap.size, 5, none⟩ = some (.int .i64 oo))
    (first | with_reducible exact HK2.out | with_reducible exact HK3.out | with_reducible exact HK4.out)
    (first
      | (go_at_call 43; refine (HW.out _ BD.out).mono ?_; rintro e w3 ⟨A3, c3, rfl, hs3, hb3⟩; have S3 := Lib.hid hs3; have B3 := Lib.hid (BD.out.trans (hb3.mono BD.out.size)); have T3 := Lib.hid (SD.out.below hb3); have X3 := Lib.hid (XD.out.below hb3 XD.out.lt); have Q3 := Lib.hid hb3; have HK3 := Lib.hid (show w3.cell? ⟨w.heap.size, 0, none⟩ = some (.int .i64 nn) ∧ w3.cell? ⟨w.heap.size, 1, none⟩ = some (.slice A l c) ∧ w3.cell? ⟨w.heap.size, 2, none⟩ = some (.bool dd) ∧ w3.cell? ⟨w.heap.size, 3, none⟩ = some (.int .i64 fu) ∧ w3.cell? ⟨w.heap.size, 4, none⟩ = some (.int .i64 fa) ∧ w3.cell? ⟨w.heap.size, 5, none⟩ = some (.int .i64 oo) from ⟨X3.out.cell 0, X3.out.cell 1, X3.out.cell 2, X3.out.cell 3, X3.out.cell 4, X3.out.cell 5⟩); clear hs3 hb3)
      | (go_at_call 36; refine (equal_same T3.out S3.out).mono ?_; rintro e w4 ⟨rfl, hb4⟩; have B4 := Lib.hid (B3.out.trans (hb4.mono B3.out.size)); have X4 := Lib.hid (X3.out.below hb4 X3.out.lt); have HK4 := Lib.hid (show w4.cell? ⟨w.heap.size, 0, none⟩ = some (.int .i64 nn) ∧ w4.cell? ⟨w.heap.size, 1, none⟩ = some (.slice A l c) ∧ w4.cell? ⟨w.heap.size, 2, none⟩ = some (.bool dd) ∧ w4.cell? ⟨w.heap.size, 3, none⟩ = some (.int .i64 fu) ∧ w4.cell? ⟨w.heap.size, 4, none⟩ = some (.int .i64 fa) ∧ w4.cell? ⟨w.heap.size, 5, none⟩ = some (.int .i64 oo) from ⟨X4.out.cell 0, X4.out.cell 1, X4.out.cell 2, X4.out.cell 3, X4.out.cell 4, X4.out.cell 5⟩); have hc4 := HC.out _ B4.out; obtain ⟨aa, na, d0, d6, d7⟩ := hc4; have D0 := Lib.hid d0; have D6 := Lib.hid d6; have D7 := Lib.hid d7; clear d0 d6 d7; have O4 := Lib.hid (ownsRow_keep HO2.out fun b hb => (hb4.block b (Nat.lt_of_lt_of_le (HO2.out.lt b hb).2 Q3.out.size)).trans (Q3.out.block b (HO2.out.lt b hb).2)); clear hb4)
      | (go_at_call 23; refine (len_any aa nn na D0.out).mono ?_; rintro e w5 ⟨rfl, rfl⟩)
      | (go_at_call 26; refine (dead_any dd D6.out).mono ?_; rintro e w5 ⟨rfl, rfl⟩)
      | (go_at_call 24; refine (ops_any oo D7.out).mono ?_; rintro e w5 ⟨rfl, rfl⟩))
  go_wp2
  go_loopw [37] (fun i wr => ∃ (k : Nat) (ys : List Int), k ≤ wl ∧ i = .int .i64 (k : Int) ∧ Hid (ys.length = wl) ∧ Hid (wr.ownsRow (w.heap.size + 1) 3 1 (.slice A2 wl c2) wl (ints ys)) ∧ Hid (Below w.heap.size w wr) ∧ Hid (Bl wr w.heap.size 31 (rfL nn (.slice A l c) dd fu fa oo))) (fun i _ => wl - (intOf i).toNat)
  case atStart => exact ⟨0, wtI M, Nat.zero_le _, rfl, Lib.hid (by have := O4.out.1; rw [ints_len] at this; omega), O4, B4, X4⟩
  case round =>
    obtain ⟨k, ys, hk, rfl, hyl, hown, hbel, hbx⟩ := hrel
    by_cases hlt : k < wl
    · have hd : decide ((k : Int) < (wl : Int)) = true := by simp; omega
      have hk0 : (0 : Int) ≤ (k : Int) := Int.natCast_nonneg _
      have hk1 : (k : Int) < (wl : Int) := by omega
      obtain ⟨g', cap, hv, hgb, hgl⟩ := hown.out.form (by omega)
      injection hv with hv1 hv2 hv3
      subst hv1 hv3
      have q1 := hown.out.cellAt k (by omega)
      rw [List.getElem?_eq_getElem (by rw [ints_len, hyl.out]; exact hlt), ints_at (by rw [hyl.out]; exact hlt)] at q1
      obtain ⟨y, hy⟩ : ∃ y, ys[k]'(by rw [hyl.out]; exact hlt) = y := ⟨_, rfl⟩
      rw [hy] at q1
      have q2 := hown.out.frozenAt k
      clear hy
      go_wp2
      go_roundw
      case rel => exact ⟨k + 1, ys.set k (wrap64 (y + 5)), by omega, by go_num, Lib.hid (by rw [List.length_set]; exact hyl.out), Lib.hid (by have := (hown.out.stored k (.int .i64 (wrap64 (y + 5)))).1; simpa [ints, List.map_set] using this), Lib.hid (hbel.out.setCell (p := ⟨g', k, none⟩) (by show w.heap.size ≤ g'; omega) _), Lib.hid (hbx.out.far (p := ⟨g', k, none⟩) (by show w.heap.size ≠ g'; omega) _)⟩
      case measure => simp [intOf]; omega
    · have hd : decide ((k : Int) < (wl : Int)) = false := by simp; omega
      clear O4 B4 X4 HK4 D0 D6 D7 B3 T3 X3 HK3 S3 Q3 XD BD SD HK2 X2 B2 HO2
      have BD := Lib.hid hbel.out.drew
      have XD := Lib.hid (show Bl wr.drew w.heap.size 31 (rfL nn (.slice A l c) dd fu fa oo) from hbx.out)
      have HK2 := Lib.hid (show wr.drew.cell? ⟨w.heap.size, 0, none⟩ = some (.int .i64 nn) ∧ wr.drew.cell? ⟨w.heap.size, 1, none⟩ = some (.slice A l c) ∧ wr.drew.cell? ⟨w.heap.size, 2, none⟩ = some (.bool dd) ∧ wr.drew.cell? ⟨w.heap.size, 3, none⟩ = some (.int .i64 fu) ∧ wr.drew.cell? ⟨w.heap.size, 4, none⟩ = some (.int .i64 fa) ∧ wr.drew.cell? ⟨w.heap.size, 5, none⟩ = some (.int .i64 oo) from ⟨XD.out.cell 0, XD.out.cell 1, XD.out.cell 2, XD.out.cell 3, XD.out.cell 4, XD.out.cell 5⟩)
      go_wp2
      go_region_held3 (fun w' => w'.cell? ⟨w.heap.size, 0, none⟩ = some (.int .i64 nn) ∧ w'.cell? ⟨w.heap.size, 1, none⟩ = some (.slice A l c) ∧ w'.cell? ⟨w.heap.size, 2, none⟩ = some (.bool dd) ∧ w'.cell? ⟨w.heap.size, 3, none⟩ = some (.int .i64 fu) ∧ w'.cell? ⟨w.heap.size, 4, none⟩ = some (.int .i64 fa) ∧ w'.cell? ⟨w.heap.size, 5, none⟩ = some (.int .i64 oo))
        (first | with_reducible exact HK2.out | with_reducible exact HK5.out | with_reducible exact HK6.out | with_reducible exact HK7.out)
        (first
          | (go_at_call 25; refine (HP.out _ BD.out).mono ?_; rintro e w5 ⟨A5, c5, rfl, hown5, hb5⟩; have S5 := Lib.hid (own_slv hown5); have B5 := Lib.hid (BD.out.trans (hb5.mono BD.out.size)); have X5 := Lib.hid (XD.out.below hb5 XD.out.lt); have HK5 := Lib.hid (show w5.cell? ⟨w.heap.size, 0, none⟩ = some (.int .i64 nn) ∧ w5.cell? ⟨w.heap.size, 1, none⟩ = some (.slice A l c) ∧ w5.cell? ⟨w.heap.size, 2, none⟩ = some (.bool dd) ∧ w5.cell? ⟨w.heap.size, 3, none⟩ = some (.int .i64 fu) ∧ w5.cell? ⟨w.heap.size, 4, none⟩ = some (.int .i64 fa) ∧ w5.cell? ⟨w.heap.size, 5, none⟩ = some (.int .i64 oo) from ⟨X5.out.cell 0, X5.out.cell 1, X5.out.cell 2, X5.out.cell 3, X5.out.cell 4, X5.out.cell 5⟩); clear hown5 hb5)
          | (go_at_call 43; refine (HW.out _ B5.out).mono ?_; rintro e w6 ⟨A6, c6, rfl, hs6, hb6⟩; have S6 := Lib.hid hs6; have B6 := Lib.hid (B5.out.trans (hb6.mono B5.out.size)); have T6 := Lib.hid (S5.out.below hb6); have X6 := Lib.hid (X5.out.below hb6 X5.out.lt); have HK6 := Lib.hid (show w6.cell? ⟨w.heap.size, 0, none⟩ = some (.int .i64 nn) ∧ w6.cell? ⟨w.heap.size, 1, none⟩ = some (.slice A l c) ∧ w6.cell? ⟨w.heap.size, 2, none⟩ = some (.bool dd) ∧ w6.cell? ⟨w.heap.size, 3, none⟩ = some (.int .i64 fu) ∧ w6.cell? ⟨w.heap.size, 4, none⟩ = some (.int .i64 fa) ∧ w6.cell? ⟨w.heap.size, 5, none⟩ = some (.int .i64 oo) from ⟨X6.out.cell 0, X6.out.cell 1, X6.out.cell 2, X6.out.cell 3, X6.out.cell 4, X6.out.cell 5⟩); clear hs6 hb6)
          | (go_at_call 36; refine (equal_same T6.out S6.out).mono ?_; rintro e w7 ⟨rfl, hb7⟩; have B7 := Lib.hid (B6.out.trans (hb7.mono B6.out.size)); have X7 := Lib.hid (X6.out.below hb7 X6.out.lt); have HK7 := Lib.hid (show w7.cell? ⟨w.heap.size, 0, none⟩ = some (.int .i64 nn) ∧ w7.cell? ⟨w.heap.size, 1, none⟩ = some (.slice A l c) ∧ w7.cell? ⟨w.heap.size, 2, none⟩ = some (.bool dd) ∧ w7.cell? ⟨w.heap.size, 3, none⟩ = some (.int .i64 fu) ∧ w7.cell? ⟨w.heap.size, 4, none⟩ = some (.int .i64 fa) ∧ w7.cell? ⟨w.heap.size, 5, none⟩ = some (.int .i64 oo) from ⟨X7.out.cell 0, X7.out.cell 1, X7.out.cell 2, X7.out.cell 3, X7.out.cell 4, X7.out.cell 5⟩); clear hb7))
      go_wp2
      go_ret
      exact ⟨rfl, B7.out⟩
end Go.Proofs.Ytclgkmaeolnlaaa
