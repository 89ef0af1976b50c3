/-
  CONTRACTS OF THE STATEMENTS' HELPERS: should, whole.
  CONTRACTS OF THE STATEMENTS' HELPERS: stands.
  WHAT DiskGoes AND DiskTwins STAND ON: a disk and the document's, side by side in memory.
-/
import Derived.Test.YtionbjocfepkaaaRka
import Derived.Test.YtionbjocfepkaaaRkb
import Derived.Test.YtionbjocfepkaaaRkc
import Derived.Test.YtionbjocfepkaaaRkd
import Derived.Test.YtionbjocfepkaaaRke
import Derived.Test.YtionbjocfepkaaaRkf
import Derived.Test.YtionbjocfepkaaaRkg
import Derived.Test.YtionbjocfepkaaaRkh
namespace Go.Proofs.Ytionbjocfepkaaa
set_option linter.unusedVariables false
set_option linter.unusedSimpArgs false
open Go.RowKit Go.WideShapes Go.ChangeShapes Go.Deep

abbrev ShOut (w : World) (A : Option Addr) (N : Int) (r : (Rs × List En) × List UInt8 × Int) : Ending → World → Prop := ShPost w A N r.1.1 r.1.2 r.2.1 r.2.2
theorem should_any {w : World} {A : Option Addr} {l c : Nat} {es : List En} (h : Ew w A l c es) (hl : l ≤ 1000000) {s : Rs} (hs : s.Ok) (hd : s.done ≤ 4611686018427387904) (N : Int) (hN : N ≤ 2048) (kind n : Int) (b : UInt8) {B : Nat} {KA : Option Addr} {kl kc : Nat} {ks : List Bool} (hk : SlV w B KA kl kc (bls ks)) (hB : B ≤ w.heap.size) :
    Calls Try.prog 10 #[s.val N (.slice A l c), actV kind n b KA kl kc] w (ShOut w A N (shouldR N s es kind n b ks)) := by
  rcases whichI_cases kind with e | e | e | e | e | e | e
  · have ha : shouldR N s es kind n b ks = (((s.begin N n false).1, es), (if (s.begin N n false).2 = 0 then holdE es n.toNat else Zb), (s.begin N n false).2) := by unfold shouldR; rw [if_pos e]
    rw [ha]
    exact should_0 h hl hs hd N hN kind n b hk hB e
  · have ha : shouldR N s es kind n b ks = (((s.begin N n true).1, if (s.begin N n true).2 = 0 then es ++ [⟨n.toNat, actB b, false⟩] else es), Zb, (s.begin N n true).2) := by unfold shouldR; rw [if_neg (by omega), if_pos (by omega)]
    rw [ha]
    exact should_1 h hl hs hd N hN kind n b hk hB e
  · have ha : shouldR N s es kind n b ks = (((s.begin N n true).1, if (s.begin N n true).2 = 0 then es ++ [⟨n.toNat, actB b, false⟩] else es), Zb, (s.begin N n true).2) := by unfold shouldR; rw [if_neg (by omega), if_pos (by omega)]
    rw [ha]
    exact should_2 h hl hs hd N hN kind n b hk hB e
  · have ha : shouldR N s es kind n b ks = (((s.begin N 0 true).1, if (s.begin N 0 true).2 = 0 then liveE (lvA true []) es 0 else es), Zb, (s.begin N 0 true).2) := by unfold shouldR; rw [if_neg (by omega), if_neg (by omega), if_pos e]
    rw [ha]
    exact should_3 h hl hs hd N hN kind n b hk hB e
  · cases hdd : s.dead
    · have ha : shouldR N s es kind n b ks = (({ s with fu := setR n }, es), Zb, 0) := by unfold shouldR; rw [if_neg (by omega), if_neg (by omega), if_neg (by omega), if_neg (by omega), if_neg (by rw [hdd]; decide), if_pos e]
      rw [ha]
      exact should_4a h hl hs hd N hN kind n b hk hB e hdd
    · have ha : shouldR N s es kind n b ks = ((s, es), Zb, 9) := by unfold shouldR; rw [if_neg (by omega), if_neg (by omega), if_neg (by omega), if_neg (by omega), if_pos hdd]
      rw [ha]
      exact should_4d h hl hs hd N hN kind n b hk hB e hdd
  · cases hdd : s.dead
    · have ha : shouldR N s es kind n b ks = (({ s with fa := setR n }, es), Zb, 0) := by unfold shouldR; rw [if_neg (by omega), if_neg (by omega), if_neg (by omega), if_neg (by omega), if_neg (by rw [hdd]; decide), if_neg (by omega)]
      rw [ha]
      exact should_5a h hl hs hd N hN kind n b hk hB e hdd
    · have ha : shouldR N s es kind n b ks = ((s, es), Zb, 9) := by unfold shouldR; rw [if_neg (by omega), if_neg (by omega), if_neg (by omega), if_neg (by omega), if_pos hdd]
      rw [ha]
      exact should_5d h hl hs hd N hN kind n b hk hB e hdd
  · have ha : shouldR N s es kind n b ks = ((⟨false, -1, -1, s.done⟩, liveE (lvA false (ks.take 200)) es 0), Zb, 0) := by unfold shouldR; rw [if_neg (by omega), if_neg (by omega), if_neg (by omega), if_pos e]
    rw [ha]
    exact should_6 h hl hs hd N hN kind n b hk hB e
end Go.Proofs.Ytionbjocfepkaaa
namespace Go.Proofs.Ytionbjocfepkaaa
set_option linter.unusedVariables false
set_option linter.unusedSimpArgs false
open Go.RowKit Go.WideShapes Go.ChangeShapes Go.Deep

theorem equal_same {w : World} {B B' : Nat} {A A' : Option Addr} {n c n' c' : Nat} {l : List Int} (hs : SlV w B A n c (ints l)) (hs' : SlV w B' A' n' c' (ints l)) :
    Calls Try.prog 23 #[.slice A n c, .slice A' n' c'] w fun e w' => e = .returned (.bool true) ∧ Below w.heap.size w w' :=
  (equal_any hs hs').mono fun e w' ⟨he, m, hw⟩ => ⟨by rw [he]; simp, by rw [hw]; exact below_drewN (Below.refl _ _) m⟩
/-- What waits, of the disk and of the document's. -/
def wtI (M : Mo) : List Int := M.wt.map fun p => (p.1 : Int)
theorem wtI_ints (M : Mo) : (M.wt.map fun p => Value.int .i64 (p.1 : Int)) = ints (wtI M) := by simp [ints, wtI]
theorem wtI_waitS {M : Mo} {s : Rs} {es : List En} (h : Rl M s es) : ((waitS es).map fun x : Nat => Value.int .i64 (x : Int)) = ints (wtI M) ∧ (waitS es).length = M.wt.length := by
  rw [h.ex.waits]
  simp [ints, wtI]

/-- Pending, as a slice that reads so. -/
theorem pending_sl {w : World} {g : Nat} {S : Nat → Prop} {M : Mo} (h : Dk w g S M) (hwt : M.wt.length ≤ 1000000000) :
    Calls Try.prog 16 #[rp g] w fun e w' => ∃ A c, e = .returned (.slice A M.wt.length c) ∧ w'.ownsRow w.heap.size 3 1 (.slice A M.wt.length c) M.wt.length (ints (wtI M)) ∧ Below w.heap.size w w' := by
  refine (pending_dk h hwt).mono ?_
  rintro e w' ⟨v, rfl, h1, h2⟩
  obtain ⟨A, c, rfl⟩ := own_form h1
  rw [wtI_ints] at h1
  exact ⟨A, c, rfl, h1, h2⟩
theorem waiting_sl {w : World} {A : Option Addr} {l c : Nat} {es : List En} (h : Ew w A l c es) (hl : l ≤ 1000000) {s : Rs} {M : Mo} (hr : Rl M s es) (n : Int) :
    Calls Try.prog 34 #[s.val n (.slice A l c)] w fun e w' => ∃ A c, e = .returned (.slice A M.wt.length c) ∧ SlV w' w'.heap.size A M.wt.length c (ints (wtI M)) ∧ Below w.heap.size w w' := by
  refine (waiting_any h hl s n).mono ?_
  rintro e w' ⟨v, rfl, h1, h2⟩
  obtain ⟨e1, e2⟩ := wtI_waitS hr
  rw [e1, e2] at h1
  obtain ⟨A, c, rfl⟩ := own_form h1
  exact ⟨A, c, rfl, own_slv h1, h2⟩

set_option maxRecDepth 100000 in
set_option maxHeartbeats 2000000 in
theorem stands_any {w : World} {g : Nat} {S : Nat → Prop} {M : Mo} (h : Dk w g S M) (hwt : M.wt.length ≤ 1000000) {A : Option Addr} {l c : Nat} {es : List En} (he : Ew w A l c es) (hl : l ≤ 1000000) {s : Rs} (hr : Rl M s es) (N : Int) (hN : N = (M.safe.length : Int)) :
    Calls Try.prog 12 #[rp g, s.val N (.slice A l c)] w fun e w' => e = .returned (.bool true) ∧ Below w.heap.size w w' := by
  subst hN
  obtain ⟨dead, fu, fa, done⟩ := s
  have e1 := hr.dead
  have e2 := hr.done
  simp only at e1 e2
  subst e1 e2
  obtain ⟨nn, hnn⟩ : ∃ nn, M.safe.length = nn := ⟨_, rfl⟩
  obtain ⟨dd, hdd⟩ : ∃ dd, M.dead = dd := ⟨_, rfl⟩
  obtain ⟨oo, hoo⟩ : ∃ oo, M.ops = oo := ⟨_, rfl⟩
  obtain ⟨wl, hwl⟩ : ∃ wl, M.wt.length = wl := ⟨_, rfl⟩
  have hcell : ∀ w', Below w.heap.size w w' → ∃ a n, w'.cell? ⟨g, 0, none⟩ = some (.slice a nn n) ∧ w'.cell? ⟨g, 6, none⟩ = some (.bool dd) ∧ w'.cell? ⟨g, 7, none⟩ = some (.int .i64 oo) := by
    intro w' hb
    obtain ⟨ga, O, W, hd⟩ := h.below hb
    rw [← hnn, ← hdd, ← hoo]
    exact ⟨_, _, hd.db.c0, hd.db.c6, hd.db.c7⟩
  have hpe := fun w' (hb : Below w.heap.size w w') => pending_sl (h.below hb) (by omega : M.wt.length ≤ 1000000000)
  have hwa := fun w' (hb : Below w.heap.size w w') => waiting_sl (he.below hb) hl hr nn
  rw [hwl] at hpe hwa hwt
  rw [hnn, hdd, hoo]
  rw [hdd, hoo] at hwa
  have HC := Lib.hid hcell
  have HP := Lib.hid hpe
  have HW := Lib.hid hwa
  have HB0 := Lib.hid (boxR_below w nn (.slice A l c) dd fu fa oo)
  have HBX := Lib.hid (boxR_bl w nn (.slice A l c) dd fu fa oo)
  have HZ1 := Lib.hid (boxR_size w nn (.slice A l c) dd fu fa oo)
  clear hcell hpe hwa h he hr hnn hdd hoo hwl
  go_enter Try.func12, Try.ntmps12
  go_wp2_with fail
  refine (HP.out _ HB0.out).mono ?_
  rintro e w2 ⟨A2, c2, rfl, hown2, hb2⟩
  rw [HZ1.out] at hown2 hb2
  have HO2 := Lib.hid hown2
  have B2 := Lib.hid (HB0.out.trans (hb2.mono (Nat.le_succ _)))
  have X2 := Lib.hid (HBX.out.below hb2 (Nat.lt_succ_self _))
  clear hown2 hb2
  have XD := Lib.hid (show Bl w2.drew w.heap.size 30 (rfL nn (.slice A l c) dd fu fa oo) from X2.out)
  have BD := Lib.hid B2.out.drew
  have SD := Lib.hid (own_slv HO2.out).drew
  have HK2 := Lib.hid (show w2.drew.cell? ⟨w.heap.size, 0, none⟩ = some (.int .i64 nn) ∧ w2.drew.cell? ⟨w.heap.size, 1, none⟩ = some (.slice A l c) ∧ w2.drew.cell? ⟨w.heap.size, 2, none⟩ = some (.bool dd) ∧ w2.drew.cell? ⟨w.heap.size, 3, none⟩ = some (.int .i64 fu) ∧ w2.drew.cell? ⟨w.heap.size, 4, none⟩ = some (.int .i64 fa) ∧ w2.drew.cell? ⟨w.heap.size, 5, none⟩ = some (.int .i64 oo) from ⟨XD.out.cell 0, XD.out.cell 1, XD.out.cell 2, XD.out.cell 3, XD.out.cell 4, XD.out.cell 5⟩)
  go_wp2
  go_region_held3 (fun w' => w'.cell? ⟨w.heap.size, 0, none⟩ = some (.int .i64 nn) ∧ w'.cell? ⟨w.heap.size, 1, none⟩ = some (.slice A l c) ∧ w'.cell? ⟨w.heap.size, 2, none⟩ = some (.bool dd) ∧ w'.cell? ⟨w.heap.size, 3, none⟩ = some (.int .i64 fu) ∧ w'.cell? ⟨w.heap.size, 4, none⟩ = some (.int .i64 fa) ∧ w'.cell? ⟨w.heap.size, 5, none⟩ = some (.int .i64 oo))
    (first | with_reducible exact HK2.out | with_reducible exact HK3.out | with_reducible exact HK4.out)
    (first
      | (go_at_call 34; refine (HW.out _ BD.out).mono ?_; rintro e w3 ⟨A3, c3, rfl, hs3, hb3⟩; have S3 := Lib.hid hs3; have B3 := Lib.hid (BD.out.trans (hb3.mono BD.out.size)); have T3 := Lib.hid (SD.out.below hb3); have X3 := Lib.hid (XD.out.below hb3 XD.out.lt); have Q3 := Lib.hid hb3; have HK3 := Lib.hid (show w3.cell? ⟨w.heap.size, 0, none⟩ = some (.int .i64 nn) ∧ w3.cell? ⟨w.heap.size, 1, none⟩ = some (.slice A l c) ∧ w3.cell? ⟨w.heap.size, 2, none⟩ = some (.bool dd) ∧ w3.cell? ⟨w.heap.size, 3, none⟩ = some (.int .i64 fu) ∧ w3.cell? ⟨w.heap.size, 4, none⟩ = some (.int .i64 fa) ∧ w3.cell? ⟨w.heap.size, 5, none⟩ = some (.int .i64 oo) from ⟨X3.out.cell 0, X3.out.cell 1, X3.out.cell 2, X3.out.cell 3, X3.out.cell 4, X3.out.cell 5⟩); clear hs3 hb3)
      | (go_at_call 23; refine (equal_same T3.out S3.out).mono ?_; rintro e w4 ⟨rfl, hb4⟩; have B4 := Lib.hid (B3.out.trans (hb4.mono B3.out.size)); have X4 := Lib.hid (X3.out.below hb4 X3.out.lt); have HK4 := Lib.hid (show w4.cell? ⟨w.heap.size, 0, none⟩ = some (.int .i64 nn) ∧ w4.cell? ⟨w.heap.size, 1, none⟩ = some (.slice A l c) ∧ w4.cell? ⟨w.heap.size, 2, none⟩ = some (.bool dd) ∧ w4.cell? ⟨w.heap.size, 3, none⟩ = some (.int .i64 fu) ∧ w4.cell? ⟨w.heap.size, 4, none⟩ = some (.int .i64 fa) ∧ w4.cell? ⟨w.heap.size, 5, none⟩ = some (.int .i64 oo) from ⟨X4.out.cell 0, X4.out.cell 1, X4.out.cell 2, X4.out.cell 3, X4.out.cell 4, X4.out.cell 5⟩); have hc4 := HC.out _ B4.out; obtain ⟨aa, na, d0, d6, d7⟩ := hc4; have D0 := Lib.hid d0; have D6 := Lib.hid d6; have D7 := Lib.hid d7; clear d0 d6 d7; have O4 := Lib.hid (ownsRow_keep HO2.out fun b hb => (hb4.block b (Nat.lt_of_lt_of_le (HO2.out.lt b hb).2 Q3.out.size)).trans (Q3.out.block b (HO2.out.lt b hb).2)); clear hb4)
      | (go_at_call 35; refine (len_any aa nn na D0.out).mono ?_; rintro e w5 ⟨rfl, rfl⟩)
      | (go_at_call 25; refine (dead_any dd D6.out).mono ?_; rintro e w5 ⟨rfl, rfl⟩)
      | (go_at_call 36; refine (ops_any oo D7.out).mono ?_; rintro e w5 ⟨rfl, rfl⟩))
  go_wp2
  go_loopw [37] (fun i wr => ∃ (k : Nat) (ys : List Int), k ≤ wl ∧ i = .int .i64 (k : Int) ∧ Hid (ys.length = wl) ∧ Hid (wr.ownsRow (w.heap.size + 1) 3 1 (.slice A2 wl c2) wl (ints ys)) ∧ Hid (Below w.heap.size w wr) ∧ Hid (Bl wr w.heap.size 30 (rfL nn (.slice A l c) dd fu fa oo))) (fun i _ => wl - (intOf i).toNat)
  case atStart => exact ⟨0, wtI M, Nat.zero_le _, rfl, Lib.hid (by have := O4.out.1; rw [ints_len] at this; omega), O4, B4, X4⟩
  case round =>
    obtain ⟨k, ys, hk, rfl, hyl, hown, hbel, hbx⟩ := hrel
    by_cases hlt : k < wl
    · have hd : decide ((k : Int) < (wl : Int)) = true := by simp; omega
      have hk0 : (0 : Int) ≤ (k : Int) := Int.natCast_nonneg _
      have hk1 : (k : Int) < (wl : Int) := by omega
      obtain ⟨g', cap, hv, hgb, hgl⟩ := hown.out.form (by omega)
      injection hv with hv1 hv2 hv3
      subst hv1 hv3
      have q1 := hown.out.cellAt k (by omega)
      rw [List.getElem?_eq_getElem (by rw [ints_len, hyl.out]; exact hlt), ints_at (by rw [hyl.out]; exact hlt)] at q1
      obtain ⟨y, hy⟩ : ∃ y, ys[k]'(by rw [hyl.out]; exact hlt) = y := ⟨_, rfl⟩
      rw [hy] at q1
      have q2 := hown.out.frozenAt k
      clear hy
      go_wp2
      go_roundw
      case rel => exact ⟨k + 1, ys.set k (wrap64 (y + 5)), by omega, by go_num, Lib.hid (by rw [List.length_set]; exact hyl.out), Lib.hid (by have := (hown.out.stored k (.int .i64 (wrap64 (y + 5)))).1; simpa [ints, List.map_set] using this), Lib.hid (hbel.out.setCell (p := ⟨g', k, none⟩) (by show w.heap.size ≤ g'; omega) _), Lib.hid (hbx.out.far (p := ⟨g', k, none⟩) (by show w.heap.size ≠ g'; omega) _)⟩
      case measure => simp [intOf]; omega
    · have hd : decide ((k : Int) < (wl : Int)) = false := by simp; omega
      clear O4 B4 X4 HK4 D0 D6 D7 B3 T3 X3 HK3 S3 Q3 XD BD SD HK2 X2 B2 HO2
      have BD := Lib.hid hbel.out.drew
      have XD := Lib.hid (show Bl wr.drew w.heap.size 30 (rfL nn (.slice A l c) dd fu fa oo) from hbx.out)
      have HK2 := Lib.hid (show wr.drew.cell? ⟨w.heap.size, 0, none⟩ = some (.int .i64 nn) ∧ wr.drew.cell? ⟨w.heap.size, 1, none⟩ = some (.slice A l c) ∧ wr.drew.cell? ⟨w.heap.size, 2, none⟩ = some (.bool dd) ∧ wr.drew.cell? ⟨w.heap.size, 3, none⟩ = some (.int .i64 fu) ∧ wr.drew.cell? ⟨w.heap.size, 4, none⟩ = some (.int .i64 fa) ∧ wr.drew.cell? ⟨w.heap.size, 5, none⟩ = some (.int .i64 oo) from ⟨XD.out.cell 0, XD.out.cell 1, XD.out.cell 2, XD.out.cell 3, XD.out.cell 4, XD.out.cell 5⟩)
      go_wp2
      go_region_held3 (fun w' => w'.cell? ⟨w.heap.size, 0, none⟩ = some (.int .i64 nn) ∧ w'.cell? ⟨w.heap.size, 1, none⟩ = some (.slice A l c) ∧ w'.cell? ⟨w.heap.size, 2, none⟩ = some (.bool dd) ∧ w'.cell? ⟨w.heap.size, 3, none⟩ = some (.int .i64 fu) ∧ w'.cell? ⟨w.heap.size, 4, none⟩ = some (.int .i64 fa) ∧ w'.cell? ⟨w.heap.size, 5, none⟩ = some (.int .i64 oo))
        (first | with_reducible exact HK2.out | with_reducible exact HK5.out | with_reducible exact HK6.out | with_reducible exact HK7.out)
        (first
          | (go_at_call 16; refine (HP.out _ BD.out).mono ?_; rintro e w5 ⟨A5, c5, rfl, hown5, hb5⟩; have S5 := Lib.hid (own_slv hown5); have B5 := Lib.hid (BD.out.trans (hb5.mono BD.out.size)); have X5 := Lib.hid (XD.out.below hb5 XD.out.lt); have HK5 := Lib.hid (show w5.cell? ⟨w.heap.size, 0, none⟩ = some (.int .i64 nn) ∧ w5.cell? ⟨w.heap.size, 1, none⟩ = some (.slice A l c) ∧ w5.cell? ⟨w.heap.size, 2, none⟩ = some (.bool dd) ∧ w5.cell? ⟨w.heap.size, 3, none⟩ = some (.int .i64 fu) ∧ w5.cell? ⟨w.heap.size, 4, none⟩ = some (.int .i64 fa) ∧ w5.cell? ⟨w.heap.size, 5, none⟩ = some (.int .i64 oo) from ⟨X5.out.cell 0, X5.out.cell 1, X5.out.cell 2, X5.out.cell 3, X5.out.cell 4, X5.out.cell 5⟩); clear hown5 hb5)
          | (go_at_call 34; refine (HW.out _ B5.out).mono ?_; rintro e w6 ⟨A6, c6, rfl, hs6, hb6⟩; have S6 := Lib.hid hs6; have B6 := Lib.hid (B5.out.trans (hb6.mono B5.out.size)); have T6 := Lib.hid (S5.out.below hb6); have X6 := Lib.hid (X5.out.below hb6 X5.out.lt); have HK6 := Lib.hid (show w6.cell? ⟨w.heap.size, 0, none⟩ = some (.int .i64 nn) ∧ w6.cell? ⟨w.heap.size, 1, none⟩ = some (.slice A l c) ∧ w6.cell? ⟨w.heap.size, 2, none⟩ = some (.bool dd) ∧ w6.cell? ⟨w.heap.size, 3, none⟩ = some (.int .i64 fu) ∧ w6.cell? ⟨w.heap.size, 4, none⟩ = some (.int .i64 fa) ∧ w6.cell? ⟨w.heap.size, 5, none⟩ = some (.int .i64 oo) from ⟨X6.out.cell 0, X6.out.cell 1, X6.out.cell 2, X6.out.cell 3, X6.out.cell 4, X6.out.cell 5⟩); clear hs6 hb6)
          | (go_at_call 23; refine (equal_same T6.out S6.out).mono ?_; rintro e w7 ⟨rfl, hb7⟩; have B7 := Lib.hid (B6.out.trans (hb7.mono B6.out.size)); have X7 := Lib.hid (X6.out.below hb7 X6.out.lt); have HK7 := Lib.hid (show w7.cell? ⟨w.heap.size, 0, none⟩ = some (.int .i64 nn) ∧ w7.cell? ⟨w.heap.size, 1, none⟩ = some (.slice A l c) ∧ w7.cell? ⟨w.heap.size, 2, none⟩ = some (.bool dd) ∧ w7.cell? ⟨w.heap.size, 3, none⟩ = some (.int .i64 fu) ∧ w7.cell? ⟨w.heap.size, 4, none⟩ = some (.int .i64 fa) ∧ w7.cell? ⟨w.heap.size, 5, none⟩ = some (.int .i64 oo) from ⟨X7.out.cell 0, X7.out.cell 1, X7.out.cell 2, X7.out.cell 3, X7.out.cell 4, X7.out.cell 5⟩); clear hb7))
      go_wp2
      go_ret
      exact ⟨rfl, B7.out⟩
end Go.Proofs.Ytionbjocfepkaaa
namespace Go.Proofs.Ytionbjocfepkaaa
set_option linter.unusedVariables false
set_option linter.unusedSimpArgs false
open Go.RowKit Go.WideShapes Go.ChangeShapes Go.Deep

theorem Lies.mv {W W' : World} {S : Nat → Prop} {b k : Nat} {l : List Value} (h : Lies W b k l) (hm : Mv S W W') (hn : ¬ S b) : Lies W' b k l :=
  ⟨rangeAt_keep h.rg (hm.block b h.lt hn), there_keep h.th (hm.block b h.lt hn), Nat.lt_of_lt_of_le h.lt hm.size, h.len⟩
theorem alter_safe_len {M : Mo} (t : Bool) (sf : List (List UInt8)) (wt' : List (Nat × List UInt8)) (h : sf.length = M.safe.length) : (M.alter t sf wt').1.safe.length = M.safe.length := by
  unfold Mo.alter
  repeat' split
  all_goals first | rfl | exact h
theorem act_safe_len (M : Mo) (kind n : Int) (b : UInt8) (ks : List Bool) : (M.act kind n b ks).1.safe.length = M.safe.length := by
  unfold Mo.act
  split
  · unfold Mo.read
    repeat' split
    all_goals rfl
  split
  · exact alter_safe_len _ _ _ rfl
  split
  · exact alter_safe_len _ _ _ (settle_len _ _ _ _)
  split
  · unfold Mo.arm
    split <;> rfl
  split
  · unfold Mo.fail
    split <;> rfl
  · exact settle_len _ _ _ _
theorem Rl.wt {M : Mo} {s : Rs} {es : List En} (h : Rl M s es) : M.wt.length ≤ es.length := by
  have h1 := waitS_len es
  rw [h.ex.waits, List.length_map] at h1
  exact h1
/-- The disk g and the document's disk in variable b7, one act after the other. -/
structure Pr (W : World) (g b7 N k : Nat) (S : Nat → Prop) (M : Mo) (s : Rs) (A : Option Addr) (l c : Nat) (es : List En) (w : World) : Prop where
  live : Live W w g S M
  rl : Rl M s es
  len : M.safe.length = N
  cnt : es.length ≤ k
  ops : M.ops ≤ k
  ew : Ew w A l c es
  off : ∀ x, A = some x → ¬ S x.block ∧ x.block ≠ b7
  x : Lies w b7 6 (rfL N (.slice A l c) s.dead s.fu s.fa s.done)
  nb : ¬ S b7
  wb : W.heap.size ≤ b7
theorem Pr.below {W w w' : World} {g b7 N k : Nat} {S : Nat → Prop} {M : Mo} {s : Rs} {A : Option Addr} {l c : Nat} {es : List En} (h : Pr W g b7 N k S M s A l c es w) (hb : Below w.heap.size w w') : Pr W g b7 N k S M s A l c es w' :=
  ⟨h.live.below hb, h.rl, h.len, h.cnt, h.ops, h.ew.below hb, h.off, h.x.below hb h.x.lt, h.nb, h.wb⟩
theorem live_set {W w : World} {g : Nat} {S : Nat → Prop} {M : Mo} (h : Live W w g S M) {b : Nat} (hnb : ¬ S b) (hWb : W.heap.size ≤ b) (o : Nat) (vs : List Value) : Live W (w.setCells b o vs) g S M :=
  ⟨h.1.keep (Nat.le_of_eq (size_setCells _ _ _ _).symm) fun k hk => (setCells_os _ _ _ _).2.2.2.2 k (fun e => hnb (e ▸ hk)), h.2.1, below_setCells h.2.2 hWb _ _⟩
/-- A disk and a block laid, both filled. -/
abbrev twoW (w : World) : World := zbW (boxR w 0 (.slice none 0 0) false 0 0 0)
abbrev filW (w : World) (x : List Value) : World := (twoW w).setCells w.heap.size 0 x
abbrev fulW (w : World) (x : List Value) (q : List UInt8) : World := (filW w x).setCells (w.heap.size + 1) 0 (bvs q)
structure Ful (w : World) (x : List Value) (q : List UInt8) : Prop where
  t1 : (twoW w).there w.heap.size 0 6
  t2 : (filW w x).there (w.heap.size + 1) 0 64
  lx : Lies (fulW w x q) w.heap.size 6 x
  lq : Lies (fulW w x q) (w.heap.size + 1) 64 (bvs q)
  below : Below w.heap.size w (fulW w x q)
theorem Ful.mk_ (w : World) {x : List Value} (hx : x.length = 6) {q : List UInt8} (hq : q.length = 64) : Ful w x q := by
  have l1 : Lies (boxR w 0 (.slice none 0 0) false 0 0 0) w.heap.size 6 rf0 := Lies.new w rf0 30
  have z1 := boxR_size w 0 (.slice none 0 0) false 0 0 0
  have b1 := boxR_below w 0 (.slice none 0 0) false 0 0 0
  have l2 : Lies (twoW w) (w.heap.size + 1) 64 (bvs Zb) := by
    have := Lies.zb (boxR w 0 (.slice none 0 0) false 0 0 0)
    rwa [z1] at this
  have l3 : Lies (twoW w) w.heap.size 6 rf0 := l1.below (zbW_below _) (by rw [z1]; omega)
  have b2 : Below w.heap.size w (twoW w) := b1.trans ((zbW_below _).mono (by rw [z1]; omega))
  have l4 := l3.set_ (l' := x) hx
  have l5 := l2.other (b' := w.heap.size) (by omega) 0 x
  exact ⟨l3.th, l5.th, l4.other (by omega) _ _, l5.set_ (by rw [bvs_len, hq]), below_setCells (below_setCells b2 (Nat.le_refl _) _ _) (by omega) _ _⟩
theorem ldw_ref {ops : Array Oper} {rest : List Oper} {op : Oper} {a : Act} {w : World} {Q : Exit → Act → World → Prop} (hw : Region.wanted op (yielded ops a.tmps) = true) (x : Operand) (ho : op.op = .load 30 x)
    (b : Nat) (n : Int) (V : Value) (dead : Bool) (fu fa done : Int) (hx : a.eval x = .pointer (some ⟨b, 0, none⟩)) (hc : w.rangeAt b 0 (rfL n V dead fu fa done))
    (h : wpList Try.prog ops Q rest (a.put op.dst (rfV n V dead fu fa done)) w) : wpList Try.prog ops Q (op :: rest) a w :=
  wpList_want hw (wp_load_mid _ x ho b 0 hx (rfL n V dead fu fa done) _ hc Try.underlying30 rfl ref_size h)
/-- Behind the crash: the disk is read, sector by sector. -/
structure Fi (W : World) (g b7 N k : Nat) (S : Nat → Prop) (M : Mo) (sf : List (List UInt8)) (x : List Value) (A : Option Addr) (l c : Nat) (es : List En) (w : World) : Prop where
  live : Live W w g S M
  plain : M.Plain
  safe : M.safe = sf
  wt : M.wt = []
  ops : M.ops ≤ 100 + k
  ew : Ew w A l c es
  off : ∀ x, A = some x → ¬ S x.block
  x : Lies w b7 6 x
  nb : ¬ S b7
theorem Fi.below {W w w' : World} {g b7 N k : Nat} {S : Nat → Prop} {M : Mo} {sf : List (List UInt8)} {x : List Value} {A : Option Addr} {l c : Nat} {es : List En} (h : Fi W g b7 N k S M sf x A l c es w) (hb : Below w.heap.size w w') : Fi W g b7 N k S M sf x A l c es w' :=
  ⟨h.live.below hb, h.plain, h.safe, h.wt, h.ops, h.ew.below hb, h.off, h.x.below hb h.x.lt, h.nb⟩
theorem Fi.read {W w w' : World} {g b7 N k : Nat} {S : Nat → Prop} {M : Mo} {sf : List (List UInt8)} {x : List Value} {A : Option Addr} {l c : Nat} {es : List En} (h : Fi W g b7 N k S M sf x A l c es w) {i : Int} (hi : hasB M.safe.length i = true) (hs : Stepped w g S (M.read i).1 w') : ∃ S', Fi W g b7 N (k + 1) S' (M.read i).1 sf x A l c es w' := by
  obtain ⟨S', hd, hm, hg⟩ := hs
  have hr := h.plain.read i
  rw [if_pos hi] at hr
  have e1 : (M.read i).1 = { M with fa := passed M.fa, ops := M.ops + 1 } := by rw [hr]
  have ho := h.ops
  have hlt := h.ew
  refine ⟨S', h.live.step hd hm hg, ?_, ?_, ?_, ?_, h.ew.mv hm fun y hy => h.off y hy, fun y hy hS => ?_, h.x.mv hm h.nb, fun hS => ?_⟩
  · rw [e1]
    exact ⟨h.plain.dead, h.plain.fu, by show (passed M.fa).1 = false; rw [passed_off h.plain.fa]; exact h.plain.fa⟩
  · rw [e1]; exact h.safe
  · rw [e1]; exact h.wt
  · rw [e1]; show M.ops + 1 ≤ 100 + ((k + 1 : Nat) : Int); omega
  · rcases hg _ hS with hq | hq
    · exact h.off y hy hq
    · have := hlt.lt hy; omega
  · rcases hg _ hS with hq | hq
    · exact h.nb hq
    · have := h.x.lt; omega
theorem neq_same {l : List UInt8} (hl : l.length = 64) (w : World) : (binOp .neq 37 (.agg (bvs l).toArray) (.agg (bvs l).toArray)).run Try.prog w = .ok (.bool false) w := by
  rw [run_neq_blocks _ _ hl hl]; simp
end Go.Proofs.Ytionbjocfepkaaa
