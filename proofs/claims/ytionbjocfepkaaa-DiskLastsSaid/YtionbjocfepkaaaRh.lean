/-
  THE DOCUMENT'S OWN DISK: Crash, Sync, Write.
-/
import Derived.Test.YtionbjocfepkaaaRg
namespace Go.Proofs.Ytionbjocfepkaaa
set_option linter.unusedVariables false
set_option linter.unusedSimpArgs false
open Go.RowKit Go.WideShapes Go.ChangeShapes Go.Deep

/-- A disk boxed, and one that the result lies in. -/
structure Fr2 (w : World) (x y : List Value) (W : World) : Prop where
  x : Lies W w.heap.size 6 x
  y : Lies W (w.heap.size + 1) 6 y
  below : Below w.heap.size w W
  size : w.heap.size + 2 ≤ W.heap.size
abbrev rf0 : List Value := rfL 0 (.slice none 0 0) false 0 0 0
theorem Fr2.start (w : World) (n : Int) (V : Value) (dead : Bool) (fu fa done : Int) : Fr2 w (rfL n V dead fu fa done) rf0 (rbox2 w n V dead fu fa done) := by
  have b1 := boxR_below w n V dead fu fa done
  have z1 := boxR_size w n V dead fu fa done
  have b2 := boxR_below (boxR w n V dead fu fa done) 0 (.slice none 0 0) false 0 0 0
  have z2 := boxR_size (boxR w n V dead fu fa done) 0 (.slice none 0 0) false 0 0 0
  have l1 := Lies.new w (rfL n V dead fu fa done) 30
  have l2 := Lies.new (boxR w n V dead fu fa done) (rfL 0 (.slice none 0 0) false 0 0 0) 30
  have e1 : (boxR w n V dead fu fa done).heap.size = w.heap.size + 1 := z1
  have e2 : (rbox2 w n V dead fu fa done).heap.size = w.heap.size + 2 := by rw [z2, z1]
  rw [e1] at l2 b2
  exact ⟨Lies.below (B := w.heap.size + 1) l1 b2 (by omega), l2, b1.trans (b2.mono (by omega)), by omega⟩
section
variable {w W W' : World} {x y : List Value}
theorem Fr2.next (h : Fr2 w x y W) (hb : Below W.heap.size W W') : Fr2 w x y W' := by
  have hz := h.size
  exact ⟨h.x.below hb (by omega), h.y.below hb (by omega), h.below.trans (hb.mono (by omega)), by have := hb.size; omega⟩
theorem Fr2.fldx (h : Fr2 w x y W) {j : Nat} (hj : j < 6) (v : Value) : Fr2 w (x.set j v) y (W.setCell ⟨w.heap.size, j, none⟩ v) :=
  ⟨h.x.fld hj v, h.y.other (b' := w.heap.size) (by omega) j [v], h.below.setCell (Nat.le_refl _) v, by have := h.size; simpa [World.setCell] using this⟩
theorem Fr2.setx (h : Fr2 w x y W) {x' : List Value} (hx : x'.length = 6) : Fr2 w x' y (W.setCells w.heap.size 0 x') :=
  ⟨h.x.set_ hx, h.y.other (by omega) _ _, below_setCells h.below (by omega) _ _, by rw [(setCells_os _ _ _ _).2.2.2.1]; exact h.size⟩
theorem Fr2.sety (h : Fr2 w x y W) {y' : List Value} (hy : y'.length = 6) : Fr2 w x y' (W.setCells (w.heap.size + 1) 0 y') :=
  ⟨h.x.other (by omega) _ _, h.y.set_ hy, below_setCells h.below (by omega) _ _, by rw [(setCells_os _ _ _ _).2.2.2.1]; exact h.size⟩
end

theorem Ew.mv {w w' : World} {S : Nat → Prop} {A : Option Addr} {n c : Nat} {l : List En} (h : Ew w A n c l) (hm : Mv S w w') (hn : ∀ x, A = some x → ¬ S x.block) : Ew w' A n c l :=
  ⟨h.len, h.cap, h.max, h.fit, h.non, fun h0 => by
    obtain ⟨b, o, e, hlt, hc⟩ := h.pos h0
    exact ⟨b, o, e, Nat.lt_of_lt_of_le hlt hm.size, rangeAt_keep hc (hm.block b hlt (hn _ e))⟩, h.zc⟩

set_option maxRecDepth 100000 in
set_option maxHeartbeats 4000000 in
theorem crash_ref {w : World} {A : Option Addr} {l c : Nat} {es : List En} (h : Ew w A l c es) (hl : l ≤ 1000000) (s : Rs) (n : Int) {B : Nat} {KA : Option Addr} {kn kc : Nat} {ks : List Bool} (hk : SlV w B KA kn kc (bls ks)) (hB : B ≤ w.heap.size) :
    Calls Try.prog 31 #[s.val n (.slice A l c), .slice KA kn kc] w fun e w' => ∃ A' m c', e = .returned (rfV n (.slice A' m c') false (-1) (-1) s.done) ∧ Ew w' A' m c' (liveE (lvA false ks) es 0) ∧ (∀ x, A' = some x → w.heap.size ≤ x.block) ∧ Below w.heap.size w w' := by
  obtain ⟨dead, fu, fa, done⟩ := s
  have F0 := Lib.hid (Fr2.start w n (.slice A l c) dead fu fa done)
  have HLV := Lib.hid (live_any (w := rbox2 w n (.slice A l c) dead fu fa done) (h.below (boxR_below w n (.slice A l c) dead fu fa done) |>.below (boxR_below _ 0 (.slice none 0 0) false 0 0 0)) hl false (hk.below (F0.out.below.mono hB)) (Nat.le_trans hB F0.out.below.size))
  have HSZ := F0.out.size
  clear h hk
  go_enter Try.func31, Try.ntmps31
  go_wp2_with fail
  refine (HLV.out).mono ?_
  rintro e w1 ⟨A', m, c', rfl, hew, hA, hb1⟩
  have F1 := Lib.hid (F0.out.next hb1)
  have HEW := Lib.hid hew
  have HA := Lib.hid hA
  clear hb1 hew hA
  have c0 := F1.out.x.cell (j := 0) rfl
  have c1 := F1.out.x.cell (j := 1) rfl
  have c2 := F1.out.x.cell (j := 2) rfl
  have c3 := F1.out.x.cell (j := 3) rfl
  have c4 := F1.out.x.cell (j := 4) rfl
  have c5 := F1.out.x.cell (j := 5) rfl
  have f1 := F1.out.x.frozen (j := 1) (by omega)
  have f2 := F1.out.x.frozen (j := 2) (by omega)
  have f3 := F1.out.x.frozen (j := 3) (by omega)
  have f4 := F1.out.x.frozen (j := 4) (by omega)
  have F2 := Lib.hid (F1.out.fldx (j := 1) (by omega) (.slice A' m c'))
  have F3 := Lib.hid (F2.out.fldx (j := 2) (by omega) (.bool false))
  have F4 := Lib.hid (F3.out.fldx (j := 3) (by omega) (.int .i64 (-1)))
  have F5 : Hid (Fr2 w (rfL n (.slice A' m c') false (-1) (-1) done) rf0 _) := Lib.hid (F4.out.fldx (j := 4) (by omega) (.int .i64 (-1)))
  go_wp2_with (first
    | (with_reducible refine ld_ref rfl _ rfl w.heap.size n (.slice A' m c') false (-1) (-1) done rfl F5.out.x.rg ?_)
    | (with_reducible refine st_ref rfl _ _ rfl (w.heap.size + 1) n A' m c' false (-1) (-1) done rfl rfl F5.out.y.th ?_))
  have F6 := Lib.hid (F5.out.sety (y' := rfL n (.slice A' m c') false (-1) (-1) done) rfl)
  exact bodyPost_ret (results_cell_mid rfl _ _ (w.heap.size + 1) 0 (rfL n (.slice A' m c') false (-1) (-1) done) _ rfl F6.out.y.rg Try.underlying30 rfl ref_size) rfl ⟨A', m, c', rfl, HEW.out.mv (S := fun b => b = w.heap.size ∨ b = w.heap.size + 1) (((((Mv.refl _ _).set_ (.inl (.inl rfl)) _).set_ (.inl (.inl rfl)) _).set_ (.inl (.inl rfl)) _).set_ (.inl (.inl rfl)) _ |>.setCells (.inl (.inr rfl)) _ _) (fun x hx hS => by have h1 := HA.out x hx; have h2 := HSZ; rcases hS with hS | hS <;> omega), fun x hx => Nat.le_trans F0.out.below.size (HA.out x hx), F6.out.below⟩

set_option maxRecDepth 100000 in
set_option maxHeartbeats 4000000 in
theorem sync_ref {w : World} {A : Option Addr} {l c : Nat} {es : List En} (h : Ew w A l c es) (hl : l ≤ 1000000) {s : Rs} (hs : s.Ok) (hd : s.done ≤ 4611686018427387904) (n : Int) :
    Calls Try.prog 30 #[s.val n (.slice A l c)] w fun e w' => ∃ A' m c', e = .returned (.tuple #[(s.begin n 0 true).1.val n (.slice A' m c'), .int .i64 (s.begin n 0 true).2]) ∧ Ew w' A' m c' (if (s.begin n 0 true).2 = 0 then liveE (lvA true []) es 0 else es) ∧ (∀ x, A' = some x → A' = A ∨ w.heap.size ≤ x.block) ∧ Below w.heap.size w w' := by
  have hbg := fun w => begin_any hs hd n 0 true A l c w
  obtain ⟨s', hs'⟩ : ∃ s', (s.begin n 0 true).1 = s' := ⟨_, rfl⟩
  obtain ⟨er, her⟩ : ∃ er, (s.begin n 0 true).2 = er := ⟨_, rfl⟩
  rw [hs', her] at hbg
  rw [hs', her]
  obtain ⟨dead, fu, fa, done⟩ := s
  obtain ⟨dead', fu', fa', done'⟩ := s'
  have F0 := Lib.hid (Fr2.start w n (.slice A l c) dead fu fa done)
  have HBG := Lib.hid hbg
  have HEW := Lib.hid h
  have HSZ := F0.out.size
  clear hbg h hs hd hs' her
  by_cases he : er = 0
  · subst he
    rw [if_pos rfl]
    go_enter Try.func30, Try.ntmps30
    go_wp2_with fail
    refine (HBG.out _).mono ?_
    rintro e w1 ⟨rfl, hb1⟩
    have F1 := Lib.hid (F0.out.next hb1)
    have F2 := Lib.hid (F1.out.setx (x' := rfL n (.slice A l c) dead' fu' fa' done') rfl)
    clear hb1
    have c1 := F2.out.x.cell (j := 1) rfl
    go_wp2_with (with_reducible refine st_ref rfl _ _ rfl w.heap.size n A l c dead' fu' fa' done' rfl rfl F1.out.x.th ?_)
    have hzw : (w1.setCells w.heap.size 0 (rfL n (.slice A l c) dead' fu' fa' done')).heap.size = w1.heap.size := (setCells_os _ _ _ _).2.2.2.1
    have hz1 := F1.out.size
    refine (live_any (HEW.out.below F2.out.below) hl true (B := 0) (ks := []) SlV.nil_ (Nat.zero_le _)).mono ?_
    rintro e w2 ⟨A', m, c', rfl, hew, hA, hb2⟩
    have F3 := Lib.hid (F2.out.next hb2)
    have HEW2 := Lib.hid hew
    have HA := Lib.hid hA
    clear hb2 hew hA c1
    have c0 := F3.out.x.cell (j := 0) rfl
    have c1 := F3.out.x.cell (j := 1) rfl
    have c2 := F3.out.x.cell (j := 2) rfl
    have c3 := F3.out.x.cell (j := 3) rfl
    have c4 := F3.out.x.cell (j := 4) rfl
    have c5 := F3.out.x.cell (j := 5) rfl
    have f1 := F3.out.x.frozen (j := 1) (by omega)
    have F5 : Hid (Fr2 w (rfL n (.slice A' m c') dead' fu' fa' done') rf0 _) := Lib.hid (F3.out.fldx (j := 1) (by omega) (.slice A' m c'))
    go_wp2_with (first
      | (with_reducible refine ld_ref rfl _ rfl w.heap.size n (.slice A' m c') dead' fu' fa' done' rfl F5.out.x.rg ?_)
      | (with_reducible refine st_ref rfl _ _ rfl (w.heap.size + 1) n A' m c' dead' fu' fa' done' rfl rfl F5.out.y.th ?_))
    have F6 := Lib.hid (F5.out.sety (y' := rfL n (.slice A' m c') dead' fu' fa' done') rfl)
    exact bodyPost_ret (results_cell_tmp rfl _ _ (w.heap.size + 1) 0 (rfL n (.slice A' m c') dead' fu' fa' done') _ rfl F6.out.y.rg Try.underlying30 rfl ref_size) rfl ⟨A', m, c', rfl, HEW2.out.mv (S := fun b => b = w.heap.size ∨ b = w.heap.size + 1) ((Mv.refl _ _).set_ (.inl (.inl rfl)) _ |>.setCells (.inl (.inr rfl)) _ _) (fun x hx hS => by have h1 := HA.out x hx; rw [hzw] at h1; rcases hS with hS | hS <;> omega), fun x hx => .inr (by have h1 := HA.out x hx; rw [hzw] at h1; omega), F6.out.below⟩
  · have hq : (er == 0) = false := by simpa using he
    rw [if_neg he]
    go_enter Try.func30, Try.ntmps30
    go_wp2_with fail
    refine (HBG.out _).mono ?_
    rintro e w1 ⟨rfl, hb1⟩
    have F1 := Lib.hid (F0.out.next hb1)
    have F2 := Lib.hid (F1.out.setx (x' := rfL n (.slice A l c) dead' fu' fa' done') rfl)
    clear hb1
    go_wp2_with (first
      | (with_reducible refine ld_ref rfl _ rfl w.heap.size n (.slice A l c) dead fu fa done rfl F1.out.x.rg ?_)
      | (with_reducible refine ld_ref rfl _ rfl w.heap.size n (.slice A l c) dead' fu' fa' done' rfl F2.out.x.rg ?_)
      | (with_reducible refine st_ref rfl _ _ rfl w.heap.size n A l c dead' fu' fa' done' rfl rfl F1.out.x.th ?_)
      | (with_reducible refine st_ref rfl _ _ rfl (w.heap.size + 1) n A l c dead' fu' fa' done' rfl rfl F2.out.y.th ?_))
    have F6 := Lib.hid (F2.out.sety (y' := rfL n (.slice A l c) dead' fu' fa' done') rfl)
    exact bodyPost_ret (results_cell_tmp rfl _ _ (w.heap.size + 1) 0 (rfL n (.slice A l c) dead' fu' fa' done') _ rfl F6.out.y.rg Try.underlying30 rfl ref_size) rfl ⟨A, l, c, rfl, HEW.out.below F6.out.below, fun x hx => .inl rfl, F6.out.below⟩
end Go.Proofs.Ytionbjocfepkaaa
