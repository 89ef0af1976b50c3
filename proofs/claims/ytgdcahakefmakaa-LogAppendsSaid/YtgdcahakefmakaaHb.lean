/-
  LOGS, THE DOCUMENT'S ANSWER: the same entries, the same logs; the last place.
-/
import Derived.Test.YtgdcahakefmakaaHa
import Derived.IntWalk
namespace Go.Proofs.Ytgdcahakefmakaa
set_option linter.unusedVariables false
set_option linter.unusedSimpArgs false
open Go.RowKit Go.WideShapes Go.ChangeShapes Go.Deep Go.Shelf
attribute [local irreducible] wpQuiet

set_option maxRecDepth 100000 in
set_option maxHeartbeats 8000000 in
theorem refSameE_any {w : World} {A A' : Option Addr} {n c n' c' : Nat} {l l' : List En} (h : SqE w w.heap.size A n c l) (hn : n ≤ 1000) (h' : SqE w w.heap.size A' n' c' l') (hn' : n' ≤ 1000) :
    Calls Try.prog 15 #[.slice A n c, .slice A' n' c'] w fun e w' => e = .returned (.bool (sameEs (vsE l) (vsE l'))) ∧ Below w.heap.size w w' := by
  have hl := h.len
  have hl' := h'.len
  obtain ⟨r, hr⟩ : ∃ r, sameEs (vsE l) (vsE l') = r := ⟨_, rfl⟩
  have HR := Lib.hid hr
  rw [hr]
  have HS := Lib.hid h
  have HS' := Lib.hid h'
  by_cases hnn : n = n'
  · subst hnn
    have dnn : ((n : Int) != (n : Int)) = false := by simp
    clear h h' hr
    go_enter Try.func15, Try.ntmps15
    go_wp2_with fail
    go_loopw [13] (fun i wr => ∃ k : Nat, k ≤ n ∧ i = .int .i64 (k : Int) ∧ Hid (Below w.heap.size w wr) ∧ Hid (∀ j (h1 : j < (vsE l).length) (h2 : j < (vsE l').length), j < k → sameE (vsE l)[j] (vsE l')[j] = true)) (fun i _ => n - (intOf i).toNat)
    case atStart => exact ⟨0, Nat.zero_le _, rfl, Lib.hid (Below.refl _ _), Lib.hid (fun j _ _ hj => absurd hj (by omega))⟩
    case round =>
      obtain ⟨k, hk, rfl, hb, hsm⟩ := hrel
      have hk0 : (0 : Int) ≤ (k : Int) := Int.natCast_nonneg _
      by_cases hlt : k < n
      · have hd : decide ((k : Int) < (n : Int)) = true := by simp; omega
        have hk1 : (k : Int) < (n : Int) := by omega
        have T := HS.out.next (Nat.le_refl _) hb.out
        have T' := HS'.out.next (Nat.le_refl _) hb.out
        obtain ⟨b, o, rfl, hbl, hrg⟩ := T.s.at_ hlt
        obtain ⟨b', o', rfl, hbl', hrg'⟩ := T'.s.at_ hlt
        have hkl : k < l.length := by omega
        have hkl' : k < l'.length := by omega
        have hxd := (T.e _ (List.getElem_mem hkl)).d
        have hyd := (T'.e _ (List.getElem_mem hkl')).d
        obtain ⟨x, hx⟩ : ∃ x, l[k] = x := ⟨_, rfl⟩
        obtain ⟨y, hy⟩ : ∃ y, l'[k] = y := ⟨_, rfl⟩
        rw [hx] at hrg hxd
        rw [hy] at hrg' hyd
        have HXV := Lib.hid (show ∀ (h1 : k < (vsE l).length), (vsE l)[k] = x.v from fun h1 => by rw [← hx]; simp [vsE])
        have HYV := Lib.hid (show ∀ (h1 : k < (vsE l').length), (vsE l')[k] = y.v from fun h1 => by rw [← hy]; simp [vsE])
        have HKL := Lib.hid (show k < (vsE l).length ∧ k < (vsE l').length by rw [vsE_len, vsE_len]; exact ⟨hkl, hkl'⟩)
        have r0 : wr.cell? ⟨b, o + k * 3, none⟩ = some (.int .u64 (x.t : Int)) := by have := hrg 0 _ rfl; simpa using this
        have r1 : wr.cell? ⟨b, o + k * 3 + 1, none⟩ = some (.int .i64 x.k) := by have := hrg 1 _ rfl; simpa using this
        have r2 : wr.cell? ⟨b, o + k * 3 + 2, none⟩ = some (.slice x.D.a x.D.n x.D.c) := by have := hrg 2 _ rfl; simpa using this
        have s0 : wr.cell? ⟨b', o' + k * 3, none⟩ = some (.int .u64 (y.t : Int)) := by have := hrg' 0 _ rfl; simpa using this
        have s1 : wr.cell? ⟨b', o' + k * 3 + 1, none⟩ = some (.int .i64 y.k) := by have := hrg' 1 _ rfl; simpa using this
        have s2 : wr.cell? ⟨b', o' + k * 3 + 2, none⟩ = some (.slice y.D.a y.D.n y.D.c) := by have := hrg' 2 _ rfl; simpa using this
        have k1 := hxd.str 42 9 5 Try.underlying42 Try.underlying5 Try.underlying9
        have k2 := hyd.str 42 9 5 Try.underlying42 Try.underlying5 Try.underlying9
        have k3 := (hxd.below (Below.refl wr.heap.size wr).drew).str 42 9 5 Try.underlying42 Try.underlying5 Try.underlying9
        have k4 := (hyd.below (Below.refl wr.heap.size wr).drew).str 42 9 5 Try.underlying42 Try.underlying5 Try.underlying9
        have k5 := fun n => (hxd.below (below_drewN (Below.refl wr.heap.size wr) n)).str 42 9 5 Try.underlying42 Try.underlying5 Try.underlying9
        have k6 := fun n => (hyd.below (below_drewN (Below.refl wr.heap.size wr) n)).str 42 9 5 Try.underlying42 Try.underlying5 Try.underlying9
        obtain ⟨q1, h1⟩ : ∃ q, (x.t == y.t) = q := ⟨_, rfl⟩
        obtain ⟨q2, h2⟩ : ∃ q, (x.k == y.k) = q := ⟨_, rfl⟩
        obtain ⟨q3, h3⟩ : ∃ q, (x.d == y.d) = q := ⟨_, rfl⟩
        have e0 : sameE x.v y.v = (q1 && (q2 && q3)) := by rw [← h1, ← h2, ← h3]; rfl
        have HE := Lib.hid e0
        have dq1 : ((x.t : Int) != (y.t : Int)) = !q1 := by
          rw [← h1, bne, beqN]
        have dq2 : (x.k != y.k) = !q2 := by rw [← h2]; rfl
        have dq3 : (x.d != y.d) = !q3 := by rw [← h3]; rfl
        have dp1 : ((x.t : Int) == (y.t : Int)) = q1 := by rw [← h1, beqN]
        have dp2 : (x.k == y.k) = q2 := h2
        have dp3 : (x.d == y.d) = q3 := h3
        clear T T' hrg hrg' hxd hyd hx hy hbl hbl' h1 h2 h3 e0
        have bad : (q1 && (q2 && q3)) = false → r = false := fun e => by
          rw [← HR.out]
          exact sameEs_diff HKL.out.1 HKL.out.2 (by rw [HXV.out, HYV.out, HE.out]; exact e)
        have HBAD := Lib.hid bad
        clear bad
        cases q1
        · obtain rfl := HBAD.out rfl
          simp only [Bool.not_false] at dq1
          clear dq2 dq3 dp2 dp3
          go_upto_region 6 with fail
          go_quiet (fail)
          go_wp2_with fail
          go_ret
          exact ⟨rfl, below_drewN hb.out _⟩
        cases q2
        · obtain rfl := HBAD.out rfl
          simp only [Bool.not_false, Bool.not_true] at dq1 dq2
          clear dq3 dp3
          go_upto_region 6 with fail
          go_quiet (fail)
          go_wp2_with fail
          go_ret
          exact ⟨rfl, below_drewN hb.out _⟩
        cases q3
        · obtain rfl := HBAD.out rfl
          simp only [Bool.not_false, Bool.not_true] at dq1 dq2 dq3
          go_upto_region 6 with fail
          go_quiet (fail)
          go_wp2_with fail
          go_ret
          exact ⟨rfl, below_drewN hb.out _⟩
        · simp only [Bool.not_true] at dq1 dq2 dq3
          go_upto_region 6 with fail
          go_quiet (fail)
          go_wp2_with fail
          go_roundw
          case rel => exact ⟨k + 1, by omega, by go_num, Lib.hid (below_drewN hb.out _), Lib.hid (fun j h1 h2 hj => by
            by_cases e : j = k
            · subst e
              rw [HXV.out, HYV.out]
              exact HE.out
            · exact hsm.out j h1 h2 (by omega))⟩
          case measure => simp [intOf]; omega
      · have hd : decide ((k : Int) < (n : Int)) = false := by simp; omega
        obtain rfl : r = true := by
          rw [← HR.out]
          exact sameEs_all (by rw [vsE_len, vsE_len, hl, hl']) fun j h1 h2 => hsm.out j h1 h2 (by rw [vsE_len] at h1; omega)
        go_wp2_with fail
        go_ret
        exact ⟨rfl, hb.out⟩
  · have dnn : ((n : Int) != (n' : Int)) = true := by simp; omega
    obtain rfl : r = false := by rw [← HR.out]; exact sameEs_len (by rw [vsE_len, vsE_len, hl, hl']; exact hnn)
    clear h h' hr hnn
    go_enter Try.func15, Try.ntmps15
    go_wp2_with fail
    go_ret
    exact ⟨rfl, Below.refl _ _⟩
set_option maxRecDepth 100000 in
set_option maxHeartbeats 8000000 in
theorem refSame_any {w : World} {A A' : Option Addr} {n c n' c' : Nat} {l l' : List En} (h : SqE w w.heap.size A n c l) (hn : n ≤ 1000) (h' : SqE w w.heap.size A' n' c' l') (hn' : n' ≤ 1000) (i t i' t' : Nat) :
    Calls Try.prog 14 #[lgV i t A n c, lgV i' t' A' n' c'] w fun e w' => e = .returned (.bool (sameG ⟨i, t, vsE l⟩ ⟨i', t', vsE l'⟩)) ∧ Below w.heap.size w w' := by
  obtain ⟨w1, hw1⟩ : ∃ w1, ((w.alloc (.cells #[.int .u64 (i : Int), .int .u64 (t : Int), .slice A n c] 27)).alloc (.cells #[.int .u64 (i' : Int), .int .u64 (t' : Int), .slice A' n' c'] 27)) = w1 := ⟨_, rfl⟩
  have L0 : Bl w1 (w.heap.size) 27 [.int .u64 (i : Int), .int .u64 (t : Int), .slice A n c] := by
    rw [← hw1]
    have h := Bl.new w 27 [.int .u64 (i : Int), .int .u64 (t : Int), .slice A n c]
    (try simp only [World.size_alloc] at h)
    exact (h.alloc _)
  have L1 : Bl w1 (w.heap.size + 1) 27 [.int .u64 (i' : Int), .int .u64 (t' : Int), .slice A' n' c'] := by
    rw [← hw1]
    have h := Bl.new (w.alloc (.cells #[.int .u64 (i : Int), .int .u64 (t : Int), .slice A n c] 27)) 27 [.int .u64 (i' : Int), .int .u64 (t' : Int), .slice A' n' c']
    (try simp only [World.size_alloc] at h)
    exact h
  have B1 : Below w.heap.size w w1 := by
    rw [← hw1]
    exact (((Below.refl _ _).alloc (by simp <;> omega) _).alloc (by simp <;> omega) _)
  have Z1 : w1.heap.size = w.heap.size + 2 := by rw [← hw1]; simp
  have c0 := L0.cell 0
  have c1 := L0.cell 1
  have c2 := L0.cell 2
  have d0 := L1.cell 0
  have d1 := L1.cell 1
  have d2 := L1.cell 2
  simp only [List.getElem?_cons_zero, List.getElem?_cons_succ] at c0 c1 c2 d0 d1 d2
  have HW := Lib.hid hw1
  have HB1 := Lib.hid B1
  have CE := Lib.hid (refSameE_any (h.next (Nat.le_refl _) B1) hn (h'.next (Nat.le_refl _) B1) hn')
  have heq := fun w => eq_at (i : Int) (t : Int) (i' : Int) (t' : Int) w
  rw [beqN, beqN] at heq
  obtain ⟨q1, h1⟩ : ∃ q, (i == i' && t == t') = q := ⟨_, rfl⟩
  rw [h1] at heq
  have e0 : sameG ⟨i, t, vsE l⟩ ⟨i', t', vsE l'⟩ = (q1 && sameEs (vsE l) (vsE l')) := by rw [← h1]; rfl
  rw [e0]
  clear hw1 L0 L1 B1 Z1 h h' h1 e0
  cases q1
  · go_enter Try.func14, Try.ntmps14
    go_upto_region 1 with fail
    rw [HW.out]
    go_wp2_with fail
    go_ret
    exact ⟨rfl, HB1.out⟩
  go_enter Try.func14, Try.ntmps14
  go_upto_region 1 with fail
  rw [HW.out]
  go_wp2_with (first | (go_at_call 15; refine CE.out.mono ?_; rintro e w2 ⟨rfl, hb2⟩; have HB2 := Lib.hid (HB1.out.trans (hb2.mono HB1.out.size)); clear hb2) | fail)
  go_ret
  exact ⟨by simp, HB2.out⟩
set_option maxRecDepth 100000 in
set_option maxHeartbeats 8000000 in
theorem refPlace_any {w : World} {A : Option Addr} {n c : Nat} {l : List En} (hs : SqE w w.heap.size A n c l) (hn : n ≤ 1000) (i t k : Nat) (hk : k ≤ n) (hik : i + k < 18446744073709551616) :
    Calls Try.prog 47 #[lgV i t A n c, .int .i64 (k : Int)] w fun e w' => e = .returned (atV (i + k) (lastT t ((vsE l).take k))) ∧ Below w.heap.size w w' := by
  obtain ⟨w1, hw1⟩ : ∃ w1, ((w.alloc (.cells #[.int .u64 (i : Int), .int .u64 (t : Int), .slice A n c] 27)).alloc (.cells #[.int .u64 0, .int .u64 0] 24)) = w1 := ⟨_, rfl⟩
  have L0 : Bl w1 (w.heap.size) 27 [.int .u64 (i : Int), .int .u64 (t : Int), .slice A n c] := by
    rw [← hw1]
    have h := Bl.new w 27 [.int .u64 (i : Int), .int .u64 (t : Int), .slice A n c]
    (try simp only [World.size_alloc] at h)
    exact (h.alloc _)
  have L1 : Bl w1 (w.heap.size + 1) 24 [.int .u64 0, .int .u64 0] := by
    rw [← hw1]
    have h := Bl.new (w.alloc (.cells #[.int .u64 (i : Int), .int .u64 (t : Int), .slice A n c] 27)) 24 [.int .u64 0, .int .u64 0]
    (try simp only [World.size_alloc] at h)
    exact h
  have B1 : Below w.heap.size w w1 := by
    rw [← hw1]
    exact (((Below.refl _ _).alloc (by simp <;> omega) _).alloc (by simp <;> omega) _)
  have Z1 : w1.heap.size = w.heap.size + 2 := by rw [← hw1]; simp
  have HW := Lib.hid hw1
  have HB1 := Lib.hid B1
  have hlen := hs.len
  have c0 := L0.cell 0
  have c1 := L0.cell 1
  have c2 := L0.cell 2
  have d0 := L1.cell 0
  have d1 := L1.cell 1
  have f0 := L1.frozen 0
  have f1 := L1.frozen 1
  simp only [List.getElem?_cons_zero, List.getElem?_cons_succ] at c0 c1 c2 d0 d1
  have HL1 := Lib.hid L1
  rcases Nat.eq_zero_or_pos k with h0 | h0
  · subst h0
    have e0 : lastT t ((vsE l).take 0) = t := by rw [List.take_zero]; rfl
    rw [e0]
    clear hw1 L0 L1 B1 Z1 hs e0 hik
    go_enter Try.func47, Try.ntmps47
    go_upto_region 1 with fail
    rw [HW.out]
    go_wp2_with fail
    have R := res2 HL1.out HB1.out (Nat.le_succ _) i t
    refine bodyPost_ret (results_at rfl _ _ _ i t rfl R.1) rfl ⟨rfl, R.2⟩
  · have hkl : k - 1 < l.length := by omega
    obtain ⟨b, o, rfl, hbl, hrg0⟩ := hs.s.at_ (i := k - 1) (by omega)
    have hrg := rangeAt_keep hrg0 (B1.block b hbl)
    have hn0 : w.heap.size ≠ w.heap.size + 1 := by omega
    have hnb : b ≠ w.heap.size + 1 := by omega
    obtain ⟨u, hu⟩ : ∃ u, lastT t ((vsE l).take k) = u := ⟨_, rfl⟩
    have hxu : (l[k - 1]).t = u := by
      have hv : k - 1 < (vsE l).length := by rw [vsE_len]; exact hkl
      have := lastT_take (f := t) hv
      rw [show k - 1 + 1 = k by omega, hu] at this
      rw [this]
      simp [vsE]
      rfl
    obtain ⟨j, hj⟩ : ∃ j, k - 1 = j := ⟨_, rfl⟩
    obtain ⟨s, hsk⟩ : ∃ s, i + k = s := ⟨_, rfl⟩
    rw [hu, hsk]
    have r0 : w1.cell? ⟨b, o + j * 3, none⟩ = some (.int .u64 (u : Int)) := by
      have := hrg 0 _ rfl
      rw [hxu, hj] at this
      simpa using this
    have hwj2 : IntKind.i64.wrap ((k : Int) - 1) = (j : Int) := by rw [IntWalk.i64_in _ (by omega)]; omega
    have hws : IntKind.u64.wrap ((i : Int) + (k : Int)) = (s : Int) := by show ((i : Int) + (k : Int)) % 18446744073709551616 = _; omega
    have hwk : IntKind.u64.wrap (k : Int) = (k : Int) := by show (k : Int) % 18446744073709551616 = _; omega
    have hj0 : (0 : Int) ≤ (j : Int) := Int.natCast_nonneg _
    have hj1 : (j : Int) < (n : Int) := by omega
    have dk : ((k : Int) == 0) = false := by simp; omega
    clear hw1 L0 L1 B1 Z1 hs hbl hrg hrg0 hu hxu hkl hsk hik hj
    go_enter Try.func47, Try.ntmps47
    go_upto_region 1 with fail
    rw [HW.out]
    go_upto_region 3 with fail
    go_region_held3 (fun w' => w'.cell? ⟨w.heap.size, 0, none⟩ = some (.int .u64 (i : Int)) ∧ w'.cell? ⟨w.heap.size, 2, none⟩ = some (.slice (some ⟨b, o, none⟩) n c) ∧ w'.cell? ⟨b, o + j * 3, none⟩ = some (.int .u64 (u : Int)))
      (first | exact ⟨c0, c2, r0⟩ | exact ⟨cell_far (cell_far c0 hn0) hn0, cell_far (cell_far c2 hn0) hn0, cell_far (cell_far r0 hnb) hnb⟩ | fail)
      (fail)
    all_goals (
      (try go_wp2_with fail)
      have R := res2 HL1.out HB1.out (Nat.le_succ _) s u
      refine bodyPost_ret (results_at rfl _ _ _ s u rfl ?_) rfl ⟨rfl, ?_⟩
      · exact R.1
      · first | exact R.2 | exact R.2.drew | exact below_drewN R.2 _)
end Go.Proofs.Ytgdcahakefmakaa
