/-
  PATHMAP: whether two edits are the same.
  STAGE 5's REFERENCE: whether two maps, and two edits, are the same.
-/
import Derived.Test.YtkdmlffnkomdhaaPz
import Derived.Laws.StructEq
import Derived.Deep.Cut
namespace Go.Proofs.Ytkdmlffnkomdhaa
set_option linter.unusedVariables false
set_option linter.unusedSimpArgs false
open Go.RowKit Go.WideShapes Go.ChangeShapes Go.Deep
attribute [local irreducible] wpQuiet

def sameCh (a b : Ch) : Bool := a.p.toList == b.p.toList && (a.is == b.is) && a.t.toList == b.t.toList
open Classical in
/-- Whether two maps have the same rows. -/
noncomputable def sameE (l l' : List Ch) : Bool := decide (l.length = l'.length ∧ ∀ j (hj : j < l.length) (hj' : j < l'.length), sameCh l[j] l'[j] = true)
theorem sameE_yes {l l' : List Ch} (h : l.length = l'.length) (k : ∀ j (hj : j < l.length) (hj' : j < l'.length), sameCh l[j] l'[j] = true) : sameE l l' = true := decide_eq_true ⟨h, k⟩
theorem sameE_no {l l' : List Ch} (h : ¬ (l.length = l'.length ∧ ∀ j (hj : j < l.length) (hj' : j < l'.length), sameCh l[j] l'[j] = true)) : sameE l l' = false := decide_eq_false h
theorem chg_flat : Try.prog.stoodInHeld 81 = false := by kernel_rfl
theorem chg_guard : Try.prog.eqGuardType Try.prog.depth 81 = false := by kernel_rfl
theorem chg_fields : Try.prog.underlying 81 = some (.struct (Try.prog.fieldsOf 81)) := by kernel_rfl
theorem eq_chgs (d : Nat) (a b : Ch) (w : World) : (Op.equalIn (d + 2) 81 (chV a) (chV b)).run Try.prog w = .ok (sameCh a b) w := by
  rw [run_equalIn_agg w (d + 1) 81 _ _ chg_fields chg_flat]
  have hs := Try.underlying9
  unfold sameCh
  simp only [Program.fieldsOf, Try.underlying81]
  have hb := Try.underlying4
  obtain ⟨ap, ai, at'⟩ := a
  obtain ⟨bp, bi, bt⟩ := b
  cases h1 : ap.toList == bp.toList <;> cases h2 : at'.toList == bt.toList <;> cases ai <;> cases bi <;> simp [Op.eqFields, part, isAgg, Sem.run_bind, run_underlying hs, run_underlying hb, run_equalIn_string, run_equalIn_bool, hs, hb, h1, h2]
theorem neq_chgs (a b : Ch) (w : World) : (binOp .neq 81 (chV a) (chV b)).run Try.prog w = .ok (.bool (!sameCh a b)) w := by
  rw [run_neq_struct, eq_chgs]
  rfl
theorem eql_chgs (a b : Ch) (w : World) : (binOp .eql 81 (chV a) (chV b)).run Try.prog w = .ok (.bool (sameCh a b)) w := by
  rw [run_eql_struct, eq_chgs]
  rfl
end Go.Proofs.Ytkdmlffnkomdhaa
namespace Go.Proofs.Ytkdmlffnkomdhaa
set_option linter.unusedVariables false
set_option linter.unusedSimpArgs false
open Go.RowKit Go.WideShapes Go.ChangeShapes Go.Deep
attribute [local irreducible] wpQuiet

set_option maxRecDepth 100000 in
set_option maxHeartbeats 2000000 in
theorem refSame_any {w : World} {A : Option Addr} {n c : Nat} {l : List Rw} (h : SqR w w.heap.size A n c l) {A' : Option Addr} {n' c' : Nat} {l' : List Rw} (h' : SqR w w.heap.size A' n' c' l') (hn : n ≤ 1000000) :
    Calls Try.prog 24 #[.agg #[.slice A n c], .agg #[.slice A' n' c']] w fun e w' => e = .returned (.bool (sameL l l')) ∧ Below w.heap.size w w' := by
  obtain ⟨w2, hw2⟩ : ∃ w2, (w.alloc (.cells #[.slice A n c] 24)).alloc (.cells #[.slice A' n' c'] 24) = w2 := ⟨_, rfl⟩
  have B2 : Hid (Below w.heap.size w w2) := Lib.hid (by rw [← hw2]; exact ((Below.refl _ _).alloc (Nat.le_refl _) _).alloc (by simp) _)
  have X0 : Hid (Lies w2 w.heap.size 1 [.slice A n c]) := Lib.hid (by rw [← hw2]; exact (Lies.new w [.slice A n c] 24).alloc _)
  have X1 : Hid (Lies w2 (w.heap.size + 1) 1 [.slice A' n' c']) := Lib.hid (by
    rw [← hw2]
    have := Lies.new (w.alloc (.cells #[.slice A n c] 24)) [.slice A' n' c'] 24
    rwa [World.size_alloc] at this)
  have HS := Lib.hid ((h.below B2.out).more B2.out.size)
  have HS' := Lib.hid ((h'.below B2.out).more B2.out.size)
  have hl := h.len
  have hl' := h'.len
  have HW := Lib.hid hw2
  clear hw2 h h'
  obtain ⟨sq, hsq⟩ : ∃ sq, sameL l l' = sq := ⟨_, rfl⟩
  have HSQ := Lib.hid hsq
  rw [hsq]
  clear hsq
  go_enter Try.func24, Try.ntmps24
  go_upto_region 1 with fail
  rw [HW.out]
  clear HW
  have q0 := X0.out.cell (j := 0) rfl
  have q1 := X1.out.cell (j := 0) rfl
  by_cases hnn : n = n'
  · subst hnn
    have dn : ((n : Int) == (n : Int)) = true := by simp
    go_wp2
    go_loopw [5] (fun i wr => ∃ k : Nat, k ≤ n ∧ i = .int .i64 (k : Int) ∧ Hid (∀ j (hk : j < k) (hj : j < l.length) (hj' : j < l'.length), sameRw l[j] l'[j] = true) ∧ Hid (Below w2.heap.size w2 wr)) (fun i _ => n - (intOf i).toNat)
    case atStart => exact ⟨0, Nat.zero_le _, rfl, Lib.hid (fun j hj => absurd hj (by omega)), Lib.hid (Below.refl _ _)⟩
    case round =>
      obtain ⟨k, hk, rfl, hg, hb⟩ := hrel
      have q0 := (X0.out.below hb.out X0.out.lt).cell (j := 0) rfl
      have q1 := (X1.out.below hb.out X1.out.lt).cell (j := 0) rfl
      by_cases hlt : k < n
      · have hd : decide ((k : Int) < (n : Int)) = true := by simp; omega
        have hk0 : (0 : Int) ≤ (k : Int) := Int.natCast_nonneg _
        have hk1 : (k : Int) < (n : Int) := by omega
        obtain ⟨b, o, rfl, hbl, hrg⟩ := (HS.out.below hb.out).at_ hlt
        obtain ⟨b', o', rfl, hbl', hrg'⟩ := (HS'.out.below hb.out).at_ (show k < n by omega)
        obtain ⟨r, hr⟩ : ∃ r, l[k]'(by omega) = r := ⟨_, rfl⟩
        obtain ⟨r', hr'⟩ : ∃ r', l'[k]'(by omega) = r' := ⟨_, rfl⟩
        rw [hr] at hrg
        rw [hr'] at hrg'
        have r0 : wr.cell? ⟨b, o + k * 2, none⟩ = some (.string r.p) := hrg 0 _ rfl
        have r1 : wr.cell? ⟨b, o + k * 2 + 1, none⟩ = some (.string r.t) := hrg 1 _ rfl
        have s0 : wr.cell? ⟨b', o' + k * 2, none⟩ = some (.string r'.p) := hrg' 0 _ rfl
        have s1 : wr.cell? ⟨b', o' + k * 2 + 1, none⟩ = some (.string r'.t) := hrg' 1 _ rfl
        have hne := fun w => neq_rows r r' w
        have hgd := row_guard
        obtain ⟨q, hq⟩ : ∃ q, sameRw r r' = q := ⟨_, rfl⟩
        rw [hq] at hne
        clear hrg hrg'
        have YES : Hid (q = true → ∀ j (hk : j < k + 1) (hj : j < l.length) (hj' : j < l'.length), sameRw l[j] l'[j] = true) := Lib.hid (fun h1 j hjk hj hj' => by
          by_cases e : j = k
          · subst e; rw [hr, hr', hq]; exact h1
          · exact hg.out j (by omega) hj hj')
        have NO : Hid (q = false → ¬ ∀ j (hj : j < l.length) (hj' : j < l'.length), sameRw l[j] l'[j] = true) := Lib.hid (fun h1 h2 => by
          have := h2 k (by omega) (by omega)
          rw [hr, hr', hq, h1] at this
          cases this)
        clear hr hr' hq
        cases q
        · go_wp2
          go_quiet (fail)
          go_wp2
          go_ret
          exact ⟨by rw [← HSQ.out, sameL_no (fun h => NO.out (by first | rfl | trivial) h.2)]; rfl, B2.out.trans ((below_drewN hb.out _).mono B2.out.size)⟩
        · go_wp2
          go_quiet (fail)
          go_wp2
          go_roundw
          case rel => exact ⟨k + 1, by omega, by go_num, Lib.hid (YES.out (by first | rfl | trivial)), Lib.hid (below_drewN hb.out _)⟩
          case measure => simp [intOf]; omega
      · have hd : decide ((k : Int) < (n : Int)) = false := by simp; omega
        obtain rfl : k = n := by omega
        go_wp2
        go_ret
        exact ⟨by rw [← HSQ.out, sameL_yes (by omega) (fun j hj hj' => hg.out j (by omega) hj hj')]; rfl, B2.out.trans (hb.out.mono B2.out.size)⟩
  · have dn : ((n : Int) == (n' : Int)) = false := by simp; omega
    go_wp2
    go_ret
    exact ⟨by rw [← HSQ.out, sameL_no (fun h => hnn (by omega))]; rfl, B2.out⟩

set_option maxRecDepth 100000 in
set_option maxHeartbeats 2000000 in
theorem refSameE_any {w : World} {A : Option Addr} {n c : Nat} {l : List Ch} (h : SqC w w.heap.size A n c l) {A' : Option Addr} {n' c' : Nat} {l' : List Ch} (h' : SqC w w.heap.size A' n' c' l') (hn : n ≤ 1000000) :
    Calls Try.prog 16 #[.agg #[.slice A n c], .agg #[.slice A' n' c']] w fun e w' => e = .returned (.bool (sameE l l')) ∧ Below w.heap.size w w' := by
  obtain ⟨w2, hw2⟩ : ∃ w2, (w.alloc (.cells #[.slice A n c] 36)).alloc (.cells #[.slice A' n' c'] 36) = w2 := ⟨_, rfl⟩
  have B2 : Hid (Below w.heap.size w w2) := Lib.hid (by rw [← hw2]; exact ((Below.refl _ _).alloc (Nat.le_refl _) _).alloc (by simp) _)
  have X0 : Hid (Lies w2 w.heap.size 1 [.slice A n c]) := Lib.hid (by rw [← hw2]; exact (Lies.new w [.slice A n c] 36).alloc _)
  have X1 : Hid (Lies w2 (w.heap.size + 1) 1 [.slice A' n' c']) := Lib.hid (by
    rw [← hw2]
    have := Lies.new (w.alloc (.cells #[.slice A n c] 36)) [.slice A' n' c'] 36
    rwa [World.size_alloc] at this)
  have HS := Lib.hid ((h.below B2.out).more B2.out.size)
  have HS' := Lib.hid ((h'.below B2.out).more B2.out.size)
  have hl := h.len
  have hl' := h'.len
  have HW := Lib.hid hw2
  clear hw2 h h'
  obtain ⟨sq, hsq⟩ : ∃ sq, sameE l l' = sq := ⟨_, rfl⟩
  have HSQ := Lib.hid hsq
  rw [hsq]
  clear hsq
  go_enter Try.func16, Try.ntmps16
  go_upto_region 1 with fail
  rw [HW.out]
  clear HW
  have q0 := X0.out.cell (j := 0) rfl
  have q1 := X1.out.cell (j := 0) rfl
  by_cases hnn : n = n'
  · subst hnn
    have dn : ((n : Int) == (n : Int)) = true := by simp
    go_wp2
    go_loopw [5] (fun i wr => ∃ k : Nat, k ≤ n ∧ i = .int .i64 (k : Int) ∧ Hid (∀ j (hk : j < k) (hj : j < l.length) (hj' : j < l'.length), sameCh l[j] l'[j] = true) ∧ Hid (Below w2.heap.size w2 wr)) (fun i _ => n - (intOf i).toNat)
    case atStart => exact ⟨0, Nat.zero_le _, rfl, Lib.hid (fun j hj => absurd hj (by omega)), Lib.hid (Below.refl _ _)⟩
    case round =>
      obtain ⟨k, hk, rfl, hg, hb⟩ := hrel
      have q0 := (X0.out.below hb.out X0.out.lt).cell (j := 0) rfl
      have q1 := (X1.out.below hb.out X1.out.lt).cell (j := 0) rfl
      by_cases hlt : k < n
      · have hd : decide ((k : Int) < (n : Int)) = true := by simp; omega
        have hk0 : (0 : Int) ≤ (k : Int) := Int.natCast_nonneg _
        have hk1 : (k : Int) < (n : Int) := by omega
        obtain ⟨b, o, rfl, hbl, hrg⟩ := (HS.out.below hb.out).at_ hlt
        obtain ⟨b', o', rfl, hbl', hrg'⟩ := (HS'.out.below hb.out).at_ (show k < n by omega)
        obtain ⟨r, hr⟩ : ∃ r, l[k]'(by omega) = r := ⟨_, rfl⟩
        obtain ⟨r', hr'⟩ : ∃ r', l'[k]'(by omega) = r' := ⟨_, rfl⟩
        rw [hr] at hrg
        rw [hr'] at hrg'
        have r0 : wr.cell? ⟨b, o + k * 3, none⟩ = some (.string r.p) := hrg 0 _ rfl
        have r1 : wr.cell? ⟨b, o + k * 3 + 1, none⟩ = some (.bool r.is) := hrg 1 _ rfl
        have r2 : wr.cell? ⟨b, o + k * 3 + 2, none⟩ = some (.string r.t) := hrg 2 _ rfl
        have s0 : wr.cell? ⟨b', o' + k * 3, none⟩ = some (.string r'.p) := hrg' 0 _ rfl
        have s1 : wr.cell? ⟨b', o' + k * 3 + 1, none⟩ = some (.bool r'.is) := hrg' 1 _ rfl
        have s2 : wr.cell? ⟨b', o' + k * 3 + 2, none⟩ = some (.string r'.t) := hrg' 2 _ rfl
        have hne := fun w => neq_chgs r r' w
        have hgd := chg_guard
        obtain ⟨q, hq⟩ : ∃ q, sameCh r r' = q := ⟨_, rfl⟩
        rw [hq] at hne
        clear hrg hrg'
        have YES : Hid (q = true → ∀ j (hk : j < k + 1) (hj : j < l.length) (hj' : j < l'.length), sameCh l[j] l'[j] = true) := Lib.hid (fun h1 j hjk hj hj' => by
          by_cases e : j = k
          · subst e; rw [hr, hr', hq]; exact h1
          · exact hg.out j (by omega) hj hj')
        have NO : Hid (q = false → ¬ ∀ j (hj : j < l.length) (hj' : j < l'.length), sameCh l[j] l'[j] = true) := Lib.hid (fun h1 h2 => by
          have := h2 k (by omega) (by omega)
          rw [hr, hr', hq, h1] at this
          cases this)
        clear hr hr' hq
        cases q
        · go_wp2
          go_quiet (fail)
          go_wp2
          go_ret
          exact ⟨by rw [← HSQ.out, sameE_no (fun h => NO.out (by first | rfl | trivial) h.2)]; rfl, B2.out.trans ((below_drewN hb.out _).mono B2.out.size)⟩
        · go_wp2
          go_quiet (fail)
          go_wp2
          go_roundw
          case rel => exact ⟨k + 1, by omega, by go_num, Lib.hid (YES.out (by first | rfl | trivial)), Lib.hid (below_drewN hb.out _)⟩
          case measure => simp [intOf]; omega
      · have hd : decide ((k : Int) < (n : Int)) = false := by simp; omega
        obtain rfl : k = n := by omega
        go_wp2
        go_ret
        exact ⟨by rw [← HSQ.out, sameE_yes (by omega) (fun j hj hj' => hg.out j (by omega) hj hj')]; rfl, B2.out.trans (hb.out.mono B2.out.size)⟩
  · have dn : ((n : Int) == (n' : Int)) = false := by simp; omega
    go_wp2
    go_ret
    exact ⟨by rw [← HSQ.out, sameE_no (fun h => hnn (by omega))]; rfl, B2.out⟩
end Go.Proofs.Ytkdmlffnkomdhaa
