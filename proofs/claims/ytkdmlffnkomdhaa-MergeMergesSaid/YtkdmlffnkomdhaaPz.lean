/-
  PATHMAP: whether two maps are the same; STAGE 5's STATEMENTS: whether a map is more than is gone through.
-/
import Derived.Test.YtkdmlffnkomdhaaPf
import Derived.Test.YtkdmlffnkomdhaaPe
import Derived.Laws.StructEq
import Derived.Deep.Cut
namespace Go.Proofs.Ytkdmlffnkomdhaa
set_option linter.unusedVariables false
set_option linter.unusedSimpArgs false
open Go.RowKit Go.WideShapes Go.ChangeShapes Go.Deep
attribute [local irreducible] wpQuiet

def sameRw (a b : Rw) : Bool := a.p.toList == b.p.toList && a.t.toList == b.t.toList
open Classical in
/-- Whether two maps have the same rows. -/
noncomputable def sameL (l l' : List Rw) : Bool := decide (l.length = l'.length ∧ ∀ j (hj : j < l.length) (hj' : j < l'.length), sameRw l[j] l'[j] = true)
theorem sameL_yes {l l' : List Rw} (h : l.length = l'.length) (k : ∀ j (hj : j < l.length) (hj' : j < l'.length), sameRw l[j] l'[j] = true) : sameL l l' = true := decide_eq_true ⟨h, k⟩
theorem sameL_no {l l' : List Rw} (h : ¬ (l.length = l'.length ∧ ∀ j (hj : j < l.length) (hj' : j < l'.length), sameRw l[j] l'[j] = true)) : sameL l l' = false := decide_eq_false h
theorem row_flat : Try.prog.stoodInHeld 70 = false := by kernel_rfl
theorem row_guard : Try.prog.eqGuardType Try.prog.depth 70 = false := by kernel_rfl
theorem row_fields : Try.prog.underlying 70 = some (.struct (Try.prog.fieldsOf 70)) := by kernel_rfl
theorem eq_rows (d : Nat) (a b : Rw) (w : World) : (Op.equalIn (d + 2) 70 (rwV a) (rwV b)).run Try.prog w = .ok (sameRw a b) w := by
  rw [run_equalIn_agg w (d + 1) 70 _ _ row_fields row_flat]
  have hs := Try.underlying9
  unfold sameRw
  simp only [Program.fieldsOf, Try.underlying70]
  cases h1 : a.p.toList == b.p.toList <;> cases h2 : a.t.toList == b.t.toList <;> simp [Op.eqFields, part, isAgg, Sem.run_bind, run_underlying hs, run_equalIn_string, hs, h1, h2]
theorem neq_rows (a b : Rw) (w : World) : (binOp .neq 70 (rwV a) (rwV b)).run Try.prog w = .ok (.bool (!sameRw a b)) w := by
  rw [run_neq_struct, eq_rows]
  rfl
theorem eql_rows (a b : Rw) (w : World) : (binOp .eql 70 (rwV a) (rwV b)).run Try.prog w = .ok (.bool (sameRw a b)) w := by
  rw [run_eql_struct, eq_rows]
  rfl
set_option maxRecDepth 100000 in
set_option maxHeartbeats 2000000 in
theorem equal_rows {w : World} {A : Option Addr} {n c : Nat} {l : List Rw} (h : SqR w w.heap.size A n c l) {A' : Option Addr} {n' c' : Nat} {l' : List Rw} (h' : SqR w w.heap.size A' n' c' l') (hn : n ≤ 1000000) :
    Calls Try.prog 51 #[.slice A n c, .slice A' n' c'] w fun e w' => e = .returned (.bool (sameL l l')) ∧ Below w.heap.size w w' := by
  have HS := Lib.hid h
  have HS' := Lib.hid h'
  have hl := h.len
  have hl' := h'.len
  clear h h'
  obtain ⟨sq, hsq⟩ : ∃ sq, sameL l l' = sq := ⟨_, rfl⟩
  have HSQ := Lib.hid hsq
  rw [hsq]
  clear hsq
  go_enter Try.func51, Try.ntmps51
  by_cases hnn : n = n'
  · subst hnn
    have dn : ((n : Int) == (n : Int)) = true := by simp
    go_wp2
    go_loopw [13] (fun i wr => ∃ k : Nat, k ≤ n ∧ i = .int .i64 (k : Int) ∧ Hid (∀ j (hk : j < k) (hj : j < l.length) (hj' : j < l'.length), sameRw l[j] l'[j] = true) ∧ Hid (Below w.heap.size w wr)) (fun i _ => n - (intOf i).toNat)
    case atStart => exact ⟨0, Nat.zero_le _, rfl, Lib.hid (fun j hj => absurd hj (by omega)), Lib.hid (Below.refl _ _)⟩
    case round =>
      obtain ⟨k, hk, rfl, hg, hb⟩ := hrel
      by_cases hlt : k < n
      · have hd : decide ((k : Int) < (n : Int)) = true := by simp; omega
        have hk0 : (0 : Int) ≤ (k : Int) := Int.natCast_nonneg _
        have hk1 : (k : Int) < (n : Int) := by omega
        obtain ⟨b, o, rfl, hbl, hrg⟩ := (HS.out.below hb.out).at_ hlt
        obtain ⟨b', o', rfl, hbl', hrg'⟩ := (HS'.out.below hb.out).at_ (show k < n by omega)
        obtain ⟨r, hr⟩ : ∃ r, l[k]'(by omega) = r := ⟨_, rfl⟩
        obtain ⟨r', hr'⟩ : ∃ r', l'[k]'(by omega) = r' := ⟨_, rfl⟩
        rw [hr] at hrg
        rw [hr'] at hrg'
        have r0 : wr.cell? ⟨b, o + k * 2, none⟩ = some (.string r.p) := hrg 0 _ rfl
        have r1 : wr.cell? ⟨b, o + k * 2 + 1, none⟩ = some (.string r.t) := hrg 1 _ rfl
        have s0 : wr.cell? ⟨b', o' + k * 2, none⟩ = some (.string r'.p) := hrg' 0 _ rfl
        have s1 : wr.cell? ⟨b', o' + k * 2 + 1, none⟩ = some (.string r'.t) := hrg' 1 _ rfl
        have hne := fun w => neq_rows r r' w
        have hgd := row_guard
        obtain ⟨q, hq⟩ : ∃ q, sameRw r r' = q := ⟨_, rfl⟩
        rw [hq] at hne
        clear hrg hrg'
        have YES : Hid (q = true → ∀ j (hk : j < k + 1) (hj : j < l.length) (hj' : j < l'.length), sameRw l[j] l'[j] = true) := Lib.hid (fun h1 j hjk hj hj' => by
          by_cases e : j = k
          · subst e; rw [hr, hr', hq]; exact h1
          · exact hg.out j (by omega) hj hj')
        have NO : Hid (q = false → ¬ ∀ j (hj : j < l.length) (hj' : j < l'.length), sameRw l[j] l'[j] = true) := Lib.hid (fun h1 h2 => by
          have := h2 k (by omega) (by omega)
          rw [hr, hr', hq, h1] at this
          cases this)
        clear hr hr' hq
        cases q
        · go_wp2
          go_quiet (fail)
          go_wp2
          go_ret
          exact ⟨by rw [← HSQ.out, sameL_no (fun h => NO.out (by first | rfl | trivial) h.2)]; rfl, below_drewN hb.out _⟩
        · go_wp2
          go_quiet (fail)
          go_wp2
          go_roundw
          case rel => exact ⟨k + 1, by omega, by go_num, Lib.hid (YES.out (by first | rfl | trivial)), Lib.hid (below_drewN hb.out _)⟩
          case measure => simp [intOf]; omega
      · have hd : decide ((k : Int) < (n : Int)) = false := by simp; omega
        obtain rfl : k = n := by omega
        go_wp2
        go_ret
        exact ⟨by rw [← HSQ.out, sameL_yes (by omega) (fun j hj hj' => hg.out j (by omega) hj hj')]; rfl, hb.out⟩
  · have dn : ((n : Int) == (n' : Int)) = false := by simp; omega
    go_wp2
    go_ret
    exact ⟨by rw [← HSQ.out, sameL_no (fun h => hnn (by omega))]; rfl, Below.refl _ _⟩
set_option maxHeartbeats 1600000 in
theorem same_any {w : World} {A : Option Addr} {n c : Nat} {l : List Rw} (h : SqR w w.heap.size A n c l) {A' : Option Addr} {n' c' : Nat} {l' : List Rw} (h' : SqR w w.heap.size A' n' c' l') (hn : n ≤ 1000000) :
    Calls Try.prog 29 #[.agg #[.slice A n c], .agg #[.slice A' n' c']] w fun e w' => e = .returned (.bool (sameL l l')) ∧ Below w.heap.size w w' := by
  obtain ⟨w2, hw2⟩ : ∃ w2, (w.alloc (.cells #[.slice A n c] 24)).alloc (.cells #[.slice A' n' c'] 24) = w2 := ⟨_, rfl⟩
  have B2 : Hid (Below w.heap.size w w2) := Lib.hid (by rw [← hw2]; exact ((Below.refl _ _).alloc (Nat.le_refl _) _).alloc (by simp) _)
  have X0 : Hid (Lies w2 w.heap.size 1 [.slice A n c]) := Lib.hid (by rw [← hw2]; exact (Lies.new w [.slice A n c] 24).alloc _)
  have X1 : Hid (Lies w2 (w.heap.size + 1) 1 [.slice A' n' c']) := Lib.hid (by
    rw [← hw2]
    have := Lies.new (w.alloc (.cells #[.slice A n c] 24)) [.slice A' n' c'] 24
    rwa [World.size_alloc] at this)
  have HE := Lib.hid (equal_rows ((h.below B2.out).more B2.out.size) ((h'.below B2.out).more B2.out.size) hn)
  have HW := Lib.hid hw2
  clear hw2 h h'
  go_enter Try.func29, Try.ntmps29
  go_upto_region 1 with fail
  rw [HW.out]
  clear HW
  have q0 := X0.out.cell (j := 0) rfl
  have q1 := X1.out.cell (j := 0) rfl
  go_wp2_with fail
  refine HE.out.mono ?_
  rintro e w3 ⟨rfl, hb⟩
  have HB := Lib.hid hb
  clear hb
  go_wp2_with fail
  go_ret
  exact ⟨rfl, B2.out.trans (HB.out.mono B2.out.size)⟩
end Go.Proofs.Ytkdmlffnkomdhaa
