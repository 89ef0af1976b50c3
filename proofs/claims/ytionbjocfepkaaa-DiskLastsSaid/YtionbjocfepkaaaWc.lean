/-
  CONTRACTS: slices.Equal on numbers; happens, whole.
-/
import Derived.Test.YtionbjocfepkaaaEq
namespace Go.Proofs.Ytionbjocfepkaaa
set_option linter.unusedVariables false
open Go.RowKit Go.WideShapes Go.ChangeShapes

def ints (l : List Int) : List Value := l.map (Value.int .i64)
theorem ints_len (l : List Int) : (ints l).length = l.length := by simp [ints]
theorem ints_at {l : List Int} {i : Nat} (h : i < l.length) : (ints l)[i]'(by rw [ints_len]; exact h) = .int .i64 l[i] := by simp [ints]

set_option maxRecDepth 100000 in
theorem equal_any {w : World} {B B' : Nat} {A A' : Option Addr} {n c n' c' : Nat} {l l' : List Int} (hs : SlV w B A n c (ints l)) (hs' : SlV w B' A' n' c' (ints l')) :
    Calls Try.prog 23 #[.slice A n c, .slice A' n' c'] w fun e w' => e = .returned (.bool (l == l')) ∧ ∃ m, w' = w.drewN m := by
  have hl : l.length = n := by have := hs.len; rwa [ints_len] at this
  have hl' : l'.length = n' := by have := hs'.len; rwa [ints_len] at this
  have hmx := hs.max
  have hcp := hs.cap
  unfold maxLen at hmx
  by_cases hnn : n = n'
  · subst hnn
    have hd : ((n : Int) != (n : Int)) = false := by simp
    have HL := Lib.hid hl
    have HL' := Lib.hid hl'
    have HS := Lib.hid hs
    have HS' := Lib.hid hs'
    clear hl hl' hs hs'
    go_enter Try.func23, Try.ntmps23
    go_wp2
    go_loopw [13] (fun i wr => ∃ k : Nat, k ≤ n ∧ i = .int .i64 (k : Int) ∧ Hid (l.take k = l'.take k) ∧ ∃ m, wr = w.drewN m) (fun i _ => n - (intOf i).toNat)
    case atStart => exact ⟨0, Nat.zero_le _, rfl, Lib.hid rfl, 0, rfl⟩
    case round =>
      obtain ⟨k, hk, rfl, htk, m, rfl⟩ := hrel
      by_cases hlt : k < n
      · have hdk : decide ((k : Int) < (n : Int)) = true := by simp; omega
        have hk0 : (0 : Int) ≤ (k : Int) := Int.natCast_nonneg _
        have hk1 : (k : Int) < (n : Int) := by omega
        obtain ⟨b1, o1, hA1, _, hc1⟩ := HS.out.pos (by omega)
        obtain ⟨b2, o2, hA2, _, hc2⟩ := HS'.out.pos (by omega)
        have g1 := hc1 k (by rw [ints_len, HL.out]; exact hlt)
        have g2 := hc2 k (by rw [ints_len, HL'.out]; exact hlt)
        rw [ints_at (by rw [HL.out]; exact hlt)] at g1
        rw [ints_at (by rw [HL'.out]; exact hlt)] at g2
        obtain ⟨x, hx⟩ : ∃ x, l[k]'(by rw [HL.out]; exact hlt) = x := ⟨_, rfl⟩
        obtain ⟨y, hy⟩ : ∃ y, l'[k]'(by rw [HL'.out]; exact hlt) = y := ⟨_, rfl⟩
        rw [hx] at g1
        rw [hy] at g2
        have HX := Lib.hid hx
        have HY := Lib.hid hy
        subst hA1
        subst hA2
        clear hc1 hc2 hx hy
        have q1 : (w.drewN m).cell? ⟨b1, o1 + k, none⟩ = some (.int .i64 x) := g1
        have q2 : (w.drewN m).cell? ⟨b2, o2 + k, none⟩ = some (.int .i64 y) := g2
        cases hxy : x == y
        · have hxy' : (x != y) = true := by simpa using hxy
          go_wp2
          go_quiet (fail)
          go_wp2
          go_ret
          refine ⟨?_, m + nq, World.drewN_drewN _ _ _⟩
          have : (l == l') = false := by
            rw [beq_eq_false_iff_ne]
            intro e
            subst e
            have := HX.out.symm.trans HY.out
            simp [this] at hxy
          rw [this]
          rfl
        · have hxy' : (x != y) = false := by simpa using hxy
          have hxe : x = y := by simpa using hxy
          have HXE := Lib.hid hxe
          clear hxe
          go_wp2
          go_quiet (fail)
          go_wp2
          go_roundw
          case rel =>
            refine ⟨k + 1, by omega, by go_num, Lib.hid ?_, _, rfl⟩
            rw [List.take_succ_eq_append_getElem (by rw [HL.out]; exact hlt), List.take_succ_eq_append_getElem (by rw [HL'.out]; exact hlt), htk.out, HX.out, HY.out, HXE.out]
          case measure => simp [intOf]; omega
      · have hdk : decide ((k : Int) < (n : Int)) = false := by simp; omega
        have hkn : k = n := by omega
        have HK := Lib.hid hkn
        clear hkn
        go_wp2
        go_ret
        refine ⟨?_, m, rfl⟩
        have h1 := htk.out
        rw [HK.out, List.take_of_length_le (by rw [HL.out]; exact Nat.le_refl _), List.take_of_length_le (by rw [HL'.out]; exact Nat.le_refl _)] at h1
        rw [h1]
        simp
  · have hd : ((n : Int) != (n' : Int)) = true := by simp; omega
    have HF : Hid ((l == l') = false) := Lib.hid (by
      rw [beq_eq_false_iff_ne]
      rintro rfl
      exact hnn (hl.symm.trans hl'))
    clear hl hl' hs hs' hnn
    go_enter Try.func23, Try.ntmps23
    go_wp2
    go_ret
    exact ⟨by rw [HF.out]; rfl, 0, rfl⟩

theorem whichI_cases (k : Int) : whichI k = 0 ∨ whichI k = 1 ∨ whichI k = 2 ∨ whichI k = 3 ∨ whichI k = 4 ∨ whichI k = 5 ∨ whichI k = 6 := by unfold whichI; omega
/-- An act happens to a disk. -/
theorem happens_dk {w : World} {g : Nat} {S : Nat → Prop} {M : Mo} {B : Nat} (kind n : Int) (b : UInt8) {A : Option Addr} {l c : Nat} {ks : List Bool} (hs : SlV w B A l c (bls ks)) (hB : B ≤ w.heap.size) (h : Dk w g S M) (hops : M.ops ≤ 1000000000) (hwt : M.wt.length ≤ 1000000000)
    (hn : -9223372036854775808 ≤ n ∧ n ≤ 9223372036854775807) :
    Calls Try.prog 9 #[rp g, actV kind n b A l c] w fun e w' => e = .returned (.tuple #[.agg (bvs (M.act kind n b ks).2.1).toArray, .int .i64 (M.act kind n b ks).2.2]) ∧ Stepped w g S (M.act kind n b ks).1 w' := by
  rcases whichI_cases kind with e | e | e | e | e | e | e
  · have ha : M.act kind n b ks = M.read n := by unfold Mo.act; rw [if_pos e]
    rw [ha]
    exact happens_0 kind n b hs hB h hops hwt e
  · have ha : M.act kind n b ks = ((M.write n (actB b)).1, Zb, (M.write n (actB b)).2) := by unfold Mo.act; rw [if_neg (by omega), if_pos (by omega)]
    rw [ha]
    exact happens_1 kind n b hs hB h hops hwt e
  · have ha : M.act kind n b ks = ((M.write n (actB b)).1, Zb, (M.write n (actB b)).2) := by unfold Mo.act; rw [if_neg (by omega), if_pos (by omega)]
    rw [ha]
    exact happens_2 kind n b hs hB h hops hwt e
  · have ha : M.act kind n b ks = (M.sync.1, Zb, M.sync.2) := by unfold Mo.act; rw [if_neg (by omega), if_neg (by omega), if_pos e]
    rw [ha]
    exact happens_3 kind n b hs hB h hops hwt e
  · have ha : M.act kind n b ks = ((M.arm n).1, Zb, (M.arm n).2) := by unfold Mo.act; rw [if_neg (by omega), if_neg (by omega), if_neg (by omega), if_pos e]
    rw [ha]
    exact happens_4 kind n b hs hB h hops hwt hn e
  · have ha : M.act kind n b ks = ((M.fail n).1, Zb, (M.fail n).2) := by unfold Mo.act; rw [if_neg (by omega), if_neg (by omega), if_neg (by omega), if_neg (by omega), if_pos e]
    rw [ha]
    exact happens_5 kind n b hs hB h hops hwt hn e
  · have ha : M.act kind n b ks = (M.crash (lvB (ks.take 200)), Zb, 0) := by unfold Mo.act; rw [if_neg (by omega), if_neg (by omega), if_neg (by omega), if_neg (by omega), if_neg (by omega)]
    rw [ha]
    exact happens_6 kind n b hs hB h hops hwt e
theorem happens_nil {w : World} {B : Nat} (kind n : Int) (b : UInt8) {A : Option Addr} {l c : Nat} {ks : List Bool} (hs : SlV w B A l c (bls ks)) (hB : B ≤ w.heap.size) :
    Calls Try.prog 9 #[.pointer none, actV kind n b A l c] w fun e w' => e = .returned (.tuple #[.agg (bvs Zb).toArray, .int .i64 1]) ∧ Below w.heap.size w w' := by
  rcases whichI_cases kind with e | e | e | e | e | e | e
  · exact happens_0n kind n b hs hB e
  · exact happens_1n kind n b hs hB e
  · exact happens_2n kind n b hs hB e
  · exact happens_3n kind n b hs hB e
  · exact happens_4n kind n b hs hB e
  · exact happens_5n kind n b hs hB e
  · exact happens_6n kind n b hs hB e
end Go.Proofs.Ytionbjocfepkaaa
