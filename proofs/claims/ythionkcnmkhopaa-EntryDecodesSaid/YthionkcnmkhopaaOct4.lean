/-
  CONTRACTS OF PACKAGE octet, FOUR: which bytes are the same; and what the document's own answers (confluenceref01) come to.
-/
import Derived.Test.YthionkcnmkhopaaOct3
import Derived.Laws.IdiomStrings
import Derived.Laws.BytesArg
import Derived.Lib.Strings
namespace Go.Proofs.Ythionkcnmkhopaa
set_option linter.unusedVariables false
open Go.RowKit Go.WideShapes Go.ChangeShapes

theorem SlB.str {P : Program} {w : World} {B n c : Nat} {A : Option Addr} {l : List UInt8} (h : SlB w B A n c l) (src dst e : TypeId) (hs : P.underlying src = some (.slice e)) (he : P.underlying e = some (.int .u8)) (hd : P.underlying dst = some .string) :
    (convert src dst (.slice A n c)).run P w = .ok (.string ⟨l.toArray⟩) w := by
  obtain rfl : l.length = n := h.len
  by_cases h0 : l.length = 0
  · obtain rfl : l = [] := List.eq_nil_of_length_eq_zero h0
    rcases A with _ | ad
    · exact run_convert_bytes_nil w src e hs he _ c dst hd
    · exact run_convert_bytes_back w src dst e ad c [] hs he hd (fun j hj => absurd hj (by simp))
  · obtain ⟨b, o, rfl, hb, hc⟩ := h.pos (by omega)
    refine run_convert_bytes_back w src dst e _ c l hs he hd (fun j hj => ?_)
    rw [addr_add]
    exact hc j hj

theorem bytesEqual_any {A A' : Option Addr} {n c n' c' : Nat} {l l' : List UInt8} {w : World} {B B' : Nat} (h : SlB w B A n c l) (h' : SlB w B' A' n' c' l') :
    Calls Try.prog 33 #[.slice A n c, .slice A' n' c'] w fun e w' => e = .returned (.bool (l == l')) ∧ w = w' := by
  have k1 := h.str 25 9 5 Try.underlying25 Try.underlying5 Try.underlying9
  have k2 := h'.str 25 9 5 Try.underlying25 Try.underlying5 Try.underlying9
  clear h h'
  go_enter Try.func33, Try.ntmps33
  go_wp2
  go_ret
  exact ⟨rfl, rfl⟩
theorem equal_any {A A' : Option Addr} {n c n' c' : Nat} {l l' : List UInt8} {w : World} {B B' : Nat} (h : SlB w B A n c l) (h' : SlB w B' A' n' c' l') :
    Calls Try.prog 17 #[.slice A n c, .slice A' n' c'] w fun e w' => e = .returned (.bool (l == l')) ∧ w = w' := by
  go_enter Try.func17, Try.ntmps17
  go_wp2_with (go_at_call 33; refine (bytesEqual_any h h').mono ?_; rintro x w' ⟨rfl, rfl⟩)
  go_ret
  exact ⟨rfl, rfl⟩
def zeros (l : List UInt8) : Bool := l.all fun b => b == 0
theorem zeros_snoc (l : List UInt8) (b : UInt8) : zeros (l ++ [b]) = (zeros l && (b == 0)) := by simp [zeros]
/-! ### the document's own answers -/
theorem snoc_beq (a : List UInt8) (x y : UInt8) : ((x.toNat : Int) == (y.toNat : Int)) = (a ++ [x] == a ++ [y]) := by
  rw [Bool.eq_iff_iff]
  simp only [beq_iff_eq, List.append_cancel_left_eq, List.cons.injEq, and_true]
  exact ⟨fun h => UInt8.toNat_inj.1 (by omega), fun h => by rw [h]⟩
theorem same_any {A A' : Option Addr} {n c n' c' : Nat} {l l' : List UInt8} {w : World} {B B' : Nat} (h : SlB w B A n c l) (h' : SlB w B' A' n' c' l') :
    Calls Try.prog 12 #[.slice A n c, .slice A' n' c'] w fun e w' => e = .returned (.bool (l == l')) ∧ ∃ k, w' = w.drewN k := by
  have hlen := Lib.hid h.len
  have hlen' := Lib.hid h'.len
  have hm := h.le
  have hm' := h'.le
  unfold maxLen at hm hm'
  by_cases he : n = n'
  · subst he
    go_enter Try.func12, Try.ntmps12
    go_wp2
    go_loopw [5, 6] (fun s i wr => ∃ (b : Bool) (q k : Nat), q ≤ n ∧ i = .int .i64 q ∧ s = .bool b ∧ Hid (b = (l.take q == l'.take q)) ∧ wr = w.drewN k) (fun _ i _ => n - (intOf i).toNat)
    case atStart => exact ⟨true, 0, 0, Nat.zero_le _, rfl, rfl, by simp [Hid], rfl⟩
    case round =>
      obtain ⟨b, q, k, hq, rfl, rfl, hb, rfl⟩ := hrel
      cases b
      · have HL : Hid ((l == l') = false) := by
          have h1 : (l == l') = false := by
            have h2 := hb.out
            simp only [beq_eq_false_iff_ne]
            rintro rfl
            simp at h2
          exact h1
        go_wp2
        go_ret
        rw [HL.out]
        exact ⟨rfl, k, rfl⟩
      · by_cases hlt : q < n
        · have hqr : q < l.length := by rw [hlen.out]; exact hlt
          have hqr' : q < l'.length := by rw [hlen'.out]; exact hlt
          obtain ⟨x, o, rfl, hbb, hc⟩ := h.pos (by omega)
          obtain ⟨x', o', rfl, hbb', hc'⟩ := h'.pos (by omega)
          have hcq := hc q hqr
          have hcq' := hc' q hqr'
          unfold bv at hcq hcq'
          clear hc hc'
          have HN : Hid (((l[q].toNat : Int) == (l'[q].toNat : Int)) = (l.take (q + 1) == l'.take (q + 1))) := by
            have h2 := hb.out
            have h3 : l.take q = l'.take q := by simpa using h2.symm
            have h1 : ((l[q].toNat : Int) == (l'[q].toNat : Int)) = (l.take (q + 1) == l'.take (q + 1)) := by
              rw [take_at l q hqr, take_at l' q hqr', h3]
              exact snoc_beq _ _ _
            exact h1
          go_wp2
          go_quiet (fail)
          go_wp2
          go_roundw
          case rel => exact ⟨_, q + 1, k + nq, by omega, by go_num, rfl, HN, rfl⟩
          case measure => simp [intOf]; omega
        · obtain rfl : q = n := by omega
          have HR : Hid ((l == l') = true) := by
            have h2 := hb.out
            rw [List.take_of_length_le (by rw [hlen.out]; omega), List.take_of_length_le (by rw [hlen'.out]; omega)] at h2
            exact h2.symm
          go_wp2
          go_ret
          rw [HR.out]
          exact ⟨rfl, k, rfl⟩
  · have hb : ((n : Int) == (n' : Int)) = false := by simp; omega
    have HL : Hid ((l == l') = false) := by
      have h1 : (l == l') = false := by
        simp only [beq_eq_false_iff_ne]
        rintro rfl
        exact he (hlen.out.symm.trans hlen'.out)
      exact h1
    clear he
    go_enter Try.func12, Try.ntmps12
    go_wp2
    refine wp_loop_rounds 1 ?_
    rw [rounds_succ]
    go_wp2
    go_ret
    rw [HL.out]
    exact ⟨rfl, 0, rfl⟩

/-! ### the same, the answer under a name of its own -/
theorem equal_is {A A' : Option Addr} {n c n' c' : Nat} {l l' : List UInt8} {w : World} {B B' : Nat} (h : SlB w B A n c l) (h' : SlB w B' A' n' c' l') (s : Bool) (hs : (l == l') = s) :
    Calls Try.prog 17 #[.slice A n c, .slice A' n' c'] w fun e w' => e = .returned (.bool s) ∧ w = w' := by subst hs; exact equal_any h h'
theorem bytesEqual_is {A A' : Option Addr} {n c n' c' : Nat} {l l' : List UInt8} {w : World} {B B' : Nat} (h : SlB w B A n c l) (h' : SlB w B' A' n' c' l') (s : Bool) (hs : (l == l') = s) :
    Calls Try.prog 33 #[.slice A n c, .slice A' n' c'] w fun e w' => e = .returned (.bool s) ∧ w = w' := by subst hs; exact bytesEqual_any h h'
theorem same_is {A A' : Option Addr} {n c n' c' : Nat} {l l' : List UInt8} {w : World} {B B' : Nat} (h : SlB w B A n c l) (h' : SlB w B' A' n' c' l') (s : Bool) (hs : (l == l') = s) :
    Calls Try.prog 12 #[.slice A n c, .slice A' n' c'] w fun e w' => e = .returned (.bool s) ∧ ∃ k, w' = w.drewN k := by subst hs; exact same_any h h'
end Go.Proofs.Ythionkcnmkhopaa
