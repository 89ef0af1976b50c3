/-
  CONTRACTS OF PACKAGE octet, FOUR: which bytes are the same; and what the document's own answers (confluenceref01) come to.
-/
import Derived.Test.YtokaihdoddonkaaOct3
import Derived.Laws.IdiomStrings
import Derived.Laws.BytesArg
import Derived.Lib.Strings
namespace Go.Proofs.Ytokaihdoddonkaa
set_option linter.unusedVariables false
open Go.RowKit Go.WideShapes Go.ChangeShapes

theorem SlB.str {P : Program} {w : World} {B n c : Nat} {A : Option Addr} {l : List UInt8} (h : SlB w B A n c l) (src dst e : TypeId) (hs : P.underlying src = some (.slice e)) (he : P.underlying e = some (.int .u8)) (hd : P.underlying dst = some .string) :
    (convert src dst (.slice A n c)).run P w = .ok (.string ⟨l.toArray⟩) w := by
  obtain rfl : l.length = n := h.len
  by_cases h0 : l.length = 0
  · obtain rfl : l = [] := List.eq_nil_of_length_eq_zero h0
    rcases A with _ | ad
    · exact run_convert_bytes_nil w src e hs he _ c dst hd
    · exact run_convert_bytes_back w src dst e ad c [] hs he hd (fun j hj => absurd hj (by simp))
  · obtain ⟨b, o, rfl, hb, hc⟩ := h.pos (by omega)
    refine run_convert_bytes_back w src dst e _ c l hs he hd (fun j hj => ?_)
    rw [addr_add]
    exact hc j hj

theorem bytesEqual_any {A A' : Option Addr} {n c n' c' : Nat} {l l' : List UInt8} {w : World} {B B' : Nat} (h : SlB w B A n c l) (h' : SlB w B' A' n' c' l') :
    Calls Try.prog 32 #[.slice A n c, .slice A' n' c'] w fun e w' => e = .returned (.bool (l == l')) ∧ w = w' := by
  have k1 := h.str 22 9 5 Try.underlying22 Try.underlying5 Try.underlying9
  have k2 := h'.str 22 9 5 Try.underlying22 Try.underlying5 Try.underlying9
  clear h h'
  go_enter Try.func32, Try.ntmps32
  go_wp2
  go_ret
  exact ⟨rfl, rfl⟩
theorem equal_any {A A' : Option Addr} {n c n' c' : Nat} {l l' : List UInt8} {w : World} {B B' : Nat} (h : SlB w B A n c l) (h' : SlB w B' A' n' c' l') :
    Calls Try.prog 18 #[.slice A n c, .slice A' n' c'] w fun e w' => e = .returned (.bool (l == l')) ∧ w = w' := by
  go_enter Try.func18, Try.ntmps18
  go_wp2_with (go_at_call 32; refine (bytesEqual_any h h').mono ?_; rintro x w' ⟨rfl, rfl⟩)
  go_ret
  exact ⟨rfl, rfl⟩
def zeros (l : List UInt8) : Bool := l.all fun b => b == 0
theorem zeros_snoc (l : List UInt8) (b : UInt8) : zeros (l ++ [b]) = (zeros l && (b == 0)) := by simp [zeros]
theorem zero_any {A : Option Addr} {n c : Nat} {l : List UInt8} {w : World} {B : Nat} (h : SlB w B A n c l) :
    Calls Try.prog 19 #[.slice A n c] w fun e w' => e = .returned (.bool (zeros l)) ∧ w = w' := by
  have hlen := Lib.hid h.len
  have hm := h.le
  unfold maxLen at hm
  go_enter Try.func19, Try.ntmps19
  go_wp2
  go_loop [7] (fun i => ∃ q : Nat, q ≤ n ∧ i = .int .i64 q ∧ Hid (zeros (l.take q) = true)) (fun i => n - (intOf i).toNat)
  case atStart => exact ⟨0, Nat.zero_le _, rfl, rfl⟩
  case round =>
    obtain ⟨q, hq, rfl, hz⟩ := hrel
    by_cases hlt : q < n
    · have hqr : q < l.length := by rw [hlen.out]; exact hlt
      obtain ⟨b, o, rfl, hbb, hc⟩ := h.pos (by omega)
      have hcq := hc q hqr
      unfold bv at hcq
      clear hc
      by_cases h0 : l[q] = 0
      · have hb0 : ((l[q].toNat : Int) != 0) = false := by rw [h0]; rfl
        have HN : Hid (zeros (l.take (q + 1)) = true) := by rw [take_at l q hqr, zeros_snoc, hz.out, h0]; exact rfl
        clear h0
        go_wp2
        go_round
        case rel => exact ⟨q + 1, by omega, by go_num, HN⟩
        case measure => simp [intOf]; omega
      · have hb0 : ((l[q].toNat : Int) != 0) = true := by
          rw [bne_iff_ne]
          intro e
          exact h0 (UInt8.toNat_inj.1 (by simpa using e))
        have HN : Hid (zeros l = false) := by
          have h1 : zeros l = false := by
            rw [Bool.eq_false_iff]
            intro hh
            have := List.all_eq_true.1 hh l[q] (List.getElem_mem hqr)
            exact h0 (by simpa using this)
          exact h1
        clear h0
        go_wp2
        go_ret
        rw [HN.out]
        exact ⟨rfl, rfl⟩
    · obtain rfl : q = n := by omega
      have HR : Hid (zeros l = true) := by
        have hr : l.take q = l := List.take_of_length_le (by rw [hlen.out]; omega)
        rw [← hr]; exact hz
      go_wp2
      go_ret
      rw [HR.out]
      exact ⟨rfl, rfl⟩

/-! ### the document's own answers -/
theorem snoc_beq (a : List UInt8) (x y : UInt8) : ((x.toNat : Int) == (y.toNat : Int)) = (a ++ [x] == a ++ [y]) := by
  rw [Bool.eq_iff_iff]
  simp only [beq_iff_eq, List.append_cancel_left_eq, List.cons.injEq, and_true]
  exact ⟨fun h => UInt8.toNat_inj.1 (by omega), fun h => by rw [h]⟩
theorem same_any {A A' : Option Addr} {n c n' c' : Nat} {l l' : List UInt8} {w : World} {B B' : Nat} (h : SlB w B A n c l) (h' : SlB w B' A' n' c' l') :
    Calls Try.prog 15 #[.slice A n c, .slice A' n' c'] w fun e w' => e = .returned (.bool (l == l')) ∧ ∃ k, w' = w.drewN k := by
  have hlen := Lib.hid h.len
  have hlen' := Lib.hid h'.len
  have hm := h.le
  have hm' := h'.le
  unfold maxLen at hm hm'
  by_cases he : n = n'
  · subst he
    go_enter Try.func15, Try.ntmps15
    go_wp2
    go_loopw [5, 6] (fun s i wr => ∃ (b : Bool) (q k : Nat), q ≤ n ∧ i = .int .i64 q ∧ s = .bool b ∧ Hid (b = (l.take q == l'.take q)) ∧ wr = w.drewN k) (fun _ i _ => n - (intOf i).toNat)
    case atStart => exact ⟨true, 0, 0, Nat.zero_le _, rfl, rfl, by simp [Hid], rfl⟩
    case round =>
      obtain ⟨b, q, k, hq, rfl, rfl, hb, rfl⟩ := hrel
      cases b
      · have HL : Hid ((l == l') = false) := by
          have h1 : (l == l') = false := by
            have h2 := hb.out
            simp only [beq_eq_false_iff_ne]
            rintro rfl
            simp at h2
          exact h1
        go_wp2
        go_ret
        rw [HL.out]
        exact ⟨rfl, k, rfl⟩
      · by_cases hlt : q < n
        · have hqr : q < l.length := by rw [hlen.out]; exact hlt
          have hqr' : q < l'.length := by rw [hlen'.out]; exact hlt
          obtain ⟨x, o, rfl, hbb, hc⟩ := h.pos (by omega)
          obtain ⟨x', o', rfl, hbb', hc'⟩ := h'.pos (by omega)
          have hcq := hc q hqr
          have hcq' := hc' q hqr'
          unfold bv at hcq hcq'
          clear hc hc'
          have HN : Hid (((l[q].toNat : Int) == (l'[q].toNat : Int)) = (l.take (q + 1) == l'.take (q + 1))) := by
            have h2 := hb.out
            have h3 : l.take q = l'.take q := by simpa using h2.symm
            have h1 : ((l[q].toNat : Int) == (l'[q].toNat : Int)) = (l.take (q + 1) == l'.take (q + 1)) := by
              rw [take_at l q hqr, take_at l' q hqr', h3]
              exact snoc_beq _ _ _
            exact h1
          go_wp2
          go_quiet (fail)
          go_wp2
          go_roundw
          case rel => exact ⟨_, q + 1, k + nq, by omega, by go_num, rfl, HN, rfl⟩
          case measure => simp [intOf]; omega
        · obtain rfl : q = n := by omega
          have HR : Hid ((l == l') = true) := by
            have h2 := hb.out
            rw [List.take_of_length_le (by rw [hlen.out]; omega), List.take_of_length_le (by rw [hlen'.out]; omega)] at h2
            exact h2.symm
          go_wp2
          go_ret
          rw [HR.out]
          exact ⟨rfl, k, rfl⟩
  · have hb : ((n : Int) == (n' : Int)) = false := by simp; omega
    have HL : Hid ((l == l') = false) := by
      have h1 : (l == l') = false := by
        simp only [beq_eq_false_iff_ne]
        rintro rfl
        exact he (hlen.out.symm.trans hlen'.out)
      exact h1
    clear he
    go_enter Try.func15, Try.ntmps15
    go_wp2
    refine wp_loop_rounds 1 ?_
    rw [rounds_succ]
    go_wp2
    go_ret
    rw [HL.out]
    exact ⟨rfl, 0, rfl⟩

theorem noughts_any {A : Option Addr} {n c : Nat} {l : List UInt8} {w : World} {B : Nat} (h : SlB w B A n c l) (hB : B ≤ w.heap.size) (hn : n ≤ 140737488355320) :
    Calls Try.prog 20 #[.slice A n c] w fun e w' => e = .returned (.bool (zeros l)) ∧ Below w.heap.size w w' := by
  have hlen := Lib.hid h.len
  have hmk := make_bytes n (n : Int) rfl (by omega)
  go_enter Try.func20, Try.ntmps20
  go_wp2_with fail
  have h1 : Below w.heap.size w (w.alloc (.cells (bvs (List.replicate n 0)).toArray 5)) := (Below.refl _ _).alloc (Nat.le_refl _) _
  have h2 := Bl.sl (l := List.replicate n 0) (B := w.heap.size + 1) (Bl.new w 5 (bvs (List.replicate n 0))) (Nat.lt_succ_self _) (by rw [List.length_replicate]; exact h.le)
  rw [List.length_replicate] at h2
  refine (same_any (h.below (h1.mono hB)) h2).mono ?_
  rintro x w' ⟨rfl, k, rfl⟩
  go_wp2_with fail
  go_ret
  refine ⟨?_, below_drewN h1 k⟩
  show Ending.returned (.bool (l == List.replicate n 0)) = _
  congr 2
  rw [Bool.eq_iff_iff, beq_iff_eq, zeros, List.all_eq_true, List.eq_replicate_iff]
  simp [hlen.out]

theorem off_any (t e n : Int) (w : World) : Calls Try.prog 22 #[.int .i64 t, .int .i64 e, .int .i64 n] w fun x w' =>
    x = .returned (.tuple #[.int .i64 (if e = 0 ∧ 0 ≤ n ∧ n ≤ t then n else 0), .int .i64 (if e = 0 then (if n < 0 then 1 else if n ≤ t then 0 else 2) else e)]) ∧ w = w' := by
  by_cases he : e = 0
  · subst he
    by_cases h1 : n < 0
    · rw [if_neg (by omega), if_pos rfl, if_pos h1]
      go_enter Try.func22, Try.ntmps22
      go_wp2
      go_ret2
      exact ⟨rfl, rfl⟩
    · by_cases h2 : n ≤ t
      · rw [if_pos (by omega), if_pos rfl, if_neg h1, if_pos h2]
        go_enter Try.func22, Try.ntmps22
        go_wp2
        go_ret2
        exact ⟨rfl, rfl⟩
      · rw [if_neg (by omega), if_pos rfl, if_neg h1, if_neg h2]
        go_enter Try.func22, Try.ntmps22
        go_wp2
        go_ret2
        exact ⟨rfl, rfl⟩
  · rw [if_neg (by omega), if_neg he]
    have hb : (e != 0) = true := by simpa using he
    go_enter Try.func22, Try.ntmps22
    go_wp2
    go_ret2
    exact ⟨rfl, rfl⟩

/-! ### the same, the answer under a name of its own -/
theorem equal_is {A A' : Option Addr} {n c n' c' : Nat} {l l' : List UInt8} {w : World} {B B' : Nat} (h : SlB w B A n c l) (h' : SlB w B' A' n' c' l') (s : Bool) (hs : (l == l') = s) :
    Calls Try.prog 18 #[.slice A n c, .slice A' n' c'] w fun e w' => e = .returned (.bool s) ∧ w = w' := by subst hs; exact equal_any h h'
theorem bytesEqual_is {A A' : Option Addr} {n c n' c' : Nat} {l l' : List UInt8} {w : World} {B B' : Nat} (h : SlB w B A n c l) (h' : SlB w B' A' n' c' l') (s : Bool) (hs : (l == l') = s) :
    Calls Try.prog 32 #[.slice A n c, .slice A' n' c'] w fun e w' => e = .returned (.bool s) ∧ w = w' := by subst hs; exact bytesEqual_any h h'
theorem same_is {A A' : Option Addr} {n c n' c' : Nat} {l l' : List UInt8} {w : World} {B B' : Nat} (h : SlB w B A n c l) (h' : SlB w B' A' n' c' l') (s : Bool) (hs : (l == l') = s) :
    Calls Try.prog 15 #[.slice A n c, .slice A' n' c'] w fun e w' => e = .returned (.bool s) ∧ ∃ k, w' = w.drewN k := by subst hs; exact same_any h h'
theorem zero_is {A : Option Addr} {n c : Nat} {l : List UInt8} {w : World} {B : Nat} (h : SlB w B A n c l) (s : Bool) (hs : zeros l = s) :
    Calls Try.prog 19 #[.slice A n c] w fun e w' => e = .returned (.bool s) ∧ w = w' := by subst hs; exact zero_any h
theorem noughts_is {A : Option Addr} {n c : Nat} {l : List UInt8} {w : World} {B : Nat} (h : SlB w B A n c l) (hB : B ≤ w.heap.size) (hn : n ≤ 140737488355320) (s : Bool) (hs : zeros l = s) :
    Calls Try.prog 20 #[.slice A n c] w fun e w' => e = .returned (.bool s) ∧ Below w.heap.size w w' := by subst hs; exact noughts_any h hB hn

end Go.Proofs.Ytokaihdoddonkaa
