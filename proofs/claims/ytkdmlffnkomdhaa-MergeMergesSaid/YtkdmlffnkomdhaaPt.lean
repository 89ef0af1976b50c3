/-
  STAGE 5's REFERENCE: Paths.
-/
import Derived.Test.YtkdmlffnkomdhaaWi
namespace Go.Proofs.Ytkdmlffnkomdhaa
set_option linter.unusedVariables false
set_option linter.unusedSimpArgs false
open Go.RowKit Go.WideShapes Go.ChangeShapes Go.Deep

theorem stepW_len (s : ByteArray) : ∀ (l : List ByteArray) (st : Bool × List ByteArray), (l.foldl (stepW s) st).2.length + (if st.1 then 1 else 0) = st.2.length + l.length + (if (l.foldl (stepW s) st).1 then 1 else 0)
  | [], (true, a) => by simp
  | [], (false, a) => by simp
  | x :: r, (true, a) => by
    have ih := stepW_len s r (true, a ++ [x])
    rw [List.foldl_cons, show stepW s (true, a) x = (true, a ++ [x]) from rfl, List.length_cons]
    simp only [List.length_append, List.length_singleton, if_true] at ih ⊢
    omega
  | x :: r, (false, a) => by
    rw [List.foldl_cons, List.length_cons]
    cases hlt : lt s x with
    | true =>
      have ih := stepW_len s r (true, a ++ [s] ++ [x])
      rw [show stepW s (false, a) x = (true, a ++ [s] ++ [x]) from by unfold stepW; rw [if_pos ⟨rfl, hlt⟩]]
      simp only [List.length_append, List.length_singleton, Bool.false_eq_true, if_false, if_true] at ih ⊢
      omega
    | false =>
      have ih := stepW_len s r (false, a ++ [x])
      rw [show stepW s (false, a) x = (false, a ++ [x]) from by unfold stepW; rw [if_neg (by rw [hlt]; simp)]]
      simp only [List.length_append, List.length_singleton, Bool.false_eq_true, if_false] at ih ⊢
      omega
theorem withW_len (l : List ByteArray) (s : ByteArray) : (withW l s).length ≤ l.length + 1 := by
  unfold withW
  have h := stepW_len s l (false, [])
  rw [show l.foldl (stepW s) (false, []) = stW s l from rfl] at h
  by_cases hx : l.any (fun x => x.toList == s.toList) = true
  · rw [if_pos hx]; omega
  · rw [if_neg hx]
    by_cases hq : (stW s l).1 = true
    · rw [if_pos hq] at h ⊢; simp at h; omega
    · rw [if_neg hq] at h ⊢; simp at h ⊢; omega
/-- The paths of rows, and others. -/
def pathsW {α : Type} (p : α → ByteArray) (l : List ByteArray) (m : List α) : List ByteArray := m.foldl (fun a r => withW a (p r)) l
theorem pathsW_take {α : Type} {p : α → ByteArray} {l : List ByteArray} {m : List α} {k : Nat} (hk : k < m.length) : pathsW p l (m.take (k + 1)) = withW (pathsW p l (m.take k)) (p m[k]) := by
  unfold pathsW
  rw [List.take_add_one, List.getElem?_eq_getElem hk, List.foldl_append]
  rfl
set_option maxRecDepth 100000 in
set_option maxHeartbeats 2000000 in
theorem refPaths_any {w : World} {A : Option Addr} {n c : Nat} {l : List ByteArray} (h : SqS w w.heap.size A n c l) (hn : n ≤ 10000) {A' : Option Addr} {n' c' : Nat} {m : List Rw} (h' : SqR w w.heap.size A' n' c' m) (hn' : n' ≤ 10000) :
    Calls Try.prog 48 #[.slice A n c, .agg #[.slice A' n' c']] w fun e w' => (∃ A2 n2 c2, e = .returned (.slice A2 n2 c2) ∧ n2 ≤ n + n' ∧ SqS w' w'.heap.size A2 n2 c2 (pathsW (·.p) l m)) ∧ Below w.heap.size w w' := by
  obtain ⟨w1, hw1⟩ : ∃ w1, w.alloc (.cells #[.slice A' n' c'] 24) = w1 := ⟨_, rfl⟩
  have B1 : Hid (Below w.heap.size w w1) := Lib.hid (by rw [← hw1]; exact (Below.refl _ _).alloc (Nat.le_refl _) _)
  have X0 : Hid (Lies w1 w.heap.size 1 [.slice A' n' c']) := Lib.hid (by rw [← hw1]; exact Lies.new w [.slice A' n' c'] 24)
  have HS := Lib.hid ((h'.below B1.out).more B1.out.size)
  have HL := Lib.hid ((h.below B1.out).more B1.out.size)
  have hl := h.len
  have hl' := h'.len
  have HW := Lib.hid hw1
  clear hw1 h h'
  go_enter Try.func48, Try.ntmps48
  go_upto_region 1 with fail
  rw [HW.out]
  clear HW
  go_wp2_with fail
  go_loopw [0, 5] (fun o i wr => ∃ (k n2 : Nat) (A2 : Option Addr) (c2 : Nat), k ≤ n' ∧ n2 ≤ n + k ∧ o = .slice A2 n2 c2 ∧ i = .int .i64 (k : Int) ∧ Hid (SqS wr wr.heap.size A2 n2 c2 (pathsW (·.p) l (m.take k))) ∧ Hid (Below w1.heap.size w1 wr)) (fun _ i _ => n' - (intOf i).toNat)
  case atStart => exact ⟨0, n, A, c, Nat.zero_le _, by omega, rfl, rfl, HL, Lib.hid (Below.refl _ _)⟩
  case round =>
    obtain ⟨k, n2, A2, c2, hk, hn2, rfl, rfl, hsq, hb⟩ := hrel
    have q0 := (X0.out.below hb.out X0.out.lt).cell (j := 0) rfl
    by_cases hlt : k < n'
    · have hd : decide ((k : Int) < (n' : Int)) = true := by simp; omega
      have hk0 : (0 : Int) ≤ (k : Int) := Int.natCast_nonneg _
      have hk1 : (k : Int) < (n' : Int) := by omega
      obtain ⟨b, o, rfl, hbl, hrg⟩ := (HS.out.below hb.out).at_ hlt
      obtain ⟨r, hr⟩ : ∃ r, m[k]'(by omega) = r := ⟨_, rfl⟩
      rw [hr] at hrg
      have r0 : wr.cell? ⟨b, o + k * 2, none⟩ = some (.string r.p) := hrg 0 _ rfl
      have HT : Hid (pathsW (·.p) l (m.take (k + 1)) = withW (pathsW (·.p) l (m.take k)) r.p) := Lib.hid (by rw [pathsW_take (by omega), hr])
      have HLN : Hid ((pathsW (·.p) l (m.take k)).length = n2) := Lib.hid hsq.out.len
      clear hrg hr
      go_wp2_with fail
      refine (With_any hsq.out (by omega) r.p).mono ?_
      rintro e w2 ⟨⟨A3, n3, c3, rfl, hsq3⟩, hb2⟩
      have G2 := Lib.hid (hb.out.trans (hb2.mono hb.out.size))
      have hn3 : n3 ≤ n2 + 1 := by
        have h1 := withW_len (pathsW (·.p) l (m.take k)) r.p
        rw [hsq3.len, HLN.out] at h1
        exact h1
      have SQ3 := Lib.hid (show SqS w2 w2.heap.size A3 n3 c3 (pathsW (·.p) l (m.take (k + 1))) by rw [HT.out]; exact hsq3)
      clear hb2 hsq3 r0 q0
      go_wp2_with fail
      go_roundw
      case rel => exact ⟨k + 1, n3, A3, c3, by omega, by omega, rfl, by go_num, SQ3, G2⟩
      case measure => simp [intOf]; omega
    · have hd : decide ((k : Int) < (n' : Int)) = false := by simp; omega
      obtain rfl : k = n' := by omega
      go_wp2_with fail
      go_ret
      exact ⟨⟨_, _, _, rfl, hn2, by have := hsq.out; rwa [← hl', List.take_length] at this⟩, B1.out.trans (hb.out.mono B1.out.size)⟩
end Go.Proofs.Ytkdmlffnkomdhaa
