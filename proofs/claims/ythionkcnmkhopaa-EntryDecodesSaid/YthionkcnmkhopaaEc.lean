/-
  COMMANDS: whether what is filled is what the Kind has; which names may be.
-/
import Derived.Test.YthionkcnmkhopaaEb
import Derived.Lib.OthersKept
import Derived.Laws.Runes
import Derived.WalkMore
import Derived.Laws.RangeAny
namespace Go.Proofs.Ythionkcnmkhopaa
set_option linter.unusedVariables false
set_option linter.unusedSimpArgs false
open Go.RowKit Go.WideShapes Go.ChangeShapes Go.Deep
attribute [local irreducible] wpQuiet

def isFilledB (of f : Int) : Bool := !(of == 0) && (bits .or .i64 f (bits .and .i64 of 6) == of)
set_option maxHeartbeats 2000000 in
set_option maxRecDepth 100000 in
theorem isFilled_any (w : World) (x : Cf) (A : Option Addr) (n c : Nat) (hdv : x.dv = .slice A n c) (hn : n ≤ 140737488355328) (hk : -9223372036854775808 ≤ x.kind ∧ x.kind ≤ 9223372036854775807) :
    Calls Try.prog 20 #[cfV x] w fun e w' => e = .returned (.bool (isFilledB (fieldsW x.kind) (filledW x n))) ∧ Below w.heap.size w w' := by
  obtain ⟨w1, hw1, B1, s1, X1⟩ := boxed_cf w x
  have HW := Lib.hid hw1
  have HB := Lib.hid B1
  obtain ⟨a0, a1, a2, a3, a4, a5, a6⟩ := cf_lies X1
  have RG := Lib.hid X1.rg
  have CF := Lib.hid (fields_any w1 x.kind hk)
  have CE := Lib.hid (filled_any w1 x A n c hdv hn)
  clear a1 a2 a3 a4 a5 a6 hw1 X1 hdv
  generalize filledW x n = f at *
  generalize fieldsW x.kind = o at *
  unfold isFilledB
  have HQ : (bits .or .i64 f (bits .and .i64 o 6) == o) = (bits .or .i64 f (bits .and .i64 o 6) == o) := rfl
  by_cases ho : o = 0
  · subst ho
    go_enter Try.func20, Try.ntmps20
    go_upto_region 1 with fail
    rw [HW.out]
    go_wp2_with (first
      | (go_at_call 36; refine CF.out.mono ?_; rintro e w2 ⟨rfl, rfl⟩)
      | fail)
    go_ret
    exact ⟨rfl, HB.out⟩
  · have d : (o == 0) = false := by simpa using ho
    obtain ⟨q, hq⟩ : ∃ q, (bits .or .i64 f (bits .and .i64 o 6) == o) = q := ⟨_, rfl⟩
    rw [hq]
    go_enter Try.func20, Try.ntmps20
    go_upto_region 1 with fail
    rw [HW.out]
    go_wp2_with (first
      | (go_at_call 36; refine CF.out.mono ?_; rintro e w2 ⟨rfl, rfl⟩)
      | ((with_reducible refine ldc (.tmp 1) ?_ ?_ w.heap.size 0 x ?_ RG.out ?_); rfl; (first | rfl | go_simp); rfl)
      | (go_at_call 37; refine CE.out.mono ?_; rintro e w2 ⟨rfl, hb2⟩; have HB2 := Lib.hid hb2; clear hb2)
      | fail)
    go_ret
    exact ⟨rfl, B1.trans (HB2.out.mono B1.size)⟩
theorem all_take {s : List UInt8} {k : Nat} (hk : k < s.length) : (s.take (k + 1)).all goodB = ((s.take k).all goodB && goodB s[k]) := by
  rw [List.take_add_one, List.getElem?_eq_getElem hk, List.all_append]
  simp
/-- Whether a branch may have that name, if it has one. -/
def nameW (s : ByteArray) : Bool := decide (s.size ≤ 24) && visW s
set_option maxHeartbeats 2000000 in
set_option maxRecDepth 100000 in
theorem isName_any (s : ByteArray) (w : World) : Calls Try.prog 21 #[.string s] w fun e w' => e = .returned (.bool (nameW s)) ∧ Below w.heap.size w w' := by
  have hsz : s.data.toList.length = s.size := by simp
  unfold nameW
  by_cases h24 : 24 < s.size
  · have d : decide ((24 : Int) < (s.size : Int)) = true := by simp; omega
    have d2 : decide (s.size ≤ 24) = false := by simpa using h24
    rw [d2]
    go_enter Try.func21, Try.ntmps21
    go_wp2
    go_ret
    exact ⟨rfl, Below.refl _ _⟩
  have d : decide ((24 : Int) < (s.size : Int)) = false := by simp; omega
  have d2 : decide (s.size ≤ 24) = true := by simpa using h24
  rw [d2]
  go_enter Try.func21, Try.ntmps21
  go_wp2
  have NO : ∀ (k : Nat) (h : k < s.size), goodB (s[k]'h) = false → visW s = false := fun k h hg => by
    rw [visW, List.all_eq_false]
    exact ⟨s[k]'h, List.getElem_mem (l := s.data.toList) (by rw [hsz]; exact h), by simp [hg]⟩
  have HNO := Lib.hid NO
  clear NO
  go_loopw [4] (fun _ wr => ∃ k : Nat, k ≤ s.size ∧ wr = w.iter s k ∧ Hid ((s.data.toList.take k).all goodB = true)) (fun _ wr => s.size - wr.iterPos w.heap.size)
  case atStart => exact ⟨0, Nat.zero_le _, rfl, Lib.hid (by simp)⟩
  case round =>
    obtain ⟨k, hk, rfl, hg⟩ := hrel
    by_cases h : k < s.size
    · have HAT := Lib.hid (all_take (s := s.data.toList) (k := k) (by omega))
      have hgk : s.data.toList[k]'(by omega) = s[k] := rfl
      rw [hgk] at HAT
      by_cases ha : (s[k]'h).toNat < 128
      · have hnx := fun ty => run_next_ascii (P := Try.prog) w s k ty h ha
        have HN := Lib.hid (HNO.out k h)
        generalize s[k]'h = c at hnx HAT HN ha
        clear hgk
        by_cases h1 : (c.toNat : Int) < 33
        · have d1 : decide ((c.toNat : Int) < 33) = true := by simpa using h1
          have e := HN.out (by unfold goodB; simp; omega)
          go_wp2
          go_ret
          exact ⟨by first | rfl | (rw [e]; rfl), (Below.refl _ _).alloc (Nat.le_refl _) _⟩
        · have d1 : decide ((c.toNat : Int) < 33) = false := by simpa using h1
          by_cases h2 : 126 < (c.toNat : Int)
          · have d2 : decide (126 < (c.toNat : Int)) = true := by simpa using h2
            have e := HN.out (by unfold goodB; simp; omega)
            go_wp2
            go_ret
            exact ⟨by first | rfl | (rw [e]; rfl), (Below.refl _ _).alloc (Nat.le_refl _) _⟩
          · have d2 : decide (126 < (c.toNat : Int)) = false := by simpa using h2
            go_wp2
            go_roundw
            case rel => exact ⟨k + 1, by omega, rfl, Lib.hid (by rw [HAT.out, hg.out]; unfold goodB; simp; omega)⟩
            case measure => simp; omega
      · have hdh := decode_high s k h (by omega)
        have e := HNO.out k h (by unfold goodB; simp; omega)
        have hnx := fun ty => run_next_any (P := Try.prog) w s k ty h
        obtain ⟨r, hr⟩ : ∃ r, (Utf8.decode s k).1 = r := ⟨_, rfl⟩
        rw [hr] at hnx hdh
        have d1 : decide ((r : Int) < 33) = false := by have := hdh.1; simp; omega
        have d2 : decide (126 < (r : Int)) = true := by have := hdh.1; simp; omega
        go_wp2
        go_ret
        exact ⟨by first | rfl | (rw [e]; rfl), (Below.refl _ _).alloc (Nat.le_refl _) _⟩
    · obtain rfl : k = s.size := by omega
      have hnx := fun ty => run_next_end (P := Try.prog) w s s.size ty h
      have e : visW s = true := by rw [visW, ← hg.out, List.take_of_length_le (by omega)]
      have HE := Lib.hid e
      clear e
      go_wp2
      go_ret
      exact ⟨by rw [HE.out]; rfl, (Below.refl _ _).alloc (Nat.le_refl _) _⟩
end Go.Proofs.Ythionkcnmkhopaa
