/-
  WHAT THE FOLD'S LAW CALLS: own, HasPrefix, HasSuffix; parts of a row.
-/
import Derived.Test.YtgjkahoblopddaaDoorWake
import Derived.Test.YtgjkahoblopddaaDoorOct4
import Derived.Test.YtgjkahoblopddaaDoorOrd
namespace Go.Proofs.YtgjkahoblopddaaDoor
set_option linter.unusedVariables false
set_option linter.unusedSimpArgs false
open Go.RowKit Go.WideShapes Go.ChangeShapes

/-- THE SLICE '.slice A n c' IS THE CALL's OWN, from block 'base' on, and reads as l. -/
def Ow (w : World) (base : Nat) (A : Option Addr) (n c : Nat) (l : List UInt8) : Prop := w.ownsRow base 5 1 (.slice A n c) n (bvs l)
theorem Ow.sl {w : World} {base n c B : Nat} {A : Option Addr} {l : List UInt8} (h : Ow w base A n c l) (hB : w.heap.size ≤ B) : SlB w B A n c l := by
  obtain ⟨h1, h2⟩ := h
  rw [bvs_len, Nat.mul_one] at h1
  rcases h2 with ⟨h2, h3⟩ | ⟨g, cap, cur, hv, hb, hh, hn, hc, hs, ht⟩
  · injection h2 with e1 e2 e3
    subst e1 e2 e3
    exact ⟨h1, Nat.le_refl _, Nat.zero_le _, fun _ => rfl, fun h => absurd h (by omega)⟩
  · injection hv with e1 e2 e3
    subst e1 e3
    refine ⟨h1, hn, hc, fun e => (by cases e), fun h0 => ⟨g, 0, rfl, by have := (Array.getElem?_eq_some_iff.1 hh).1; omega, fun j hj => ?_⟩⟩
    rw [Nat.zero_add, cell_of_row w g j cur _ (0, 0) hh]
    have h4 : (bvs l)[j]? = some (bv l[j]) := by simp [bvs, List.getElem?_eq_getElem hj]
    rw [← ht, List.getElem?_take] at h4
    split at h4
    · simpa using h4
    · cases h4
theorem Ow.len {w : World} {base n c : Nat} {A : Option Addr} {l : List UInt8} (h : Ow w base A n c l) : l.length = n := by
  have h1 := h.1
  rwa [bvs_len, Nat.mul_one] at h1
theorem Ow.below {w w' : World} {base n c B : Nat} {A : Option Addr} {l : List UInt8} (h : Ow w base A n c l) (hb : Below B w w') (hB : w.heap.size ≤ B) : Ow w' base A n c l :=
  h.kept (w' := w') (row := none) ⟨hb.os, hb.tape, hb.output, hb.size, fun k hk _ => hb.block k (by omega)⟩ (by cases hv : Value.ownBlock (.slice A n c) <;> simp)

theorem own_any {A : Option Addr} {n c : Nat} {l : List UInt8} {w : World} {B : Nat} (hs : SlB w B A n c l) (hB : B ≤ w.heap.size) :
    Calls Tryd.prog 11 #[.slice A n c] w fun e w' =>
      ∃ A' c', e = .returned (.slice A' (min n 700) c') ∧ Ow w' w.heap.size A' (min n 700) c' (l.take 700) ∧ Below w.heap.size w w' := by
  obtain ⟨i0, hi0, hz0, hz1, hz2⟩ := info_parts info_u8
  have hm := hs.le
  have hcm := hs.max
  have hcc := hs.cap
  unfold maxLen at hm hcm
  have ht := hs.take (k := min n 700) (Nat.min_le_left _ _)
  have ek : l.take (min n 700) = l.take 700 := by
    have := hs.len
    by_cases h6 : n ≤ 700
    · rw [Nat.min_eq_left h6, List.take_of_length_le (by omega), List.take_of_length_le (by omega)]
    · rw [Nat.min_eq_right (by omega)]
  rw [ek] at ht
  have hK : min n 700 ≤ 700 := Nat.min_le_right _ _
  have he : (min (n : Int) 700).toNat = min n 700 := by omega
  have HE := Lib.hid he
  clear he ek
  generalize hk : min n 700 = k at *
  clear hk
  have h0 := World.ownsRow_made (base := w.heap.size) (e := 5) (size := 1) w #[] 0 (Nat.le_refl _) (Nat.zero_le _) rfl
  have hb0 : Below w.heap.size w (w.alloc (.cells #[] 5)) := (Below.refl _ _).alloc (Nat.le_refl _) _
  have ht1 := ht.below (hb0.mono hB)
  have he := HE.out
  go_enter Tryd.func11, Tryd.ntmps11
  go_wp2_with (at_builtin; go_loud (refine wpList_append_sl rfl (.tmp 3) (.tmp 8) 22 rfl w.heap.size 5 i0 Tryd.underlying22 hi0 hz0 hz1 hz2 _ 0 [] rfl h0 rfl ht1 (by omega) (by simp) ?_); intro v1 w1 hown1 hg1)
  go_ret
  obtain ⟨A', c', rfl⟩ := own_form hown1
  simp only [Nat.zero_add, List.nil_append] at hown1
  refine ⟨A', c', ?_, hown1, hb0.grown hg1 (by simp) (fun k hk => ?_)⟩
  · show Ending.returned (.slice A' (0 + k) c') = _
    rw [Nat.zero_add]
  · simp [Act.eval, Value.ownBlock] at hk
    omega

theorem Lies.part {W : World} {g N : Nat} {L : List UInt8} (h : Lies W g N (bvs L)) (hL : L.length = N) (k m c : Nat) (hk : k + m ≤ N) (hm : m ≤ c) (hc : c ≤ 1000000) : SlB W W.heap.size (some ⟨g, k, none⟩) m c ((L.drop k).take m) :=
  ⟨by rw [List.length_take, List.length_drop]; omega, hm, by unfold maxLen; omega, fun e => (by cases e), fun _ => ⟨g, k, rfl, h.lt, fun j hj => by
    rw [List.length_take, List.length_drop] at hj
    exact h.cell (by simp [bvs, List.getElem?_eq_getElem (show k + j < L.length by omega)])⟩⟩

set_option maxRecDepth 100000 in
set_option maxHeartbeats 1600000 in
theorem prefix_yes {g o n c n' c' : Nat} {A' : Option Addr} {l l' : List UInt8} {w : World} {B B' : Nat} (h : SlB w B (some ⟨g, o, none⟩) n c l) (h' : SlB w B' A' n' c' l') (hle : n' ≤ n) (heq : l.take n' = l') :
    Calls Tryd.prog 28 #[.slice (some ⟨g, o, none⟩) n c, .slice A' n' c'] w fun e w' => e = .returned (.bool true) ∧ w = w' := by
  have hc := h.cap
  have hge : decide ((n' : Int) ≤ (n : Int)) = true := by simp; omega
  have h0 : (0 : Int) ≤ (n' : Int) := Int.natCast_nonneg _
  have h1 : (n' : Int) ≤ (c : Int) := by omega
  have HE := Lib.hid (bytesEqual_is (h.take hle) h' true (by rw [heq]; simp))
  clear h h' heq
  go_enter Tryd.func28, Tryd.ntmps28
  go_wp2_with fail
  refine (HE.out).mono ?_
  rintro e w5 ⟨rfl, rfl⟩
  go_wp2_with fail
  go_ret
  exact ⟨rfl, rfl⟩

set_option maxRecDepth 100000 in
set_option maxHeartbeats 1600000 in
theorem suffix_yes {g n c n' c' : Nat} {A' : Option Addr} {L l' : List UInt8} {w : World} {B' : Nat} (h : Lies w g n (bvs L)) (hL : L.length = n) (hc : n ≤ c) (hcm : c ≤ 1000000) (h' : SlB w B' A' n' c' l') (hle : n' ≤ n) (hn0 : 0 < n') (heq : L.drop (n - n') = l') :
    Calls Tryd.prog 29 #[.slice (some ⟨g, 0, none⟩) n c, .slice A' n' c'] w fun e w' => e = .returned (.bool true) ∧ w = w' := by
  have hge : decide ((n' : Int) ≤ (n : Int)) = true := by simp; omega
  obtain ⟨k, hk⟩ : ∃ k, n - n' = k := ⟨_, rfl⟩
  have hd : (n : Int) - (n' : Int) = (k : Int) := by omega
  have hw : IntKind.i64.wrap ((n : Int) - (n' : Int)) = (k : Int) := by rw [hd, IntKind.wrap_i64]; omega
  have h0 : (0 : Int) ≤ (k : Int) := Int.natCast_nonneg _
  have h1 : (k : Int) ≤ (n : Int) := by omega
  have h2 : k ≤ n := by omega
  have hn' : n - k = n' := by omega
  have h3 : ¬ (k = c) := by omega
  have h4 : k < c := by omega
  have h5 : (k : Int) < (c : Int) := by omega
  have h6 : 0 < c - k := by omega
  have hp := h.part hL k n' (c - k) (by omega) (by omega) (by omega)
  rw [hk] at heq
  rw [List.take_of_length_le (by rw [List.length_drop]; omega), heq] at hp
  have HE := Lib.hid (bytesEqual_is hp h' true (by simp))
  clear h h' heq hp
  go_enter Tryd.func29, Tryd.ntmps29
  go_wp2_with fail
  refine (HE.out).mono ?_
  rintro e w5 ⟨rfl, rfl⟩
  go_wp2_with fail
  go_ret
  exact ⟨rfl, rfl⟩
end Go.Proofs.YtgjkahoblopddaaDoor
