/-
  PATHMAP: whether a path's bytes may be; whether a change is muddled; whether paths rise; whether rows fit.
-/
import Derived.Test.YtkdmlffnkomdhaaPa
namespace Go.Proofs.Ytkdmlffnkomdhaa
set_option linter.unusedVariables false
set_option linter.unusedSimpArgs false
open Go.RowKit Go.WideShapes Go.ChangeShapes Go.Deep

theorem all_take {s : List UInt8} {k : Nat} (hk : k < s.length) : (s.take (k + 1)).all goodB = ((s.take k).all goodB && goodB s[k]) := by
  rw [List.take_add_one, List.getElem?_eq_getElem hk, List.all_append]
  simp
set_option maxHeartbeats 1600000 in
theorem visible_any (s : ByteArray) (hs : s.size ≤ 1000000) (w : World) : Calls Try.prog 71 #[.string s] w fun e w' => e = .returned (.bool (visW s)) ∧ Below w.heap.size w w' := by
  have hsz : s.data.toList.length = s.size := by simp
  go_enter Try.func71, Try.ntmps71
  go_wp2
  go_loopw [6] (fun i wr => ∃ k : Nat, k ≤ s.size ∧ i = .int .i64 (k : Int) ∧ Hid ((s.data.toList.take k).all goodB = true) ∧ Hid (Below w.heap.size w wr)) (fun i _ => s.size - (intOf i).toNat)
  case atStart => exact ⟨0, Nat.zero_le _, rfl, Lib.hid (by simp), Lib.hid (Below.refl _ _)⟩
  case round =>
    obtain ⟨k, hk, rfl, hg, hb⟩ := hrel
    by_cases hlt : k < s.size
    · have hd : decide ((k : Int) < (s.size : Int)) = true := by simp; omega
      have hk0 : (0 : Int) ≤ (k : Int) := Int.natCast_nonneg _
      have hk1 : (k : Int) < (s.size : Int) := by omega
      have hat := all_take (s := s.data.toList) (k := k) (by omega)
      have hgk : s.data.toList[k]'(by omega) = s[k] := rfl
      rw [hgk] at hat
      have hno : goodB s[k] = false → visW s = false := fun h => by
        rw [visW, List.all_eq_false]
        exact ⟨s[k], by rw [← hgk]; exact List.getElem_mem _, by simp [h]⟩
      have HNO := Lib.hid hno
      have HAT := Lib.hid hat
      clear hat hno hgk
      by_cases h1 : (s[k].toNat : Int) < 33
      · have d1 : decide ((s[k].toNat : Int) < 33) = true := by simpa using h1
        go_wp2
        go_ret
        exact ⟨by rw [HNO.out (by unfold goodB; simp; omega)]; rfl, hb.out⟩
      · have d1 : decide ((s[k].toNat : Int) < 33) = false := by simpa using h1
        by_cases h2 : 126 < (s[k].toNat : Int)
        · have d2 : decide (126 < (s[k].toNat : Int)) = true := by simpa using h2
          go_wp2
          go_ret
          exact ⟨by rw [HNO.out (by unfold goodB; simp; omega)]; rfl, hb.out⟩
        · have d2 : decide (126 < (s[k].toNat : Int)) = false := by simpa using h2
          go_wp2
          go_roundw
          case rel => exact ⟨k + 1, by omega, by go_num, Lib.hid (by rw [HAT.out, hg.out]; unfold goodB; simp; omega), hb⟩
          case measure => simp [intOf]; omega
    · have hd : decide ((k : Int) < (s.size : Int)) = false := by simp; omega
      obtain rfl : k = s.size := by omega
      have hv : visW s = true := by rw [visW, ← hg.out, List.take_of_length_le (by omega)]
      have HV := Lib.hid hv
      clear hv
      go_wp2
      go_ret
      exact ⟨by rw [HV.out]; rfl, hb.out⟩
set_option maxHeartbeats 1600000 in
theorem muddled_any (r : Ch) (w : World) : Calls Try.prog 68 #[chV r] w fun e w' => e = .returned (.bool (!r.is && !r.t.toList.isEmpty)) ∧ Below w.heap.size w w' := by
  have HB := Lib.hid (show Below w.heap.size w (w.alloc (.cells #[.string r.p, .bool r.is, .string r.t] 81)) from (Below.refl _ _).alloc (Nat.le_refl _) _)
  obtain ⟨p, is, t⟩ := r
  simp only at HB ⊢
  cases is
  · go_enter Try.func68, Try.ntmps68
    go_wp2
    go_ret
    exact ⟨rfl, HB.out⟩
  · go_enter Try.func68, Try.ntmps68
    go_wp2
    go_ret
    exact ⟨rfl, HB.out⟩
end Go.Proofs.Ytkdmlffnkomdhaa
