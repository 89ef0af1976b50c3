/-
  WHERE A SIGN STANDS AMONG THE SIXTEEN.
-/
import Derived.Test.YtgjkahoblopddaaDoorHex
import Derived.Lib.OthersKept
import Derived.Laws.Runes
import Derived.WalkMore
import Derived.Laws.RangeAny
namespace Go.Proofs.YtgjkahoblopddaaDoor
set_option linter.unusedVariables false
set_option linter.unusedSimpArgs false
open Go.RowKit Go.WideShapes Go.ChangeShapes

theorem validRune_any (r : Int) (w : World) : Calls Tryd.prog 64 #[.int .i32 r] w fun e w' => e = .returned (.bool (Utf8.valid r)) ∧ w' = w := by
  rw [validRune_eq]
  unfold validRune
  by_cases h1 : 0 ≤ r <;> by_cases h2 : r < 55296 <;> by_cases h3 : 57343 < r <;> by_cases h4 : r ≤ 1114111 <;> first | omega | skip
  all_goals
    go_enter Tryd.func64, Tryd.ntmps64
    go_wp2
    go_ret
    exact ⟨by simp [h1, h2, h3, h4], rfl⟩

theorem indexByte_any (s : ByteArray) (c : UInt8) (w : World) : Calls Tryd.prog 63 #[.string s, .int .u8 (c.toNat : Int)] w fun e w' => e = .returned (.int .i64 (firstIdx s c)) ∧ w' = w := by
  go_enter Tryd.func63, Tryd.ntmps63
  go_wp2
  rw [run_callFunc_extern Tryd.func76 (by kernel_rfl) (by kernel_rfl) (by kernel_rfl) (e := Extern.BytealgIndexByte.indexByte) (by kernel_rfl), run_indexByte_string]
  have e : ((c.toNat : Int)).toNat.toUInt8 = c := by simp
  rw [e]
  simp only [Result.andThen]
  rw [Oper.upon_value]
  go_wp2
  go_ret
  exact ⟨rfl, rfl⟩

set_option maxRecDepth 100000 in
set_option maxHeartbeats 2000000 in
theorem rune_bad (r : Int) (hr : Utf8.valid r = false) (hn : ¬ (0 ≤ r ∧ r < 128)) (hn2 : r ≠ 65533) (w : World) :
    Calls Tryd.prog 46 #[.string ⟨#[48, 49, 50, 51, 52, 53, 54, 55, 56, 57, 97, 98, 99, 100, 101, 102]⟩, .int .i32 r] w fun e w' => e = .returned (.int .i64 (-1)) ∧ w' = w := by
  have e1 : decide (r = 65533) = false := by simp [hn2]
  have HV := Lib.hid (fun w' => hr ▸ validRune_any r w')
  have hq : ¬ (0 ≤ r ∧ r < 128) := hn
  clear hr
  by_cases h0 : 0 ≤ r
  · have h1 : ¬ r < 128 := fun h => hn ⟨h0, h⟩
    go_enter Tryd.func46, Tryd.ntmps46
    go_wp2_with (go_at_call 64; refine (HV.out _).mono ?_; rintro e w5 ⟨rfl, rfl⟩)
    go_ret
    exact ⟨rfl, rfl⟩
  · go_enter Tryd.func46, Tryd.ntmps46
    go_wp2_with (go_at_call 64; refine (HV.out _).mono ?_; rintro e w5 ⟨rfl, rfl⟩)
    go_ret
    exact ⟨rfl, rfl⟩

set_option maxRecDepth 100000 in
set_option maxHeartbeats 2000000 in
theorem rune_wide (r : Int) (hr : Utf8.valid r = true) (hn : 128 ≤ r) (hn2 : r ≠ 65533) (w : World) :
    Calls Tryd.prog 46 #[.string ⟨#[48, 49, 50, 51, 52, 53, 54, 55, 56, 57, 97, 98, 99, 100, 101, 102]⟩, .int .i32 r] w fun e w' => e = .returned (.int .i64 (-1)) ∧ Below w.heap.size w w' := by
  obtain ⟨k1, k2, k3⟩ := encode_facts r hr hn
  have HV := Lib.hid (fun w' => hr ▸ validRune_any r w')
  have h0 : 0 ≤ r := by omega
  have h1 : ¬ r < 128 := by omega
  have hcv : ∀ w' : World, (convert 21 9 (.int .i32 r)).run Tryd.prog w' = .ok (.string (Utf8.encode r)) w' := fun w' => run_convert_int_string w' 21 9 .i32 r (by rw [Tryd.underlying21]; rfl) Tryd.underlying9
  generalize Utf8.encode r = en at k1 k2 k3 hcv
  clear hr
  go_enter Tryd.func46, Tryd.ntmps46
  go_wp2_with (go_at_call 64; refine (HV.out _).mono ?_; rintro e w5 ⟨rfl, rfl⟩)
  have hm : en.size = 2 ∨ en.size = 3 ∨ en.size = 4 := by omega
  rcases hm with hm | hm | hm
  · refine wp_scope_straight ?_
    go_wp2
    go_loopw [9] (fun i wr => i = .int .i64 1 ∧ wr = w5) (fun _ _ => 0)
    case atStart => exact ⟨rfl, rfl⟩
    case round =>
      obtain ⟨rfl, rfl⟩ := hrel
      have hz : ∀ h, (en[(1 : Int).toNat]'h) = en[1]'(by omega) := fun _ => rfl
      have hz2 : ∀ h, (en[1]'h) = en[1]'(by omega) := fun _ => rfl
      have hz3 : 128 ≤ (en[1]'(by omega)).toNat := by have := k3 (by omega); simpa [hm] using this
      have hne : ¬ ((49 : Int) = ((en[1]'(by omega)).toNat : Int)) := by omega
      go_wp2
      first | (refine wp_scope_straight ?_; go_wp2) | skip
      go_region
      have hfi : ∀ a e, firstIdx (ByteArray.extract ⟨#[48, 49, 50, 51, 52, 53, 54, 55, 56, 57, 97, 98, 99, 100, 101, 102]⟩ a e) (en[1]'(by omega)) = -1 := fun a e => firstIdx_ascii _ a e _ (by decide) hz3
      all_goals go_wp2
      · go_region_with (go_at_call 63; refine (indexByte_any _ _ _).mono ?_; rintro e w6 ⟨rfl, rfl⟩; (try rw [hfi]))
        all_goals
          go_wp2
          rw [Exit.noGoto_ret]
          change bodyPost Tryd.prog Tryd.f46 (fun e w' => e = .returned (.int .i64 (-1)) ∧ Below wr.heap.size wr w') Exit.ret _ _
          go_ret
          exact ⟨rfl, (Below.refl _ _).drew.drew⟩
      · exfalso
        have hsg : ∀ h, ((⟨#[48, 49, 50, 51, 52, 53, 54, 55, 56, 57, 97, 98, 99, 100, 101, 102]⟩ : ByteArray)[1]'h) = 49 := fun _ => rfl
        simp_all
        done
  · refine wp_scope_straight ?_
    go_wp2
    go_loopw [9] (fun i wr => i = .int .i64 2 ∧ wr = w5) (fun _ _ => 0)
    case atStart => exact ⟨rfl, rfl⟩
    case round =>
      obtain ⟨rfl, rfl⟩ := hrel
      have hz : ∀ h, (en[(2 : Int).toNat]'h) = en[2]'(by omega) := fun _ => rfl
      have hz2 : ∀ h, (en[2]'h) = en[2]'(by omega) := fun _ => rfl
      have hz3 : 128 ≤ (en[2]'(by omega)).toNat := by have := k3 (by omega); simpa [hm] using this
      have hne : ¬ ((50 : Int) = ((en[2]'(by omega)).toNat : Int)) := by omega
      go_wp2
      first | (refine wp_scope_straight ?_; go_wp2) | skip
      go_region
      have hfi : ∀ a e, firstIdx (ByteArray.extract ⟨#[48, 49, 50, 51, 52, 53, 54, 55, 56, 57, 97, 98, 99, 100, 101, 102]⟩ a e) (en[2]'(by omega)) = -1 := fun a e => firstIdx_ascii _ a e _ (by decide) hz3
      all_goals go_wp2
      · go_region_with (go_at_call 63; refine (indexByte_any _ _ _).mono ?_; rintro e w6 ⟨rfl, rfl⟩; (try rw [hfi]))
        all_goals
          go_wp2
          rw [Exit.noGoto_ret]
          change bodyPost Tryd.prog Tryd.f46 (fun e w' => e = .returned (.int .i64 (-1)) ∧ Below wr.heap.size wr w') Exit.ret _ _
          go_ret
          exact ⟨rfl, (Below.refl _ _).drew.drew⟩
      · exfalso
        have hsg : ∀ h, ((⟨#[48, 49, 50, 51, 52, 53, 54, 55, 56, 57, 97, 98, 99, 100, 101, 102]⟩ : ByteArray)[2]'h) = 50 := fun _ => rfl
        simp_all
        done
  · refine wp_scope_straight ?_
    go_wp2
    go_loopw [9] (fun i wr => i = .int .i64 3 ∧ wr = w5) (fun _ _ => 0)
    case atStart => exact ⟨rfl, rfl⟩
    case round =>
      obtain ⟨rfl, rfl⟩ := hrel
      have hz : ∀ h, (en[(3 : Int).toNat]'h) = en[3]'(by omega) := fun _ => rfl
      have hz2 : ∀ h, (en[3]'h) = en[3]'(by omega) := fun _ => rfl
      have hz3 : 128 ≤ (en[3]'(by omega)).toNat := by have := k3 (by omega); simpa [hm] using this
      have hne : ¬ ((51 : Int) = ((en[3]'(by omega)).toNat : Int)) := by omega
      go_wp2
      first | (refine wp_scope_straight ?_; go_wp2) | skip
      go_region
      have hfi : ∀ a e, firstIdx (ByteArray.extract ⟨#[48, 49, 50, 51, 52, 53, 54, 55, 56, 57, 97, 98, 99, 100, 101, 102]⟩ a e) (en[3]'(by omega)) = -1 := fun a e => firstIdx_ascii _ a e _ (by decide) hz3
      all_goals go_wp2
      · go_region_with (go_at_call 63; refine (indexByte_any _ _ _).mono ?_; rintro e w6 ⟨rfl, rfl⟩; (try rw [hfi]))
        all_goals
          go_wp2
          rw [Exit.noGoto_ret]
          change bodyPost Tryd.prog Tryd.f46 (fun e w' => e = .returned (.int .i64 (-1)) ∧ Below wr.heap.size wr w') Exit.ret _ _
          go_ret
          exact ⟨rfl, (Below.refl _ _).drew.drew⟩
      · exfalso
        have hsg : ∀ h, ((⟨#[48, 49, 50, 51, 52, 53, 54, 55, 56, 57, 97, 98, 99, 100, 101, 102]⟩ : ByteArray)[3]'h) = 51 := fun _ => rfl
        simp_all
        done

set_option maxRecDepth 100000 in
set_option maxHeartbeats 2000000 in
theorem rune_ascii (s : ByteArray) (c : UInt8) (hc : c.toNat < 128) (w : World) :
    Calls Tryd.prog 46 #[.string s, .int .i32 (c.toNat : Int)] w fun e w' => e = .returned (.int .i64 (firstIdx s c)) ∧ w' = w := by
  have h0 : (0 : Int) ≤ (c.toNat : Int) := by omega
  have h1 : (c.toNat : Int) < 128 := by omega
  go_enter Tryd.func46, Tryd.ntmps46
  go_wp2_with (go_at_call 63; refine (indexByte_any _ _ _).mono ?_; rintro e w5 ⟨rfl, rfl⟩)
  go_ret
  exact ⟨rfl, rfl⟩

set_option maxRecDepth 100000 in
set_option maxHeartbeats 2000000 in
theorem rune_err (s : ByteArray) (hs : ∀ (k : Nat) (h : k < s.size), (s[k]'h).toNat < 128) (w : World) :
    Calls Tryd.prog 46 #[.string s, .int .i32 65533] w fun e w' => e = .returned (.int .i64 (-1)) ∧ Below w.heap.size w w' := by
  have HS := Lib.hid hs
  clear hs
  go_enter Tryd.func46, Tryd.ntmps46
  go_wp2
  go_loopw [] (fun wr => ∃ k : Nat, k ≤ s.size ∧ wr = w.iter s k) (fun wr => s.size - wr.iterPos w.heap.size)
  case atStart => exact ⟨0, Nat.zero_le _, rfl⟩
  case round =>
    obtain ⟨k, hk, rfl⟩ := hrel
    by_cases h : k < s.size
    · have hnx := fun ty => run_next_ascii (P := Tryd.prog) w s k ty h (HS.out k h)
      have hlt := HS.out k h
      generalize s[k]'h = c at hnx hlt
      have hne : ¬ ((c.toNat : Int) = 65533) := by omega
      go_wp2
      go_roundw
      case rel => exact ⟨k + 1, by omega, rfl⟩
      case measure => simp; omega
    · obtain rfl : k = s.size := by omega
      have hnx := fun ty => run_next_end (P := Tryd.prog) w s s.size ty h
      go_wp2
      go_ret
      exact ⟨rfl, (Below.refl _ _).alloc (Nat.le_refl _) _⟩

theorem sgB_ascii (k : Nat) (h : k < sgB.size) : (sgB[k]'h).toNat < 128 := by
  have : ∀ b ∈ sgB.data.toList, b.toNat < 128 := by decide +kernel
  exact this _ (by simp [ByteArray.getElem_eq_getElem_data])
/-- A sign beyond a byte's lower half is none of the sixteen. -/
theorem rune_high (r : Int) (hr : 128 ≤ r) (w : World) :
    Calls Tryd.prog 46 #[.string sgB, .int .i32 r] w fun e w' => e = .returned (.int .i64 (-1)) ∧ Below w.heap.size w w' := by
  by_cases h1 : r = 65533
  · subst h1
    exact rune_err sgB sgB_ascii w
  · cases hv : Utf8.valid r
    · exact (rune_bad r hv (by omega) h1 w).mono fun e w' ⟨h, h2⟩ => ⟨h, by rw [h2]; exact Below.refl _ _⟩
    · exact rune_wide r hv hr h1 w
end Go.Proofs.YtgjkahoblopddaaDoor
