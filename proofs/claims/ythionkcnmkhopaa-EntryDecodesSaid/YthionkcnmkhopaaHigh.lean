/-
  The document's own answers (confluenceref01): High, Both.
-/
import Derived.Test.YthionkcnmkhopaaLaw1
import Derived.Test.YthionkcnmkhopaaCmp
import Derived.Deep.RegionWith
import Derived.Deep.DeepCutAuto
namespace Go.Proofs.Ythionkcnmkhopaa
set_option linter.unusedVariables false
open Go.RowKit Go.WideShapes Go.ChangeShapes

theorem one_sl (w : World) (b : Nat) (v : Int) (x : UInt8) (hv : v = (x.toNat : Int)) (hb : b = w.heap.size) : SlB (w.alloc (.cells #[.int .u8 v] 5)) (b + 1) (some ⟨b, 0, none⟩) 1 1 [x] := by
  subst hb hv
  exact Bl.sl (l := [x]) (Bl.new w 5 (bvs [x])) (Nat.lt_succ_self _) (by unfold maxLen; simp)
theorem be_mod : ∀ (k x : Nat), be k (x % 256 ^ k) = be k x
  | 0, _ => rfl
  | k + 1, x => by
    have h1 : x % 256 ^ (k + 1) / 256 = x / 256 % 256 ^ k := by rw [Nat.pow_succ', Nat.mod_mul_right_div_self]
    have h2 : UInt8.ofNat (x % 256 ^ (k + 1)) = UInt8.ofNat x := by
      apply UInt8.toNat_inj.1
      simp only [UInt8.toNat_ofNat']
      rw [Nat.pow_succ', Nat.mod_mul_right_mod]
    rw [be, be, h1, h2, be_mod k]

theorem high_any : ∀ (k : Nat) (x : Nat) (X : Int) (K : Int) (w : World), X = (x : Int) → x < 18446744073709551616 → K = (k : Int) → k ≤ 1000 →
    Calls Try.prog 23 #[.int .u64 X, .int .i64 K] w fun e w' =>
      ∃ A c, e = .returned (.slice A k c) ∧ Ow w' w.heap.size A k c (be k x) ∧ Below w.heap.size w w' := by
  intro k
  induction k with
  | zero =>
    intro x X K w hX hx hK hk
    subst hX hK
    go_enter Try.func23, Try.ntmps23
    go_wp2_with fail
    go_ret
    exact ⟨none, 0, rfl, World.ownsRow_nil _ _ _ _, Below.refl _ _⟩
  | succ k ih =>
    intro x X K w hX hx hK hk
    subst hX hK
    have IH := Lib.hid (ih (x / 256))
    clear ih
    obtain ⟨i0, hi0, hz0, hz1, hz2⟩ := info_parts info_u8
    have HX := Lib.hid hx
    clear hx
    go_enter Try.func23, Try.ntmps23
    go_wp2_with fail
    refine (IH.out _ _ _ (by have := HX.out; rw [IntKind.wrap_u64]; omega) (by have := HX.out; omega) (by omega) (by omega)).mono ?_
    rintro e w1 ⟨A1, c1, rfl, ho1, hb1⟩
    have ho2 := fun v => ho1.alloc (.cells #[.int .u8 v] 5)
    have HO := Lib.hid ho2
    have hsz := hb1.size
    clear ho2
    go_wp2_with (at_builtin; go_loud (refine wpList_append_sl rfl (.tmp 11) (.tmp 15) 25 rfl w.heap.size 5 i0 Try.underlying25 hi0 hz0 hz1 hz2 _ _ (be k (x / 256)) rfl (HO.out _) rfl (one_sl w1 w1.heap.size ((x : Int) % 256) (UInt8.ofNat x) (byte_of x).symm rfl) (by omega) (by simp; omega) ?_); intro v2 w2 ho2 hg2)
    go_ret
    obtain ⟨A2, c2, rfl⟩ := own_form ho2
    refine ⟨A2, c2, rfl, ho2, (hb1.alloc hsz _).grown hg2 (by simp; omega) (fun j hj => ?_)⟩
    have := ho1.lt j (by simpa [Act.eval] using hj)
    omega

theorem both_any {A A' : Option Addr} {n c n' c' : Nat} {l l' : List UInt8} {w : World} {B B' : Nat} (h : SlB w B A n c l) (h' : SlB w B' A' n' c' l') (hB : B ≤ w.heap.size) (hB' : B' ≤ w.heap.size) (hn : n + n' ≤ 140737488355320) :
    Calls Try.prog 22 #[.slice A n c, .slice A' n' c'] w fun e w' =>
      ∃ A3 c3, e = .returned (.slice A3 (n + n') c3) ∧ Ow w' w.heap.size A3 (n + n') c3 (l ++ l') ∧ Below w.heap.size w w' := by
  obtain ⟨i0, hi0, hz0, hz1, hz2⟩ := info_parts info_u8
  have hb0 : Below w.heap.size w (w.alloc (.cells #[] 5)) := (Below.refl _ _).alloc (Nat.le_refl _) _
  have h0 := World.ownsRow_made (base := w.heap.size) (e := 5) (size := 1) w #[] 0 (Nat.le_refl _) (Nat.zero_le _) rfl
  have h1 := h.below (hb0.mono hB)
  go_enter Try.func22, Try.ntmps22
  go_wp2_with (first
    | (at_builtin; refine wpList_append_sl rfl (.tmp 6) (.tmp 7) 25 rfl w.heap.size 5 i0 Try.underlying25 hi0 hz0 hz1 hz2 _ 0 [] rfl h0 rfl h1 (by omega) (by simp) ?_; intro v1 w1 ho1 hg1
       have hb1 : Below w.heap.size w w1 := hb0.grown hg1 (by simp) (fun k hk => by simp [Act.eval, Value.ownBlock] at hk; omega)
       have h2 := h'.below (hb1.mono hB')
       have hz1' := hb1.size)
    | (at_builtin; refine wpList_append_sl rfl (.tmp 9) (.tmp 10) 25 rfl w.heap.size 5 i0 Try.underlying25 hi0 hz0 hz1 hz2 _ (0 + n) ([] ++ l) rfl ho1 rfl h2 (by omega) hz1' ?_; intro v2 w2 ho2 hg2))
  go_ret
  obtain ⟨A2, c2, rfl⟩ := own_form ho2
  simp only [Nat.zero_add, List.nil_append] at ho2
  have hlt := ho1.lt
  refine ⟨A2, c2, ?_, ho2, hb1.grown hg2 hz1' (fun k hk => (hlt k (by simpa [Act.eval] using hk)).1)⟩
  show Ending.returned (.slice A2 (0 + n + n') c2) = _
  rw [Nat.zero_add]

end Go.Proofs.Ythionkcnmkhopaa
