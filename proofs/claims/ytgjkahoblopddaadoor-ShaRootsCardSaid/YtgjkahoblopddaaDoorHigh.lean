/-
  The document's own answers (confluenceref01): High, Both.
-/
import Derived.Test.YtgjkahoblopddaaDoorFold
import Derived.Test.YtgjkahoblopddaaDoorRound
import Derived.Lib.SmallJoins
import Derived.Deep.RegionWith
import Derived.Deep.DeepCutAuto
namespace Go.Proofs.YtgjkahoblopddaaDoor
set_option linter.unusedVariables false
open Go.RowKit Go.WideShapes Go.ChangeShapes

theorem one_sl (w : World) (b : Nat) (v : Int) (x : UInt8) (hv : v = (x.toNat : Int)) (hb : b = w.heap.size) : SlB (w.alloc (.cells #[.int .u8 v] 5)) (b + 1) (some ⟨b, 0, none⟩) 1 1 [x] := by
  subst hb hv
  exact Bl.sl (l := [x]) (Bl.new w 5 (bvs [x])) (Nat.lt_succ_self _) (by unfold maxLen; simp)
theorem be_mod : ∀ (k x : Nat), be k (x % 256 ^ k) = be k x
  | 0, _ => rfl
  | k + 1, x => by
    have h1 : x % 256 ^ (k + 1) / 256 = x / 256 % 256 ^ k := by rw [Nat.pow_succ', Nat.mod_mul_right_div_self]
    have h2 : UInt8.ofNat (x % 256 ^ (k + 1)) = UInt8.ofNat x := by
      apply UInt8.toNat_inj.1
      simp only [UInt8.toNat_ofNat']
      rw [Nat.pow_succ', Nat.mod_mul_right_mod]
    rw [be, be, h1, h2, be_mod k]

set_option maxRecDepth 100000 in
set_option maxHeartbeats 1600000 in
theorem high_any : ∀ (k : Nat) (x : Nat) (X : Int) (K : Int) (w : World), X = (x : Int) → x < 18446744073709551616 → K = (k : Int) → k ≤ 1000 →
    Calls Tryd.prog 38 #[.int .u64 X, .int .i64 K] w fun e w' =>
      ∃ A c, e = .returned (.slice A k c) ∧ Ow w' w.heap.size A k c (be k x) ∧ Below w.heap.size w w' := by
  intro k
  induction k with
  | zero =>
    intro x X K w hX hx hK hk
    subst hX hK
    go_enter Tryd.func38, Tryd.ntmps38
    go_wp2_with fail
    go_ret
    exact ⟨none, 0, rfl, World.ownsRow_nil _ _ _ _, Below.refl _ _⟩
  | succ k ih =>
    intro x X K w hX hx hK hk
    subst hX hK
    have IH := Lib.hid (ih (x / 256))
    clear ih
    obtain ⟨i0, hi0, hz0, hz1, hz2⟩ := info_parts info_u8
    have HX := Lib.hid hx
    clear hx
    go_enter Tryd.func38, Tryd.ntmps38
    go_wp2_with fail
    refine (IH.out _ _ _ (by have := HX.out; rw [IntKind.wrap_u64]; omega) (by have := HX.out; omega) (by omega) (by omega)).mono ?_
    rintro e w1 ⟨A1, c1, rfl, ho1, hb1⟩
    have ho2 := fun v => ho1.alloc (.cells #[.int .u8 v] 5)
    have HO := Lib.hid ho2
    have hsz := hb1.size
    clear ho2
    go_wp2_with (at_builtin; go_loud (refine wpList_append_sl rfl (.tmp 11) (.tmp 15) 22 rfl w.heap.size 5 i0 Tryd.underlying22 hi0 hz0 hz1 hz2 _ _ (be k (x / 256)) rfl (HO.out _) rfl (one_sl w1 w1.heap.size ((x : Int) % 256) (UInt8.ofNat x) (byte_of x).symm rfl) (by omega) (by simp; omega) ?_); intro v2 w2 ho2 hg2)
    go_ret
    obtain ⟨A2, c2, rfl⟩ := own_form ho2
    refine ⟨A2, c2, rfl, ho2, (hb1.alloc hsz _).grown hg2 (by simp; omega) (fun j hj => ?_)⟩
    have := ho1.lt j (by simpa [Act.eval] using hj)
    omega

set_option maxRecDepth 100000 in
set_option maxHeartbeats 1600000 in
theorem both_any {A A' : Option Addr} {n c n' c' : Nat} {l l' : List UInt8} {w : World} {B B' : Nat} (h : SlB w B A n c l) (h' : SlB w B' A' n' c' l') (hB : B ≤ w.heap.size) (hB' : B' ≤ w.heap.size) (hn : n + n' ≤ 140737488355320) :
    Calls Tryd.prog 39 #[.slice A n c, .slice A' n' c'] w fun e w' =>
      ∃ A3 c3, e = .returned (.slice A3 (n + n') c3) ∧ Ow w' w.heap.size A3 (n + n') c3 (l ++ l') ∧ Below w.heap.size w w' := by
  obtain ⟨i0, hi0, hz0, hz1, hz2⟩ := info_parts info_u8
  have hb0 : Below w.heap.size w (w.alloc (.cells #[] 5)) := (Below.refl _ _).alloc (Nat.le_refl _) _
  have h0 := World.ownsRow_made (base := w.heap.size) (e := 5) (size := 1) w #[] 0 (Nat.le_refl _) (Nat.zero_le _) rfl
  have h1 := h.below (hb0.mono hB)
  go_enter Tryd.func39, Tryd.ntmps39
  go_wp2_with (first
    | (at_builtin; refine wpList_append_sl rfl (.tmp 6) (.tmp 7) 22 rfl w.heap.size 5 i0 Tryd.underlying22 hi0 hz0 hz1 hz2 _ 0 [] rfl h0 rfl h1 (by omega) (by simp) ?_; intro v1 w1 ho1 hg1
       have hb1 : Below w.heap.size w w1 := hb0.grown hg1 (by simp) (fun k hk => by simp [Act.eval, Value.ownBlock] at hk; omega)
       have h2 := h'.below (hb1.mono hB')
       have hz1' := hb1.size)
    | (at_builtin; refine wpList_append_sl rfl (.tmp 9) (.tmp 10) 22 rfl w.heap.size 5 i0 Tryd.underlying22 hi0 hz0 hz1 hz2 _ (0 + n) ([] ++ l) rfl ho1 rfl h2 (by omega) hz1' ?_; intro v2 w2 ho2 hg2))
  go_ret
  obtain ⟨A2, c2, rfl⟩ := own_form ho2
  simp only [Nat.zero_add, List.nil_append] at ho2
  have hlt := ho1.lt
  refine ⟨A2, c2, ?_, ho2, hb1.grown hg2 hz1' (fun k hk => (hlt k (by simpa [Act.eval] using hk)).1)⟩
  show Ending.returned (.slice A2 (0 + n + n') c2) = _
  rw [Nat.zero_add]

/-- A row that the call owns, with bytes more: whatever guard stands before it. -/
theorem wpList_app_want {w : World} {ops : Array Oper} {rest : List Oper} {o : Oper} {a : Act} {Q : Exit → Act → World → Prop} (hw : Region.wanted o (yielded ops a.tmps) = true) (s x : Operand)
    (ho : o.op = .call { callee := .builtin .append, args := #[s, x], argTypes := #[22, 22] })
    (base : Nat) (v : Value) (n : Nat) (l0 : List UInt8) (hs : a.eval s = v) (hown : w.ownsRow base 5 1 v n (bvs l0))
    (ad : Addr) (m c : Nat) (l : List UInt8) (hx : a.eval x = .slice (some ad) m c) (hl : l.length = m) (hnews : ∀ j u, (bvs l)[j]? = some u → w.cell? (ad.add j) = some u)
    (hm : 0 < m) (h63 : n + m ≤ 1000000) (hbase : base ≤ w.heap.size)
    (h : ∀ v' w', w'.ownsRow base 5 1 v' (n + m) (bvs (l0 ++ l)) → w.grownBy w' v.ownBlock → wpList Tryd.prog ops Q rest (a.put o.dst v') w') : wpList Tryd.prog ops Q (o :: rest) a w := by
  obtain ⟨i0, hi0, hz0, hz1, hz2⟩ := info_parts info_u8
  refine wpList_want hw ?_
  have h1 := step_append_lies (P := Tryd.prog) (ops := ops) (o := { o with guard := none }) (a := a) (K := wpList Tryd.prog ops Q rest) (Q := Q) (E := True) w rfl s x 22 ho base 5 i0 (.int .u8 0) 1 1 Tryd.underlying22 hi0 hz0 hz1 hz2 rfl (by omega) v n (bvs l0) hs hown ad m c (bvs l) hx (by rw [bvs_len, hl, Nat.mul_one]) hnews (bvs_one _) hm (by unfold maxLen; omega) (by omega) hbase w.heap.size rfl
    (fun g cap w' h1 h2 _ _ => h _ w' (by unfold bvs; rw [List.map_append]; exact h1) h2)
  have hw0 : Region.wanted { o with guard := none } (yielded ops a.tmps) = true := rfl
  rw [if_pos hw0] at h1
  exact h1


theorem fill_is {n m : Nat} (h1 : n + 1 ≤ m) (h2 : m ≤ fillN n) (h3 : (m + 8) % 64 = 0) : m = fillN n := by
  have := fillN_bd n
  omega
theorem zeros_more (l : List UInt8) (k : Nat) : (l ++ 128 :: List.replicate k (0 : UInt8)) ++ [0] = l ++ 128 :: List.replicate (k + 1) 0 := by
  rw [List.append_assoc, List.cons_append, ← List.replicate_succ']

set_option maxRecDepth 100000 in
set_option maxHeartbeats 1600000 in
theorem pad_ref {A : Option Addr} {n c : Nat} {l : List UInt8} {w : World} {B : Nat} (hs : SlB w B A n c l) (hB : B ≤ w.heap.size) (hn : n ≤ 700) :
    Calls Tryd.prog 16 #[.slice A n c] w fun e w' => ∃ A' c', e = .returned (.slice A' (fillN n + 8) c') ∧ Ow w' w.heap.size A' (fillN n + 8) c' (padW l) ∧ Below w.heap.size w w' := by
  have hlen := Lib.hid hs.len
  have S0 := Lib.hid hs
  have HB0 := Lib.hid hB
  have hb1 : Below w.heap.size w (w.alloc (.cells #[.int .u8 128] 5)) := (Below.refl _ _).alloc (Nat.le_refl _) _
  have S1 := Lib.hid (hs.below (hb1.mono hB))
  have T1 := Lib.hid (one_sl w w.heap.size 128 128 rfl rfl)
  have B1 := Lib.hid hb1
  have hbd := Lib.hid (fillN_bd n)
  clear hs hB hb1
  go_enter Tryd.func16, Tryd.ntmps16
  go_wp2_with fail
  refine (both_any S1.out T1.out (by have := HB0.out; rw [World.size_alloc]; omega) (by rw [World.size_alloc]; omega) (by omega)).mono ?_
  rintro e w2 ⟨A2, c2, rfl, ho2, hb2⟩
  have B2 := Lib.hid (B1.out.trans (hb2.mono B1.out.size))
  have O2 : Hid (Ow w2 w.heap.size A2 (n + 1) c2 (l ++ 128 :: List.replicate 0 0)) := Lib.hid (Joins.ownsRow_le ho2 (by rw [World.size_alloc]; omega))
  clear ho2 hb2
  go_wp2_with fail
  go_loopw [3] (fun v wr => ∃ (k m : Nat) (A' : Option Addr) (c' : Nat), v = .slice A' m c' ∧ m = n + 1 + k ∧ m ≤ fillN n ∧ Hid (wr.ownsRow w.heap.size 5 1 (.slice A' m c') m (bvs (l ++ 128 :: List.replicate k 0))) ∧ Hid (Below w.heap.size w wr)) (fun v _ => fillN n - (match v with | .slice _ m _ => m | _ => 0))
  case atStart => exact ⟨0, n + 1, A2, c2, rfl, rfl, hbd.out.1, O2, B2⟩
  case round =>
    obtain ⟨k, m, A', c', rfl, hm, hmf, ho, hb⟩ := hrel
    have HMK := Lib.hid hm
    have HMF := Lib.hid hmf
    have hm7 : m ≤ 1000 := by have := hbd.out.2.1; omega
    have hmi : (m : Int) ≤ 1000 := by omega
    have hm0 : (0 : Int) ≤ (m : Int) := Int.natCast_nonneg _
    clear hm hmf
    obtain ⟨r, hr⟩ : ∃ r : Nat, (m + 8) % 64 = r := ⟨_, rfl⟩
    have hmod : ((m : Int) + 8).tmod 64 = (r : Int) := by rw [Int.tmod_eq_emod_of_nonneg (by omega)]; omega
    have HR := Lib.hid hr
    clear hr
    by_cases h0 : r = 0
    · subst h0
      have hmm : m = fillN n := fill_is (by have := HMK.out; omega) HMF.out HR.out
      have hmod0 : ((m : Int) + 8).tmod 64 = 0 := hmod
      have S3 := Lib.hid (S0.out.below (hb.out.mono HB0.out))
      have O3 := Lib.hid ((show Ow wr w.heap.size A' m c' (l ++ 128 :: List.replicate k 0) from ho.out).sl (Nat.le_refl _))
      have HZ := Lib.hid (show k = fillN n - n - 1 by have := HMK.out; omega)
      have HMM := Lib.hid hmm
      have hn0 : (0 : Int) ≤ (n : Int) := Int.natCast_nonneg _
      have hni : (n : Int) ≤ 700 := by omega
      clear hmm
      go_wp2_with fail
      refine (high_any 8 (n * 8) _ _ _ ?_ (by omega) rfl (by omega)).mono ?_
      · omega
      rintro e w4 ⟨A4, c4, rfl, ho4, hb4⟩
      have B4 := Lib.hid (hb.out.trans (hb4.mono hb.out.size))
      have O4 := Lib.hid (O3.out.below hb4)
      have P4 := Lib.hid (ho4.sl (Nat.le_refl _))
      have Z4 := Lib.hid hb4.size
      clear ho4 hb4
      go_wp2_with fail
      refine (both_any O4.out P4.out Z4.out (Nat.le_refl _) (by omega)).mono ?_
      rintro e w5 ⟨A5, c5, rfl, ho5, hb5⟩
      have B5 := Lib.hid (B4.out.trans (hb5.mono B4.out.size))
      have O5 : Hid (Ow w5 w.heap.size A5 (fillN n + 8) c5 (padW l)) := Lib.hid (by
        have h1 := Joins.ownsRow_le ho5 B4.out.size
        have e1 : padW l = l ++ 128 :: List.replicate k 0 ++ be 8 (n * 8) := by
          unfold padW
          rw [hlen.out, HZ.out, Nat.mul_comm n 8]
        rw [e1, ← HMM.out]
        exact h1)
      rw [HMM.out]
      clear ho5 hb5
      go_wp2
      go_ret
      exact ⟨A5, c5, rfl, O5.out, B5.out⟩
    · have hri : ((r : Int) != 0) = true := by simp; omega
      have hr0 : ¬ ((r : Int) = 0) := by omega
      have X4 := Lib.hid (ho.out.alloc (.cells #[.int .u8 0] 5))
      have E4 := Lib.hid (hb.out.alloc hb.out.size (.cells #[.int .u8 0] 5))
      have N4 : Hid (∀ j u, (bvs [0])[j]? = some u → (wr.alloc (.cells #[.int .u8 0] 5)).cell? ((⟨wr.heap.size, 0, none⟩ : Addr).add j) = some u) := Lib.hid (fun j u hu => by
        have h := Bl.cell (Bl.new wr 5 (bvs [0])) j
        rw [addr_add, Nat.zero_add]
        exact h.trans hu)
      have HNE : Hid (m + 1 ≤ fillN n) := Lib.hid (by
        have h1 := HMF.out
        by_cases e : m = fillN n
        · exfalso
          have := HR.out
          have := hbd.out.2.2
          rw [e] at *
          omega
        · omega)
      go_wp2_with (first
        | (at_builtin; with_reducible refine wpList_app_want rfl (.tmp 12) (.tmp 13) rfl w.heap.size (.slice A' m c') m (l ++ 128 :: List.replicate k 0) rfl X4.out ⟨wr.heap.size, 0, none⟩ 1 1 [0] rfl rfl N4.out (by omega) (by omega) E4.out.size ?_; intro v5 w5 ho5 hg5; obtain ⟨A5, c5, rfl⟩ := own_form ho5))
      go_roundw
      case rel => exact ⟨k + 1, m + 1, A5, c5, rfl, by have := HMK.out; omega, HNE.out, Lib.hid (by rw [← zeros_more]; exact ho5), Lib.hid (E4.out.grown hg5 E4.out.size (fun q hq => (X4.out.lt q hq).1))⟩
      case measure => simp; have := HNE.out; omega
end Go.Proofs.YtgjkahoblopddaaDoor
