/-
  THE DOCUMENT'S ROOT OF A PRIME.
-/
import Derived.Test.YtgjkahoblopddaaDoorRoot2
namespace Go.Proofs.YtgjkahoblopddaaDoor
set_option linter.unusedVariables false
set_option linter.unusedSimpArgs false
open Go.RowKit Go.WideShapes Go.ChangeShapes

theorem timesK_low (l : List Nat) (x : Nat) (hl : ∀ i, l.getD i 0 < 65536) : ∀ k, (∀ i, (timesK l x k).getD i 0 < 65536) ∧ (timesK l x k).length ≤ l.length + 3 * k
  | 0 => ⟨hl, by simp [timesK]⟩
  | k + 1 => by
    have ih := timesK_low l x hl k
    have h := timesM_low (timesK l x k) x
    exact ⟨h.1, by have := h.2; unfold timesK; omega⟩
theorem one_digit (p : Nat) (hp : p < 65536) (i : Nat) : [p].getD i 0 < 65536 := by
  cases i with
  | zero => exact hp
  | succ j => simp
theorem sln_one (w : World) (y : Nat) : SlN (w.alloc (.cells #[.int .u64 (y : Int)] 53)) (.slice (some ⟨w.heap.size, 0, none⟩) 1 1) [y] :=
  ⟨w.heap.size, 1, rfl, by simp, Nat.le_refl _, fun i hi => by
    have : i = 0 := by simp at hi; omega
    subst this
    exact Bl.cell (Bl.new w 53 [.int .u64 (y : Int)]) 0⟩
/-- Powers, while they are reckoned: the slice v is l times x, j times over. -/
structure Pw (w : World) (v : Value) (l : List Nat) (x j : Nat) (W : World) : Prop where
  sl : SlN w v (timesK l x j)
  pos : 0 < (timesK l x j).length
  below : Below W.heap.size W w

set_option maxRecDepth 100000 in
set_option maxHeartbeats 2400000 in
theorem root_any (p k : Nat) (hp : p < 65536) (hk : k ≤ 3) (P K : Int) (hP : P = (p : Int)) (hK : K = (k : Int)) (w : World) :
    Calls Tryd.prog 45 #[.int .u64 P, .int .i64 K] w fun e w' => e = .returned (.int .u32 ((rootM p k : Nat) : Int)) ∧ Below w.heap.size w w' := by
  subst hP hK
  have S0 := Lib.hid (sln_one w p)
  have B0 : Hid (Below w.heap.size w (w.alloc (.cells #[.int .u64 (p : Int)] 53))) := Lib.hid ((Below.refl _ _).alloc (Nat.le_refl _) _)
  have HP := Lib.hid hp
  have hk0 : (0 : Int) ≤ (k : Int) := Int.natCast_nonneg _
  clear hp
  go_enter Tryd.func45, Tryd.ntmps45
  go_wp2_with fail
  go_loopw [5, 6] (fun m i wr => ∃ j : Nat, j ≤ k ∧ i = .int .i64 (j : Int) ∧ Hid (Pw wr m [p] 4294967296 j w)) (fun _ i _ => k - (intOf i).toNat)
  case atStart => exact ⟨0, Nat.zero_le _, rfl, Lib.hid ⟨S0.out, by simp [timesK], B0.out⟩⟩
  case round =>
    clear S0 B0
    obtain ⟨j, hj, rfl, hS⟩ := hrel
    by_cases hlt : j < k
    · have hd : decide ((j : Int) < (k : Int)) = true := by simp; omega
      have hdn : decide (j < k) = true := by simp; omega
      have hj0 : (0 : Int) ≤ (j : Int) := Int.natCast_nonneg _
      have hj1 : (j : Int) < (k : Int) := by omega
      have HT := Lib.hid (times_any (timesK [p] 4294967296 j) (timesK_low _ _ (one_digit p HP.out) j).1 hS.out.pos (by have := (timesK_low [p] 4294967296 (one_digit p HP.out) j).2; simp at this; omega) 4294967296 (by omega) 4294967296 rfl hS.out.sl)
      have BB := Lib.hid hS.out.below
      clear hS
      go_wp2_with fail
      refine (HT.out).mono ?_
      rintro e w1 ⟨v', rfl, hs1, hp1, hb1⟩
      have N1 : Hid (Pw w1 v' [p] 4294967296 (j + 1) w) := Lib.hid ⟨hs1, hp1, BB.out.trans (hb1.mono BB.out.size)⟩
      clear hs1 hp1 hb1
      go_wp2_with fail
      go_roundw
      case rel => exact ⟨j + 1, by omega, by go_num, N1⟩
      case measure => simp [intOf]; omega
    · obtain rfl : j = k := by omega
      have hd : decide ((j : Int) < (j : Int)) = false := by simp
      have hdn : decide (j < j) = false := by simp
      obtain ⟨wo, rfl⟩ : ∃ wo : World, wo = wr := ⟨_, rfl⟩
      have hlen := (timesK_low [p] 4294967296 (one_digit p HP.out) j).2
      have HM : Hid (rootM p j = rootF (timesK [p] 4294967296 j) j 37 0 % 4294967296) := Lib.hid rfl
      have S1 := Lib.hid hS.out.sl
      have B1 := Lib.hid hS.out.below
      generalize timesK [p] 4294967296 j = most at hlen HM S1
      simp only [List.length_cons, List.length_nil] at hlen
      have HL := Lib.hid (show most.length ≤ 40 by omega)
      clear hlen hS
      go_wp2_with fail
      go_loopw [7, 8] (fun xv bv wr => ∃ x b f : Nat, xv = .int .u64 (x : Int) ∧ bv = .int .u64 (b : Int) ∧ b ≤ 68719476736 ∧ x + b ≤ 137438953472 ∧ Hid ((b = if f = 0 then 0 else 2 ^ (f - 1)) ∧ x + 2 ^ f ≤ 2 ^ 37 ∧ rootF most j f x = rootF most j 37 0) ∧ Hid (Below w.heap.size w wr ∧ Below wo.heap.size wo wr)) (fun _ b _ => (intOf b).toNat)
      case atStart => exact ⟨0, 68719476736, 37, rfl, rfl, by omega, by omega, Lib.hid ⟨by decide, by decide, rfl⟩, Lib.hid ⟨B1.out, Below.refl _ _⟩⟩
      case round =>
        obtain ⟨x, b, f, rfl, rfl, hb36, hxb, hF, hB⟩ := hrel
        have hx0 : (0 : Int) ≤ (x : Int) := Int.natCast_nonneg _
        have hb0 : (0 : Int) ≤ (b : Int) := Int.natCast_nonneg _
        have hbI : (b : Int) ≤ 68719476736 := by omega
        have hxI : (x : Int) ≤ 137438953472 := by omega
        by_cases h0 : b = 0
        · have hf0 : f = 0 := by
            have := hF.out.1
            rw [h0] at this
            by_cases hf : f = 0
            · exact hf
            · rw [if_neg hf] at this
              exact absurd this.symm (Nat.pos_iff_ne_zero.1 (Nat.two_pow_pos _))
          subst hf0
          subst h0
          have HE : Hid (rootM p j = x % 4294967296) := Lib.hid (by rw [HM.out, ← hF.out.2.2]; rfl)
          clear hF
          go_wp2_with fail
          go_ret
          exact ⟨by rw [HE.out]; go_num, hB.out.1⟩
        · have hbp : (0 : Int) < (b : Int) := by omega
          have hdb : decide ((0 : Int) < (b : Int)) = true := by simp; omega
          have hdbn : decide (0 < b) = true := by simp; omega
          obtain ⟨f', rfl⟩ : ∃ f', f = f' + 1 := ⟨f - 1, by
            have := hF.out.1
            by_cases hf : f = 0
            · rw [if_pos hf] at this; omega
            · omega⟩
          have hbe : b = 2 ^ f' := by have := hF.out.1; rw [if_neg (by omega)] at this; simpa using this
          obtain ⟨y, hy⟩ : ∃ y, x + b = y := ⟨_, rfl⟩
          have hyI : (x : Int) + (b : Int) = (y : Int) := by omega
          have hyw : IntKind.u64.wrap ((x : Int) + (b : Int)) = (y : Int) := by rw [IntKind.wrap_u64]; omega
          have hy40 : y < 1099511627776 := by omega
          have hy37 : y ≤ 137438953472 := by omega
          obtain ⟨hh, hhe⟩ : ∃ hh, b / 2 = hh := ⟨_, rfl⟩
          have hhI : (b : Int) / 2 = (hh : Int) := by omega
          have hh36 : hh ≤ 68719476736 := by omega
          have HB2 : Hid (hh = (if f' = 0 then 0 else 2 ^ (f' - 1)) ∧ 2 ^ f' = b ∧ hh < b) := Lib.hid ⟨by
            rw [← hhe, hbe]
            cases f' with
            | zero => rfl
            | succ g => rw [if_neg (by omega), Nat.pow_succ]; simp, hbe.symm, by omega⟩
          have HX : Hid (x + (b + b) ≤ 2 ^ 37) := Lib.hid (by have := hF.out.2.1; rw [Nat.pow_succ, ← hbe] at this; omega)
          have HR : Hid (rootF most j f' (if aboveM (timesK [1] y j) most then x else y) = rootF most j 37 0) := Lib.hid (by
            have := hF.out.2.2
            unfold rootF at this
            rw [← hbe, hy] at this
            exact this)
          have hxy : x ≤ y := by omega
          have HY := Lib.hid hy
          have hhb : (hh : Int) < (b : Int) := by omega
          obtain ⟨ws, hws⟩ : ∃ ws : World, ws = wr := ⟨_, rfl⟩
          have S2 := Lib.hid (sln_one wr 1)
          have B2 : Hid (Below w.heap.size w (wr.alloc (.cells #[.int .u64 1] 53)) ∧ Below wo.heap.size wo (wr.alloc (.cells #[.int .u64 1] 53))) := Lib.hid ⟨hB.out.1.alloc hB.out.1.size _, hB.out.2.alloc hB.out.2.size _⟩
          clear hF hbe hhe hB hy hws h0
          go_wp2_with fail
          go_loopw [9, 10] (fun m i wt => ∃ q : Nat, q ≤ j ∧ i = .int .i64 (q : Int) ∧ Hid (SlN wt m (timesK [1] y q) ∧ 0 < (timesK [1] y q).length) ∧ Hid (Below w.heap.size w wt ∧ Below wo.heap.size wo wt)) (fun _ i _ => j - (intOf i).toNat)
          case atStart => exact ⟨0, Nat.zero_le _, rfl, Lib.hid ⟨S2.out, by simp [timesK]⟩, B2⟩
          case round =>
            clear S2 B2
            obtain ⟨q, hq, rfl, hS, hB⟩ := hrel
            by_cases hlq : q < j
            · have hdq : decide ((q : Int) < (j : Int)) = true := by simp; omega
              have hdqn : decide (q < j) = true := by simp; omega
              have hq0 : (0 : Int) ≤ (q : Int) := Int.natCast_nonneg _
              have hq1 : (q : Int) < (j : Int) := by omega
              have HT := Lib.hid (times_any (timesK [1] y q) (timesK_low _ _ (one_digit 1 (by omega)) q).1 hS.out.2 (by have := (timesK_low [1] y (one_digit 1 (by omega)) q).2; simp at this; omega) y hy40 (y : Int) rfl hS.out.1)
              clear hS
              go_wp2_with fail
              refine (HT.out).mono ?_
              rintro e w1 ⟨v', rfl, hs1, hp1, hb1⟩
              have N1 : Hid (SlN w1 v' (timesK [1] y (q + 1)) ∧ 0 < (timesK [1] y (q + 1)).length) := Lib.hid ⟨hs1, hp1⟩
              have N2 : Hid (Below w.heap.size w w1 ∧ Below wo.heap.size wo w1) := Lib.hid ⟨hB.out.1.trans (hb1.mono hB.out.1.size), hB.out.2.trans (hb1.mono hB.out.2.size)⟩
              clear hs1 hp1 hb1
              go_wp2_with fail
              go_roundw
              case rel => exact ⟨q + 1, by omega, by go_num, N1, N2⟩
              case measure => simp [intOf]; omega
            · obtain rfl : q = j := by omega
              have hdq : decide ((q : Int) < (q : Int)) = false := by simp
              have hdqn : decide (q < q) = false := by simp
              have HA := Lib.hid (above_any (timesK [1] y q) most (by have := (timesK_low [1] y (one_digit 1 (by omega)) q).2; simp at this; omega) HL.out hS.out.1 (S1.out.below hB.out.2))
              generalize aboveM (timesK [1] y q) most = ab at HA HR
              clear hS
              go_wp2_with fail
              refine (HA.out).mono ?_
              rintro e w1 ⟨rfl, rfl⟩
              cases ab with
              | true =>
                go_wp2_with fail
                go_roundw
                case rel => exact ⟨x, hh, f', rfl, rfl, hh36, by omega, Lib.hid ⟨HB2.out.1, by rw [HB2.out.2.1]; have := HX.out; omega, HR.out⟩, hB⟩
                case measure => simp [intOf]; omega
              | false =>
                go_wp2_with fail
                go_roundw
                case rel => exact ⟨y, hh, f', rfl, rfl, hh36, by have := HX.out; have := HY.out; have := HB2.out.2.2; omega, Lib.hid ⟨HB2.out.1, by rw [HB2.out.2.1]; have := HX.out; have := HY.out; omega, HR.out⟩, hB⟩
                case measure => simp [intOf]; omega
end Go.Proofs.YtgjkahoblopddaaDoor
