/-
  CONTRACTS OF THE STATEMENTS' HELPERS: an act's kind, block and keep; some.
-/
import Derived.Test.YtionbjocfepkaaaDr
namespace Go.Proofs.Ytionbjocfepkaaa
set_option linter.unusedVariables false
open Go.RowKit Go.WideShapes Go.ChangeShapes

/-- An act, as the model holds it. -/
abbrev actV (kind n : Int) (b : UInt8) (A : Option Addr) (l c : Nat) : Value := .agg #[.int .i64 kind, .int .i64 n, .int .u8 (b.toNat : Int), .slice A l c]
def whichI (k : Int) : Int := k % 18446744073709551616 % 7
theorem which_any (kind n : Int) (b : UInt8) (A : Option Addr) (l c : Nat) (w : World) :
    Calls Try.prog 13 #[actV kind n b A l c] w fun e w' => e = .returned (.int .i64 (whichI kind)) ∧ Below w.heap.size w w' := by
  go_enter Try.func13, Try.ntmps13
  go_wp2
  go_ret
  refine ⟨ret_int ?_, (Below.refl _ _).alloc (Nat.le_refl _) _⟩
  unfold whichI
  rw [IntKind.wrap_u64, Int.tmod_eq_emod_of_nonneg (by omega), show wrap64 (kind % 18446744073709551616 % 7) = kind % 18446744073709551616 % 7 by unfold wrap64; omega]

def actB (b : UInt8) : List UInt8 := (List.range 64).map fun i => b + UInt8.ofNat (3 * i)
theorem actB_len (b : UInt8) : (actB b).length = 64 := by simp [actB]
theorem actB_at (b : UInt8) (j : Nat) (h : j < 64) : (actB b).getD j 0 = b + UInt8.ofNat (3 * j) := by
  rw [getD_of_lt (by rw [actB_len]; exact h)]
  simp [actB]

set_option maxRecDepth 100000 in
theorem block_any (kind n : Int) (b : UInt8) (A : Option Addr) (l c : Nat) (w : World) :
    Calls Try.prog 14 #[actV kind n b A l c] w fun e w' => e = .returned (.agg (bvs (actB b)).toArray) ∧ Below w.heap.size w w' := by
  have hbt : (b.toNat : Int) < 256 := by have := b.toNat_lt; omega
  have hb0 : (0 : Int) ≤ (b.toNat : Int) := by omega
  go_enter Try.func14, Try.ntmps14
  go_wp2_with (with_reducible refine al_block rfl rfl ?_)
  go_loopw [4] (fun i wr => ∃ k : Nat, k ≤ 64 ∧ i = .int .i64 (k : Int) ∧ wr.rowIs (w.heap.size + 1) 37 64 (fun j => if j < k then bv ((actB b).getD j 0) else bv 0) ∧ wr.cell? ⟨w.heap.size, 2, none⟩ = some (.int .u8 (b.toNat : Int)) ∧ Below w.heap.size w wr) (fun i _ => 64 - (intOf i).toNat)
  case atStart =>
    refine ⟨0, by omega, rfl, ?_, ?_, ?_⟩
    · have := Z64_new (w.alloc (.cells #[.int .i64 kind, .int .i64 n, .int .u8 (b.toNat : Int), .slice A l c] 35))
      have e : (w.alloc (.cells #[.int .i64 kind, .int .i64 n, .int .u8 (b.toNat : Int), .slice A l c] 35)).heap.size = w.heap.size + 1 := by simp
      rw [e] at this
      exact this.congr fun j _ => by rw [if_neg (by omega)]
    · exact (cell_alloc_old (by simp)).trans (Bl.cell (Bl.new w 35 [.int .i64 kind, .int .i64 n, .int .u8 (b.toNat : Int), .slice A l c]) 2)
    · exact ((Below.refl _ _).alloc (Nat.le_refl _) _).alloc (by simp) _
  case round =>
    obtain ⟨k, hk, rfl, hrow, hc, hbel⟩ := hrel
    by_cases hlt : k < 64
    · have hd : decide ((k : Int) < 64) = true := by simp; omega
      have hk0 : (0 : Int) ≤ (k : Int) := Int.natCast_nonneg _
      have hk1 : (k : Int) < 64 := by omega
      have c1 := hrow.cell (i := k) (by omega)
      have f1 := hrow.frozen k
      have HROW := Lib.hid hrow
      clear hrow
      go_wp2
      go_roundw
      case rel =>
        refine ⟨k + 1, by omega, by go_num, (HROW.out.set k _).congr fun j hj => ?_, ?_, hbel.setCell (by simp) _⟩
        · by_cases hjk : j = k
          · subst hjk
            rw [if_pos rfl, if_pos (by omega), actB_at b j hlt]
            simp only [bv, UInt8.toNat_add, UInt8.toNat_ofNat']
            congr 1
            omega
          · rw [if_neg hjk]
            by_cases h1 : j < k
            · rw [if_pos h1, if_pos (by omega)]
            · rw [if_neg h1, if_neg (by omega)]
        · exact (World.cell?_of_block (a := ⟨w.heap.size, 2, none⟩) (Below.heap_setCell wr ⟨w.heap.size + 1, k, none⟩ _ w.heap.size (by simp))).trans hc
      case measure => simp [intOf]; omega
    · have hd : decide ((k : Int) < 64) = false := by simp; omega
      have hk64 : k = 64 := by omega
      have HL := Lib.hid (actB_len b)
      have R := rowIs_range hrow 0 (bvs (actB b)) (fun j v hv => by
        obtain ⟨hj, rfl⟩ := bvs_at _ _ _ hv
        have hj' : j < 64 := by rw [actB_len] at hj; exact hj
        rw [Nat.zero_add]
        exact ⟨hj', by rw [if_pos (by omega), getD_of_lt hj]⟩)
      have T := rowIs_there hrow 0 64 (by omega)
      clear hrow hk64 hc
      go_wp2_with (first
        | (with_reducible refine ld_block rfl _ rfl (w.heap.size + 1) 0 (actB b) HL rfl R ?_)
        | (with_reducible refine st_block rfl _ _ rfl (w.heap.size + 1) 0 (actB b) HL rfl rfl T ?_))
      exact bodyPost_ret (results_cell_mid rfl _ _ (w.heap.size + 1) 0 (bvs (actB b)) _ rfl (there_set HL.out T) Try.underlying37 rfl (size_of HL.out)) rfl ⟨rfl, below_setCells hbel (by omega) _ _⟩

set_option maxRecDepth 100000 in
theorem keep_any {w : World} {B : Nat} (kind n : Int) (b : UInt8) {A : Option Addr} {l c : Nat} {ks : List Bool} (hs : SlV w B A l c (bls ks)) (hB : B ≤ w.heap.size) :
    Calls Try.prog 27 #[actV kind n b A l c] w fun e w' => ∃ A' c', e = .returned (.slice A' (ks.take 200).length c') ∧ SlV w' w'.heap.size A' (ks.take 200).length c' (bls (ks.take 200)) ∧ (∀ x, A' = some x → w.heap.size ≤ x.block) ∧ Below w.heap.size w w' := by
  have hl : ks.length = l := by simpa [bls] using hs.len
  have hb1 : Below w.heap.size w (w.alloc (.cells #[.int .i64 kind, .int .i64 n, .int .u8 (b.toNat : Int), .slice A l c] 35)) := (Below.refl _ _).alloc (Nat.le_refl _) _
  have hlm : (ks.take 200).length = min l 200 := by rw [List.length_take, hl, Nat.min_comm]
  have hs2 := ((hs.take (k := min l 200) (Nat.min_le_left _ _)).more hB).below hb1
  have htk : (bls ks).take (min l 200) = bls (ks.take 200) := by
    rw [bls, ← List.map_take, ← bls]
    congr 1
    rw [← hl, Nat.min_comm, ← List.take_take, List.take_length]
  rw [htk] at hs2
  have hcl := clone_bool hs2 (by simp) (fun u hu => by simp only [bls, List.mem_map] at hu; obtain ⟨x, _, rfl⟩ := hu; rfl) (by omega)
  have hlc := hs.cap
  have hmx := hs.max
  unfold maxLen at hmx
  have fin : ∀ m : Nat, min l 200 = m → (m ≤ l) → (l ≤ 200 ∧ m = l ∨ 200 < l ∧ m = 200) → Calls Try.prog 27 #[actV kind n b A l c] w fun e w' => ∃ A' c', e = .returned (.slice A' (ks.take 200).length c') ∧ SlV w' w'.heap.size A' (ks.take 200).length c' (bls (ks.take 200)) ∧ (∀ x, A' = some x → w.heap.size ≤ x.block) ∧ Below w.heap.size w w' := by
    intro m hm hml hmc
    rw [hm] at hcl hlm
    have HC := Lib.hid hcl
    have HL := Lib.hid hlm
    have hl0 : (0 : Int) ≤ (l : Int) := Int.natCast_nonneg _
    clear hcl hlm hl hs hs2 htk hm
    rcases hmc with ⟨h1, rfl⟩ | ⟨h1, rfl⟩
    · have h1' : (m : Int) ≤ 200 := by omega
      go_enter Try.func27, Try.ntmps27
      go_wp2_with (go_at_call 18; refine (HC.out).mono ?_; rintro e w' ⟨v, rfl, ho, hb⟩)
      go_ret
      obtain ⟨A', c', rfl⟩ := own_form ho
      rw [HL.out]
      refine ⟨A', c', rfl, own_slv ho, fun x hx => ?_, hb1.trans (hb.mono (by simp))⟩
      subst hx
      have := (ho.lt x.block rfl).1
      simp at this
      omega
    · have h1' : (200 : Int) < (l : Int) := by omega
      go_enter Try.func27, Try.ntmps27
      go_wp2_with (go_at_call 18; refine (HC.out).mono ?_; rintro e w' ⟨v, rfl, ho, hb⟩)
      go_ret
      obtain ⟨A', c', rfl⟩ := own_form ho
      rw [HL.out]
      refine ⟨A', c', rfl, own_slv ho, fun x hx => ?_, hb1.trans (hb.mono (by simp))⟩
      subst hx
      have := (ho.lt x.block rfl).1
      simp at this
      omega
  exact fin _ rfl (Nat.min_le_left _ _) (by omega)
theorem keep_any2 {w : World} {B : Nat} (kind n : Int) (b : UInt8) {A : Option Addr} {l c : Nat} {ks : List Bool} (hs : SlV w B A l c (bls ks)) (hB : B ≤ w.heap.size) :
    Calls Try.prog 27 #[actV kind n b A l c] w fun e w' => ∃ A' n' c', e = .returned (.slice A' n' c') ∧ SlV w' w'.heap.size A' n' c' (bls (ks.take 200)) ∧ (∀ x, A' = some x → w.heap.size ≤ x.block) ∧ Below w.heap.size w w' :=
  (keep_any kind n b hs hB).mono fun e w' ⟨A', c', he, h⟩ => ⟨A', _, c', he, h⟩
end Go.Proofs.Ytionbjocfepkaaa
