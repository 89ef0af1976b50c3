/-
  WHAT THE LAWS OF LAYER 1 HAVE IN COMMON: 'wakes' answers true; 'own' is a copy of at most 600 bytes.
-/
import Derived.Test.YthionkcnmkhopaaOct4
namespace Go.Proofs.Ythionkcnmkhopaa
set_option linter.unusedVariables false
open Go.RowKit Go.WideShapes Go.ChangeShapes

/-- THE SLICE '.slice A n c' IS THE CALL's OWN, from block 'base' on, and reads as l. -/
def Ow (w : World) (base : Nat) (A : Option Addr) (n c : Nat) (l : List UInt8) : Prop := w.ownsRow base 5 1 (.slice A n c) n (bvs l)
theorem Ow.sl {w : World} {base n c B : Nat} {A : Option Addr} {l : List UInt8} (h : Ow w base A n c l) (hB : w.heap.size ≤ B) : SlB w B A n c l := by
  obtain ⟨h1, h2⟩ := h
  rw [bvs_len, Nat.mul_one] at h1
  rcases h2 with ⟨h2, h3⟩ | ⟨g, cap, cur, hv, hb, hh, hn, hc, hs, ht⟩
  · injection h2 with e1 e2 e3
    subst e1 e2 e3
    exact ⟨h1, Nat.le_refl _, Nat.zero_le _, fun _ => rfl, fun h => absurd h (by omega)⟩
  · injection hv with e1 e2 e3
    subst e1 e3
    refine ⟨h1, hn, hc, fun e => (by cases e), fun h0 => ⟨g, 0, rfl, by have := (Array.getElem?_eq_some_iff.1 hh).1; omega, fun j hj => ?_⟩⟩
    rw [Nat.zero_add, cell_of_row w g j cur _ (0, 0) hh]
    have h4 : (bvs l)[j]? = some (bv l[j]) := by simp [bvs, List.getElem?_eq_getElem hj]
    rw [← ht, List.getElem?_take] at h4
    split at h4
    · simpa using h4
    · cases h4
theorem Ow.len {w : World} {base n c : Nat} {A : Option Addr} {l : List UInt8} (h : Ow w base A n c l) : l.length = n := by
  have h1 := h.1
  rwa [bvs_len, Nat.mul_one] at h1
theorem Ow.below {w w' : World} {base n c B : Nat} {A : Option Addr} {l : List UInt8} (h : Ow w base A n c l) (hb : Below B w w') (hB : w.heap.size ≤ B) : Ow w' base A n c l :=
  h.kept (w' := w') (row := none) ⟨hb.os, hb.tape, hb.output, hb.size, fun k hk _ => hb.block k (by omega)⟩ (by cases hv : Value.ownBlock (.slice A n c) <;> simp)

/-- A row that was just written out. -/
theorem lit_at (w : World) (b : Nat) (l : List UInt8) (hb : b = w.heap.size) (hl : l.length ≤ 1000) : SlB (w.alloc (.cells (bvs l).toArray 5)) (b + 1) (some ⟨b, 0, none⟩) l.length l.length l := by
  subst hb
  exact Bl.sl (Bl.new w 5 (bvs l)) (Nat.lt_succ_self _) (by unfold maxLen; omega)
theorem lit_sl (w : World) (l : List UInt8) (hl : l.length ≤ 1000) : SlB (w.alloc (.cells (bvs l).toArray 5)) (w.heap.size + 1) (some ⟨w.heap.size, 0, none⟩) l.length l.length l :=
  Bl.sl (Bl.new w 5 (bvs l)) (Nat.lt_succ_self _) (by unfold maxLen; omega)

end Go.Proofs.Ythionkcnmkhopaa
