/-
  WHAT SIX SECTORS HOLD: the statements' helper, and two of them compared.
-/
import Derived.Test.YtionbjocfepkaaaLawc
import Derived.Test.YtionbjocfepkaaaPure
namespace Go.Proofs.Ytionbjocfepkaaa
set_option linter.unusedVariables false
open Go.RowKit Go.WideShapes Go.ChangeShapes Go.Deep

theorem size_six : (Try.prog.info? 50).map (·.size) = some 384 := by kernel_rfl
def Z6 : Array Value := (bvs (List.replicate 384 0)).toArray
theorem zero_six (w : World) : (zeroValue 50).run Try.prog w = .ok (.agg Z6) w := by kernel_rfl
theorem Z6_new (w : World) : (w.alloc (.cells Z6 50)).rowIs w.heap.size 50 384 (fun _ => bv 0) := by
  have hs : Z6.size = 384 := by simp only [Z6, List.size_toArray, bvs_len, List.length_replicate]
  have h := World.rowIs_alloc w Z6 50 (fun _ => bv 0) (fun i hi => by
    rw [hs] at hi
    simp only [Z6, List.getElem?_toArray, bvs, List.getElem?_map, List.getElem?_replicate, if_pos hi, Option.map_some])
  rwa [hs] at h

/-- The bytes of six blocks, side by side. -/
def sixB (f : Nat → List UInt8) : List UInt8 := (List.range 6).flatMap f
theorem flat_len (f : Nat → List UInt8) (hf : ∀ i, (f i).length = 64) : ∀ n, ((List.range n).flatMap f).length = n * 64
  | 0 => rfl
  | n + 1 => by
    rw [List.range_succ, List.flatMap_append, List.length_append, flat_len f hf n]
    simp [hf]
    omega
theorem flat_at (f : Nat → List UInt8) (hf : ∀ i, (f i).length = 64) : ∀ n k, k < n * 64 → ((List.range n).flatMap f).getD k 0 = (f (k / 64)).getD (k % 64) 0
  | 0, k, h => by omega
  | n + 1, k, h => by
    rw [List.range_succ, List.flatMap_append, List.getD_eq_getElem?_getD]
    by_cases hk : k < n * 64
    · rw [List.getElem?_append_left (by rw [flat_len f hf]; exact hk), ← List.getD_eq_getElem?_getD, flat_at f hf n k hk]
    · rw [List.getElem?_append_right (by rw [flat_len f hf]; omega), flat_len f hf]
      simp only [List.flatMap_cons, List.flatMap_nil, List.append_nil]
      rw [← List.getD_eq_getElem?_getD, show k / 64 = n by omega, show k % 64 = k - n * 64 by omega]
theorem sixB_len (f : Nat → List UInt8) (hf : ∀ i, (f i).length = 64) : (sixB f).length = 384 := flat_len f hf 6
/-- A row of six blocks, the first k of f. -/
def sixF (f : Nat → List UInt8) (j : Nat) : Value := bv ((f (j / 64)).getD (j % 64) 0)
theorem six_range {w : World} {b : Nat} {t : TypeId} {f : Nat → List UInt8} (hf : ∀ i, (f i).length = 64) (h : w.rowIs b t 384 (sixF f)) : w.rangeAt b 0 (bvs (sixB f)) := by
  refine rowIs_range h 0 _ fun j v hv => ?_
  obtain ⟨hj, rfl⟩ := bvs_at _ _ _ hv
  have hj' : j < 6 * 64 := by rw [sixB_len f hf] at hj; omega
  rw [Nat.zero_add]
  refine ⟨by omega, ?_⟩
  unfold sixF
  rw [← flat_at f hf 6 j hj', ← getD_of_lt (d := 0) hj]
  rfl
theorem size_of6 {f : Nat → List UInt8} (hf : ∀ i, (f i).length = 64) : (Try.prog.info? 50).map (·.size) = some (bvs (sixB f)).length := by rw [bvs_len, sixB_len f hf]; exact size_six

theorem al_six {ops : Array Oper} {rest : List Oper} {op : Oper} {a : Act} {w : World} {Q : Exit → Act → World → Prop} (hgd : op.guard = none) (ho : op.op = .alloc 50)
    (h : wpList Try.prog ops Q rest (a.put op.dst (.pointer (some ⟨w.heap.size, 0, none⟩))) (w.alloc (.cells Z6 50))) : wpList Try.prog ops Q (op :: rest) a w :=
  wpList_alloc_as hgd _ ho Z6 zero_six h
theorem ld_six {ops : Array Oper} {rest : List Oper} {op : Oper} {a : Act} {w : World} {Q : Exit → Act → World → Prop} (hw : Region.wanted op (yielded ops a.tmps) = true) (x : Operand) (ho : op.op = .load 50 x)
    (b : Nat) (f : Nat → List UInt8) (hf : Hid (∀ i, (f i).length = 64)) (hx : a.eval x = .pointer (some ⟨b, 0, none⟩)) (hc : w.rangeAt b 0 (bvs (sixB f)))
    (h : wpList Try.prog ops Q rest (a.put op.dst (.agg (bvs (sixB f)).toArray)) w) : wpList Try.prog ops Q (op :: rest) a w :=
  wpList_want hw (wp_load_mid _ x ho b 0 hx (bvs (sixB f)) _ hc Try.underlying50 rfl (size_of6 hf.out) h)
theorem st_six {ops : Array Oper} {rest : List Oper} {op : Oper} {a : Act} {w : World} {Q : Exit → Act → World → Prop} (hgd : op.guard = none) (x y : Operand) (ho : op.op = .store 50 x y)
    (b : Nat) (f : Nat → List UInt8) (hf : Hid (∀ i, (f i).length = 64)) (hx : a.eval x = .pointer (some ⟨b, 0, none⟩)) (hy : a.eval y = .agg (bvs (sixB f)).toArray) (ht : w.there b 0 384)
    (h : wpList Try.prog ops Q rest (a.put op.dst undef) (w.setCells b 0 (bvs (sixB f)))) : wpList Try.prog ops Q (op :: rest) a w :=
  wpList_store_mid hgd _ x y ho b 0 (bvs (sixB f)).toArray hx hy (by have e := bvs_len (sixB f); rw [sixB_len f hf.out] at e; simpa [e] using ht) (by have := size_of6 hf.out; simpa using this) bvs_all h
theorem six_set {w : World} {b : Nat} {f : Nat → List UInt8} (hf : ∀ i, (f i).length = 64) (ht : w.there b 0 384) : (w.setCells b 0 (bvs (sixB f))).rangeAt b 0 (bvs (sixB f)) := World.rangeAt_setCells_same _ _ _ _ (by rw [bvs_len, sixB_len f hf]; exact ht)
end Go.Proofs.Ytionbjocfepkaaa
