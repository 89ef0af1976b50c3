/-
  THE DOCUMENT'S ROOTS, AS NUMBERS (pure).
-/
import Derived.Test.YtgjkahoblopddaaDoorRoot
namespace Go.Proofs.YtgjkahoblopddaaDoor
set_option linter.unusedVariables false
set_option linter.unusedSimpArgs false
open Go.RowKit Go.WideShapes Go.ChangeShapes

theorem timesF_low (l : List Nat) (x : Nat) : ∀ (f i c : Nat) (out : List Nat), (∀ d ∈ out, d < 65536) → (∀ d ∈ timesF l x f i c out, d < 65536) ∧ (timesF l x f i c out).length ≤ out.length + f
  | 0, i, c, out, h => ⟨h, by unfold timesF; omega⟩
  | f + 1, i, c, out, h => by
    unfold timesF
    split
    · have ih := timesF_low l x f (i + 1) ((c + l.getD i 0 * x) / 65536) (out ++ [(c + l.getD i 0 * x) % 65536]) (fun d hd => by
        rcases List.mem_append.1 hd with h1 | h1
        · exact h d h1
        · rw [List.mem_singleton.1 h1]; omega)
      rw [List.length_append, List.length_singleton] at ih
      exact ⟨ih.1, by omega⟩
    · split
      · have ih := timesF_low l x f (i + 1) (c / 65536) (out ++ [c % 65536]) (fun d hd => by
          rcases List.mem_append.1 hd with h1 | h1
          · exact h d h1
          · rw [List.mem_singleton.1 h1]; omega)
        rw [List.length_append, List.length_singleton] at ih
        exact ⟨ih.1, by omega⟩
      · exact ⟨h, by omega⟩
theorem timesM_low (l : List Nat) (x : Nat) : (∀ i, (timesM l x).getD i 0 < 65536) ∧ (timesM l x).length ≤ l.length + 3 := by
  have h := timesF_low l x (l.length + 3) 0 0 [] (by simp)
  refine ⟨fun i => ?_, by have := h.2; simpa [timesM] using this⟩
  rw [List.getD_eq_getElem?_getD]
  by_cases hi : i < (timesM l x).length
  · rw [List.getElem?_eq_getElem hi]
    exact h.1 _ (List.getElem_mem hi)
  · rw [List.getElem?_eq_none (by omega)]
    show 0 < 65536
    omega
/-- k times x, onto l. -/
def timesK (l : List Nat) (x : Nat) : Nat → List Nat
  | 0 => l
  | k + 1 => timesM (timesK l x k) x
def rootF (most : List Nat) (k : Nat) : Nat → Nat → Nat
  | 0, x => x
  | f + 1, x => rootF most k f (if aboveM (timesK [1] (x + 2 ^ f) k) most then x else x + 2 ^ f)
def rootM (p k : Nat) : Nat := rootF (timesK [p] 4294967296 k) k 37 0 % 4294967296
/-- The words by the k-th roots of the first n primes: the loop from p on, with so much fuel. -/
def wordsF (n k : Nat) : Nat → Nat → List Nat → List Nat
  | 0, _, out => out
  | f + 1, p, out => if out.length < n then wordsF n k f (p + 1) (if primeM p then out ++ [rootM p k] else out) else out
def wordsM (n k : Nat) : List Nat := wordsF n k 400 2 []
set_option maxRecDepth 100000 in
theorem cubes_all : wordsM 64 3 = ksW.map (·.toNat) := by decide +kernel
set_option maxRecDepth 100000 in
theorem squares_all : wordsM 8 2 = startW.list.map (·.toNat) := by decide +kernel
end Go.Proofs.YtgjkahoblopddaaDoor
