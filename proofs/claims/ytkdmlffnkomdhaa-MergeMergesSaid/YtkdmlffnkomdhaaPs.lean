/-
  PATHS BY With, PURE: what rises goes on rising, and has what it had and the text.
-/
import Derived.Test.YtkdmlffnkomdhaaPt
import Derived.Test.YtkdmlffnkomdhaaPx
namespace Go.Proofs.Ytkdmlffnkomdhaa
set_option linter.unusedVariables false
set_option linter.unusedSimpArgs false

theorem stepW_mem (s : ByteArray) : ∀ (l : List ByteArray) (f : Bool) (a : List ByteArray) (x : ByteArray), x ∈ (l.foldl (stepW s) (f, a)).2 ↔ x ∈ a ∨ x ∈ l ∨ (x = s ∧ f = false ∧ (l.foldl (stepW s) (f, a)).1 = true)
  | [], f, a, x => by
    cases f <;> simp
  | y :: r, true, a, x => by
    rw [List.foldl_cons, show stepW s (true, a) y = (true, a ++ [y]) from rfl, stepW_mem s r true (a ++ [y]) x]
    simp
    grind
  | y :: r, false, a, x => by
    rw [List.foldl_cons]
    cases hlt : lt s y with
    | true =>
      rw [show stepW s (false, a) y = (true, a ++ [s] ++ [y]) from by unfold stepW; rw [if_pos ⟨rfl, hlt⟩], stepW_mem s r true (a ++ [s] ++ [y]) x]
      have hT : ∀ (l : List ByteArray) (b : List ByteArray), (l.foldl (stepW s) (true, b)).1 = true := by
        intro l
        induction l with
        | nil => intro b; rfl
        | cons z t ih => intro b; rw [List.foldl_cons]; exact ih _
      rw [hT]
      simp
      grind
    | false =>
      rw [show stepW s (false, a) y = (false, a ++ [y]) from by unfold stepW; rw [if_neg (by rw [hlt]; simp)], stepW_mem s r false (a ++ [y]) x]
      simp
      grind
theorem withW_mem (l : List ByteArray) (s x : ByteArray) : x ∈ withW l s ↔ x ∈ l ∨ x = s := by
  unfold withW stW
  have h := stepW_mem s l false [] x
  by_cases hx : l.any (fun x => x.toList == s.toList) = true
  · rw [if_pos hx]
    obtain ⟨y, hy, he⟩ := List.any_eq_true.1 hx
    have he : y = s := bytes_ext (by simpa using he)
    subst he
    constructor
    · exact fun h => .inl h
    · rintro (h | rfl)
      · exact h
      · exact hy
  · rw [if_neg hx]
    cases hq : (l.foldl (stepW s) (false, [])).1 with
    | true => rw [if_pos rfl, h, hq]; simp
    | false =>
      rw [if_neg (by simp), List.mem_append, h, hq]
      simp
theorem stepW_up (s : ByteArray) : ∀ (l : List ByteArray) (f : Bool) (a : List ByteArray), (a ++ l).Pairwise (fun x y => lt x y = true) → (∀ x ∈ l, x ≠ s) → (f = false → ∀ x ∈ a, lt x s = true) → (f = true → True) →
    ((l.foldl (stepW s) (f, a)).2.Pairwise (fun x y => lt x y = true) ∧ ((l.foldl (stepW s) (f, a)).1 = false → ∀ x ∈ (l.foldl (stepW s) (f, a)).2, lt x s = true))
  | [], f, a, h, hn, ha, _ => ⟨by simpa using h, fun e => ha e⟩
  | y :: r, true, a, h, hn, ha, _ => by
    rw [List.foldl_cons, show stepW s (true, a) y = (true, a ++ [y]) from rfl]
    exact stepW_up s r true (a ++ [y]) (by simpa using h) (fun x hx => hn x (List.mem_cons_of_mem _ hx)) (fun e => by cases e) (fun _ => trivial)
  | y :: r, false, a, h, hn, ha, _ => by
    rw [List.foldl_cons]
    cases hlt : lt s y with
    | true =>
      rw [show stepW s (false, a) y = (true, a ++ [s] ++ [y]) from by unfold stepW; rw [if_pos ⟨rfl, hlt⟩]]
      refine stepW_up s r true (a ++ [s] ++ [y]) ?_ (fun x hx => hn x (List.mem_cons_of_mem _ hx)) (fun e => by cases e) (fun _ => trivial)
      rw [List.pairwise_append] at h
      obtain ⟨h1, h2, h3⟩ := h
      have h2' := List.pairwise_cons.1 h2
      rw [List.append_assoc, List.append_assoc, List.pairwise_append]
      refine ⟨h1, ?_, ?_⟩
      · rw [List.singleton_append, List.singleton_append, List.pairwise_cons]
        refine ⟨fun z hz => ?_, h2⟩
        rcases List.mem_cons.1 hz with rfl | hz
        · exact hlt
        · exact lt_trans' hlt (h2'.1 z hz)
      · intro x hx z hz
        rw [List.singleton_append, List.singleton_append] at hz
        rcases List.mem_cons.1 hz with rfl | hz
        · exact ha rfl x hx
        · exact h3 x hx z hz
    | false =>
      rw [show stepW s (false, a) y = (false, a ++ [y]) from by unfold stepW; rw [if_neg (by rw [hlt]; simp)]]
      refine stepW_up s r false (a ++ [y]) (by simpa using h) (fun x hx => hn x (List.mem_cons_of_mem _ hx)) (fun _ x hx => ?_) (fun e => by cases e)
      rcases List.mem_append.1 hx with hx | hx
      · exact ha rfl x hx
      · obtain rfl := List.mem_singleton.1 hx
        cases h5 : lt x s with
        | true => rfl
        | false => exact absurd (lt_eq h5 hlt) (hn x (List.mem_cons_self ..))
theorem withW_up {l : List ByteArray} {s : ByteArray} (h : l.Pairwise (fun x y => lt x y = true)) : (withW l s).Pairwise (fun x y => lt x y = true) := by
  unfold withW stW
  by_cases hx : l.any (fun x => x.toList == s.toList) = true
  · rw [if_pos hx]; exact h
  · rw [if_neg hx]
    have hn : ∀ x ∈ l, x ≠ s := fun x hx' e => hx (List.any_eq_true.2 ⟨x, hx', by simp [e]⟩)
    obtain ⟨h1, h2⟩ := stepW_up s l false [] (by simpa using h) hn (fun _ x hx => by cases hx) (fun _ => trivial)
    cases hq : (l.foldl (stepW s) (false, [])).1 with
    | true => rw [if_pos rfl]; exact h1
    | false =>
      rw [if_neg (by simp), List.pairwise_append]
      refine ⟨h1, by simp, fun x hx z hz => ?_⟩
      obtain rfl := List.mem_singleton.1 hz
      exact h2 hq x hx
theorem pathsW_up {α : Type} {p : α → ByteArray} : ∀ (m : List α) (l : List ByteArray), l.Pairwise (fun x y => lt x y = true) → (pathsW p l m).Pairwise (fun x y => lt x y = true)
  | [], l, h => h
  | r :: m, l, h => pathsW_up m (withW l (p r)) (withW_up h)
theorem pathsW_mem {α : Type} {p : α → ByteArray} (x : ByteArray) : ∀ (m : List α) (l : List ByteArray), x ∈ pathsW p l m ↔ x ∈ l ∨ ∃ r ∈ m, p r = x
  | [], l => by simp [pathsW]
  | r :: m, l => by
    rw [show pathsW p l (r :: m) = pathsW p (withW l (p r)) m from rfl, pathsW_mem x m (withW l (p r)), withW_mem]
    simp only [List.mem_cons, exists_eq_or_imp]
    constructor
    · rintro ((h | h) | h)
      · exact .inl h
      · exact .inr (.inl h.symm)
      · exact .inr (.inr h)
    · rintro (h | h | h)
      · exact .inl (.inl h)
      · exact .inl (.inr h.symm)
      · exact .inr h
end Go.Proofs.Ytkdmlffnkomdhaa
