/-
  LOGS: a list of entries of one's own, Data and all.
-/
import Derived.Test.YtgdcahakefmakaaGk
namespace Go.Proofs.Ytgdcahakefmakaa
set_option linter.unusedVariables false
set_option linter.unusedSimpArgs false
open Go.RowKit Go.WideShapes Go.ChangeShapes Go.Deep Go.Shelf
attribute [local irreducible] wpQuiet

/-- An entry whose Data is a block of its own, from 'base' on. -/
def Fresh (W : World) (base : Nat) (x : En) : Prop := ∃ g, x.D = ⟨some ⟨g, 0, none⟩, x.d.length, x.d.length⟩ ∧ base ≤ g ∧ Bl W g 5 (bvs x.d)
theorem Fresh.below {W W' : World} {base B : Nat} {x : En} (h : Fresh W base x) (hb : Below B W W') (hB : W.heap.size ≤ B) : Fresh W' base x := by
  obtain ⟨g, h1, h2, h3⟩ := h
  exact ⟨g, h1, h2, h3.below hb (Nat.lt_of_lt_of_le h3.lt hB)⟩
theorem Fresh.base_ {W : World} {base base' : Nat} {x : En} (h : Fresh W base x) (hb : base' ≤ base) : Fresh W base' x := by
  obtain ⟨g, h1, h2, h3⟩ := h
  exact ⟨g, h1, Nat.le_trans hb h2, h3⟩
/-- What may be of an entry's numbers, and how long its Data is. -/
def EnB (x : En) : Prop := x.t < 18446744073709551616 ∧ (-9223372036854775808 ≤ x.k ∧ x.k ≤ 9223372036854775807) ∧ x.d.length ≤ 100000
/-- A list of one's own. -/
structure OwnL (w : World) (base : Nat) (A : Option Addr) (n c : Nat) (l : List En) : Prop where
  row : w.ownsRow base 44 3 (.slice A n c) n (l.flatMap En.cells)
  f : ∀ x ∈ l, Fresh w base x
  b : ∀ x ∈ l, EnB x
theorem OwnL.below {w w' : World} {base n c : Nat} {A : Option Addr} {l : List En} (h : OwnL w base A n c l) (hb : Below w.heap.size w w') : OwnL w' base A n c l :=
  ⟨h.row.kept (row := none) (only_of_below hb none) (by cases hq : Value.ownBlock (.slice A n c) <;> simp), fun x hx => (h.f x hx).below hb (Nat.le_refl _), h.b⟩
theorem OwnL.base_ {w : World} {base base' n c : Nat} {A : Option Addr} {l : List En} (h : OwnL w base A n c l) (hb : base' ≤ base) : OwnL w base' A n c l := ⟨own_base h.row hb, fun x hx => (h.f x hx).base_ hb, h.b⟩
theorem OwnL.len {w : World} {base n c : Nat} {A : Option Addr} {l : List En} (h : OwnL w base A n c l) : l.length = n := by
  have h1 := h.row.1
  rw [flat_len en_sz] at h1
  omega
theorem Fresh.sl {W : World} {base : Nat} {x : En} (h : Fresh W base x) (hb : EnB x) : SlB W W.heap.size x.D.a x.D.n x.D.c x.d := by
  obtain ⟨g, h1, h2, h3⟩ := h
  rw [h1]
  exact h3.sl h3.lt (by have := hb.2.2; unfold maxLen; omega)
theorem OwnL.sq {w : World} {base n c : Nat} {A : Option Addr} {l : List En} (h : OwnL w base A n c l) : SqE w w.heap.size A n c l :=
  ⟨own_sq h.row en_sz (by omega), fun x hx => ⟨(h.f x hx).sl (h.b x hx), (h.b x hx).1, (h.b x hx).2.1⟩⟩
theorem flat_set3 {v : Value} {x' : En} : ∀ {l : List En} {k : Nat} (h : k < l.length), (l[k].cells.set 2 v = x'.cells) → (l.flatMap En.cells).set (k * 3 + 2) v = (l.set k x').flatMap En.cells
  | a :: r, 0, _, e => by
    simp only [List.getElem_cons_zero] at e
    rw [List.flatMap_cons, List.set_cons_zero, List.flatMap_cons, ← e]
    rw [List.set_append_left _ _ (by rw [en_sz]; omega)]
  | a :: r, k + 1, h, e => by
    have ih := flat_set3 (l := r) (k := k) (by simpa using h) (by simpa using e)
    rw [List.flatMap_cons, List.set_cons_succ, List.flatMap_cons, ← ih]
    rw [List.set_append_right _ _ (by rw [en_sz]; omega), en_sz, show (k + 1) * 3 + 2 - 3 = k * 3 + 2 by omega]
/-- The loop that copies the Data. -/
structure Jn (w : World) (base g c N : Nat) (l : List En) (k : Nat) (W : World) : Prop where
  ex : ∃ l' : List En, l'.length = N ∧ vsE l' = vsE l ∧ W.ownsRow base 44 3 (.slice (some ⟨g, 0, none⟩) N c) N (l'.flatMap En.cells) ∧ (∀ j (h : j < l'.length), j < k → Fresh W base l'[j]) ∧ (∀ j, k ≤ j → l'[j]? = l[j]?) ∧ ∀ x ∈ l', EnB x
  bel : Below base w W
  sz : base ≤ W.heap.size
theorem vsE_set {l : List En} {k : Nat} {x : En} (h : k < l.length) (e : x.v = l[k].v) : vsE (l.set k x) = vsE l := by
  unfold vsE
  rw [List.map_set]
  apply List.ext_getElem?
  intro j
  by_cases hj : k = j
  · subst hj
    rw [List.getElem?_set_self (by simpa using h), e, List.getElem?_map, List.getElem?_eq_getElem h]
    rfl
  · rw [List.getElem?_set_ne hj]
theorem Jn.step {w : World} {base g c N : Nat} {l : List En} {k : Nat} {W W5 : World} (h : Jn w base g c N l k W) (hk : k < N) {x : En} (hx : l[k]? = some x) {b : Nat} (hb : Below W.heap.size W W5) (hbb : W.heap.size ≤ b) (hd : Bl W5 b 5 (bvs x.d)) :
    Jn w base g c N l (k + 1) (W5.setCell ⟨g, k * 3 + 2, none⟩ (.slice (some ⟨b, 0, none⟩) x.d.length x.d.length)) := by
  obtain ⟨l', h1, h2, h3, h4, h5, h6⟩ := h.ex
  have hk' : k < l'.length := by omega
  have hlk : l'[k] = x := by
    have := h5 k (Nat.le_refl _)
    rw [List.getElem?_eq_getElem hk', hx] at this
    injection this
  have hg := (h3.lt g rfl)
  obtain ⟨x', hx'⟩ : ∃ x' : En, x' = ⟨x.t, x.k, ⟨some ⟨b, 0, none⟩, x.d.length, x.d.length⟩, x.d⟩ := ⟨_, rfl⟩
  have h3' : W5.ownsRow base 44 3 (.slice (some ⟨g, 0, none⟩) N c) N (l'.flatMap En.cells) := h3.kept (row := none) (only_of_below hb none) (.inr (by simp [Value.ownBlock]))
  have hs := (h3'.stored (k * 3 + 2) (.slice (some ⟨b, 0, none⟩) x.d.length x.d.length)).1
  rw [flat_set3 (x' := x') hk' (by rw [hlk, hx']; rfl)] at hs
  have hfar : ∀ y, Fresh W base y → Fresh (W5.setCell ⟨g, k * 3 + 2, none⟩ (.slice (some ⟨b, 0, none⟩) x.d.length x.d.length)) base y := fun y hy => by
    obtain ⟨q, e1, e2, e3⟩ := hy.below hb (Nat.le_refl _)
    refine ⟨q, e1, e2, e3.far ?_ _⟩
    intro e
    have e' : q = g := e
    subst e'
    rcases h3'.2 with ⟨e4, _⟩ | ⟨g', cap, cur, e4, _, hgc, _⟩
    · cases e4
    · injection e4 with e4
      injection e4 with e4
      injection e4 with e4
      subst e4
      have e3' : W5.heap[q]? = _ := e3
      rw [hgc] at e3'
      injection e3' with e3'
      injection e3' with _ e5
      cases e5
  refine ⟨⟨l'.set k x', by simpa using h1, ?_, hs, ?_, ?_, ?_⟩, ?_, ?_⟩
  · rw [vsE_set hk' (by rw [hlk, hx']; rfl)]; exact h2
  · intro j hj hjk
    by_cases e : k = j
    · subst e
      rw [List.getElem_set_self]
      refine ⟨b, by rw [hx'], ?_, ?_⟩
      · have := h.sz; omega
      · rw [hx']
        refine hd.far ?_ _
        show b ≠ g
        omega
    · rw [List.getElem_set_ne e]
      exact hfar _ (h4 j (by simpa using hj) (by omega))
  · intro j hj
    rw [List.getElem?_set_ne (by omega)]
    exact h5 j (by omega)
  · intro y hy
    rcases List.mem_or_eq_of_mem_set hy with h7 | h7
    · exact h6 y h7
    · have := h6 x (by rw [← hlk]; exact List.getElem_mem hk')
      rw [h7, hx']
      exact this
  · exact (h.bel.trans (hb.mono h.sz)).trans (below_cell hg.1 (Nat.le_trans h.sz hb.size))
  · have := hb.size
    simp [World.setCell]
    have := h.sz
    omega
end Go.Proofs.Ytgdcahakefmakaa
