/-
  LOGS, PURE: what a cut keeps.
-/
import Derived.Test.YtoknigpdphfocaaPm2
namespace Go.Proofs.Ytoknigpdphfocaa
set_option linter.unusedVariables false
set_option linter.unusedSimpArgs false
section
variable {l : Lg} {k u j : Nat}
/-- What stands behind a place. -/
def cutL (l : Lg) (k u : Nat) : Lg := ⟨k, u, l.es.drop (k - l.bi)⟩
theorem right_base (h : isLogW l = true) : (l.bi = 0 ↔ l.bt = 0) ∧ l.es.length ≤ 16 ∧ l.bi ≤ topI ∧ l.bi + l.es.length ≤ topI ∧ riseE l.bt l.es = true := by
  unfold isLogW mayW at h
  simp only [Bool.and_eq_true, decide_eq_true_eq, beq_iff_eq, decide_eq_decide] at h
  unfold topI at h ⊢
  exact ⟨h.1, h.2.1, by omega, by omega, h.2.2.2.2⟩
theorem right_of (h0 : l.bi = 0 ↔ l.bt = 0) (h1 : l.es.length ≤ 16) (h2 : l.bi + l.es.length ≤ topI) (h3 : riseE l.bt l.es = true) : isLogW l = true := by
  unfold isLogW mayW
  simp only [Bool.and_eq_true, decide_eq_true_eq, beq_iff_eq, decide_eq_decide]
  unfold topI at h2 ⊢
  exact ⟨h0, h1, by omega, by omega, h3⟩
theorem place_pos (h : isLogW l = true) (hp : placeW l k = some u) : k = 0 ↔ u = 0 := by
  obtain ⟨h0, h1, h2, h3, h4⟩ := right_base h
  obtain ⟨g1, g2, g3⟩ := placeW_some hp
  unfold lastI at g2
  rcases Nat.lt_or_ge l.bi k with hk | hk
  · have : 0 < u := by
      have h5 : k - l.bi - 1 < l.es.length := by omega
      have h6 := lastT_take (f := l.bt) h5
      rw [show k - l.bi - 1 + 1 = k - l.bi by omega, ← g3] at h6
      rw [h6]
      exact okE_pos (riseE_mem h4 _ (List.getElem_mem h5)).1
    omega
  · have hk : k = l.bi := by omega
    subst hk
    rw [Nat.sub_self, List.take_zero] at g3
    rw [g3]
    exact h0
theorem cut_right (h : isLogW l = true) (hp : placeW l k = some u) : isLogW (cutL l k u) = true := by
  obtain ⟨h0, h1, h2, h3, h4⟩ := right_base h
  obtain ⟨g1, g2, g3⟩ := placeW_some hp
  unfold lastI at g2
  refine right_of (place_pos h hp) ?_ ?_ ?_
  · show (l.es.drop (k - l.bi)).length ≤ 16
    rw [List.length_drop]; omega
  · show k + (l.es.drop (k - l.bi)).length ≤ topI
    rw [List.length_drop]; omega
  · show riseE u (l.es.drop (k - l.bi)) = true
    rw [g3]
    exact rise_drop h4 _
theorem cut_lastI (hp : placeW l k = some u) : lastI (cutL l k u) = lastI l := by
  obtain ⟨g1, g2, g3⟩ := placeW_some hp
  unfold lastI at g2 ⊢
  show k + (l.es.drop (k - l.bi)).length = l.bi + l.es.length
  rw [List.length_drop]; omega
theorem cut_lastT (hp : placeW l k = some u) : lastT u (l.es.drop (k - l.bi)) = lastT l.bt l.es := by
  obtain ⟨g1, g2, g3⟩ := placeW_some hp
  have := lastT_app (f := l.bt) (a := l.es.take (k - l.bi)) (b := l.es.drop (k - l.bi))
  rw [List.take_append_drop] at this
  rw [this, g3]
theorem cut_place (hp : placeW l k = some u) (hj : k ≤ j) : placeW (cutL l k u) j = placeW l j := by
  obtain ⟨g1, g2, g3⟩ := placeW_some hp
  rcases Nat.lt_or_ge (lastI l) j with h | h
  · rw [placeW_none.2 (.inr (by rw [cut_lastI hp]; exact h)), placeW_none.2 (.inr h)]
  · rw [placeW_at (by show k ≤ j; exact hj) (by rw [cut_lastI hp]; exact h), placeW_at (by omega) h]
    show some (lastT u ((l.es.drop (k - l.bi)).take (j - k))) = _
    have := lastT_app (f := l.bt) (a := l.es.take (k - l.bi)) (b := (l.es.drop (k - l.bi)).take (j - k))
    rw [← g3] at this
    rw [← this, ← List.take_add, show k - l.bi + (j - k) = j - l.bi by omega]
theorem cut_none (hj : j < k) : placeW (cutL l k u) j = none := placeW_none.2 (.inl (by show j < k; exact hj))
/-- One entry from an index on. -/
theorem from_one (h : isLogW l = true) (h1 : l.bi < j) (h2 : j ≤ lastI l) : ∃ u e, l.es[j - l.bi - 1]? = some e ∧ placeW l (j - 1) = some u ∧ fromW l j 1 = ((j - 1, u), [e], 0) := by
  have h2' := h2
  unfold lastI at h2'
  have h3 : j - l.bi - 1 < l.es.length := by omega
  refine ⟨_, l.es[j - l.bi - 1], List.getElem?_eq_getElem h3, placeW_at (by omega) (by omega), ?_⟩
  unfold fromW
  rw [if_neg (by rw [h]; simp), if_neg (by omega), placeW_at (by omega) (by omega)]
  simp only []
  rw [if_neg (by omega)]
  have h4 : j - 1 - l.bi = j - l.bi - 1 := by omega
  rw [h4, List.drop_eq_getElem_cons h3]
  rfl
theorem cut_get (hp : placeW l k = some u) (hj : k < j) : (cutL l k u).es[j - k - 1]? = l.es[j - l.bi - 1]? := by
  obtain ⟨g1, g2, g3⟩ := placeW_some hp
  show (l.es.drop (k - l.bi))[j - k - 1]? = _
  rw [List.getElem?_drop, show k - l.bi + (j - k - 1) = j - l.bi - 1 by omega]
theorem cut_from (h : isLogW l = true) (hp : placeW l k = some u) (hj : k < j) (h2 : j ≤ lastI l) : fromW (cutL l k u) j 1 = fromW l j 1 := by
  obtain ⟨g1, g2, g3⟩ := placeW_some hp
  obtain ⟨u1, e1, a1, b1, c1⟩ := from_one h (by omega) h2
  obtain ⟨u2, e2, a2, b2, c2⟩ := from_one (cut_right h hp) (show (cutL l k u).bi < j from hj) (by rw [cut_lastI hp]; exact h2)
  have h5 := cut_get hp hj
  rw [a1] at h5
  have h6 : (cutL l k u).es[j - k - 1]? = some e2 := a2
  rw [h5] at h6
  injection h6 with h6
  have h7 := cut_place (l := l) hp (show k ≤ j - 1 by omega)
  rw [b1, b2] at h7
  injection h7 with h7
  rw [c1, c2, h6, h7]
end
end Go.Proofs.Ytoknigpdphfocaa
