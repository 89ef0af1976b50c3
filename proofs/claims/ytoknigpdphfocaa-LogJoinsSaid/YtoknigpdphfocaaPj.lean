/-
  LOGS, PURE: what a splice makes.
-/
import Derived.Test.YtoknigpdphfocaaPc
namespace Go.Proofs.Ytoknigpdphfocaa
set_option linter.unusedVariables false
set_option linter.unusedSimpArgs false
structure Good (l : Lg) (pi : Nat) (xs : List Ev) (N : Lg) : Prop where
  bi : N.bi = l.bi
  bt : N.bt = l.bt
  right : isLogW N = true
  has : ∀ i (h : i < xs.length), l.bi < pi + i + 1 → placeW N (pi + i + 1) = some (xs[i]).t
  keep : ∀ k, l.bi ≤ k → k ≤ pi → k ≤ lastI l → placeW N k = placeW l k
theorem may_parts {pi pt : Nat} {xs : List Ev} (h : mayW pi pt xs = true) : pi + xs.length ≤ topI ∧ riseE pt xs = true := by
  unfold mayW at h
  simp only [Bool.and_eq_true, decide_eq_true_eq] at h
  exact ⟨by omega, h.2.2⟩
theorem splice_ways (l : Lg) (pi pt : Nat) (xs : List Ev) : (∃ m : Int, spliceW l pi pt xs = (zLg, 0, m) ∧ (m != 0) = true) ∨
    (isLogW l = true ∧ mayW pi pt xs = true ∧ ¬ (l.bi ≤ pi ∧ hasW l pi pt = false) ∧ ∃ N, spliceW l pi pt xs = (N, pi + xs.length, 0) ∧ Good l pi xs N) := by
  unfold spliceW
  by_cases h1 : isLogW l = false
  · exact .inl ⟨220, by rw [if_pos h1], rfl⟩
  rw [if_neg h1]
  by_cases h2 : mayW pi pt xs = false
  · exact .inl ⟨2, by rw [if_pos h2], rfl⟩
  rw [if_neg h2]
  by_cases h3 : l.bi ≤ pi ∧ hasW l pi pt = false
  · exact .inl ⟨4, by rw [if_pos h3], rfl⟩
  rw [if_neg h3]
  have h1 : isLogW l = true := by simpa using h1
  have h2 : mayW pi pt xs = true := by simpa using h2
  obtain ⟨g0, g1, g2, g3, g4⟩ := right_base h1
  obtain ⟨m1, m2⟩ := may_parts h2
  obtain ⟨n, hn⟩ : ∃ n, knownW l pi xs = n := ⟨_, rfl⟩
  have hnl := knownW_le l pi xs
  have had := knownW_had l pi xs
  rw [hn] at hnl had
  rw [hn]
  rcases hd : xs.drop n with _ | ⟨e, r⟩
  · refine .inr ⟨h1, h2, h3, l, rfl, rfl, rfl, h1, fun i hi hb => ?_, fun k _ _ _ => rfl⟩
    have : xs.length ≤ n := by
      have := congrArg List.length hd
      rw [List.length_drop] at this
      simp at this
      omega
    rcases had i (by omega) with h | ⟨_, h⟩
    · omega
    · exact h
  · simp only []
    rcases hp : placeW l (pi + n) with _ | a
    · exact .inl ⟨4, rfl, rfl⟩
    simp only []
    by_cases h4 : e.t < a
    · exact .inl ⟨2, by rw [if_pos h4], rfl⟩
    rw [if_neg h4]
    by_cases h5 : 16 < (pi + n - l.bi) + (r.length + 1)
    · exact .inl ⟨6, by rw [if_pos h5], rfl⟩
    rw [if_neg h5]
    obtain ⟨p1, p2, p3⟩ := placeW_some hp
    have hlen : n + (r.length + 1) = xs.length := by
      have := congrArg List.length hd
      rw [List.length_drop] at this
      simp at this
      omega
    have p2' := p2
    unfold lastI at p2'
    have hT : (l.es.take (pi + n - l.bi)).length = pi + n - l.bi := by rw [List.length_take]; omega
    have hlast : lastI ⟨l.bi, l.bt, l.es.take (pi + n - l.bi) ++ e :: r⟩ = pi + xs.length := by
      unfold lastI
      show l.bi + (l.es.take (pi + n - l.bi) ++ e :: r).length = _
      rw [List.length_append, hT, List.length_cons]
      omega
    have keepq : ∀ k, l.bi ≤ k → k ≤ pi + n → placeW ⟨l.bi, l.bt, l.es.take (pi + n - l.bi) ++ e :: r⟩ k = placeW l k := fun k k1 k2 => by
      rw [placeW_at (l := ⟨l.bi, l.bt, l.es.take (pi + n - l.bi) ++ e :: r⟩) k1 (by rw [hlast]; omega), placeW_at k1 (by omega)]
      show some (lastT l.bt ((l.es.take (pi + n - l.bi) ++ e :: r).take (k - l.bi))) = _
      rw [List.take_append_of_le_length (by rw [hT]; omega), List.take_take, Nat.min_eq_left (by omega)]
    refine .inr ⟨h1, h2, h3, _, rfl, rfl, rfl, ?_, fun i hi hb => ?_, fun k k1 k2 k3 => keepq k k1 (by omega)⟩
    · refine right_of g0 ?_ ?_ ?_
      · show (l.es.take (pi + n - l.bi) ++ e :: r).length ≤ 16
        rw [List.length_append, hT, List.length_cons]
        omega
      · show l.bi + (l.es.take (pi + n - l.bi) ++ e :: r).length ≤ topI
        rw [List.length_append, hT, List.length_cons]
        omega
      · show riseE l.bt (l.es.take (pi + n - l.bi) ++ e :: r) = true
        rw [riseE_app, rise_take g4, ← p3, Bool.true_and]
        have := rise_drop m2 n
        rw [hd] at this
        simp only [riseE, Bool.and_eq_true, decide_eq_true_eq] at this ⊢
        exact ⟨this.1, by omega, this.2.2⟩
    · rcases Nat.lt_or_ge i n with hin | hin
      · rcases had i hin with h | ⟨_, h⟩
        · omega
        · rw [keepq _ (by omega) (by omega)]
          exact h
      · unfold placeW
        rw [if_neg (by show ¬ (pi + i + 1 = l.bi); omega), if_pos (by show l.bi < pi + i + 1; omega)]
        show ((l.es.take (pi + n - l.bi) ++ e :: r)[pi + i + 1 - l.bi - 1]?).map Ev.t = _
        rw [List.getElem?_append_right (by rw [hT]; omega), hT, ← hd, List.getElem?_drop,
          show n + (pi + i + 1 - l.bi - 1 - (pi + n - l.bi)) = i by omega, List.getElem?_eq_getElem hi]
        rfl
theorem known_all {N : Lg} : ∀ {p : Nat} {xs : List Ev}, (∀ i (h : i < xs.length), N.bi < p + i + 1 → placeW N (p + i + 1) = some (xs[i]).t) → knownW N p xs = xs.length
  | p, [], _ => by simp [knownW]
  | p, e :: r, h => by
    have hc : (decide (p + 1 ≤ N.bi) || hasW N (p + 1) e.t) = true := by
      rcases Nat.lt_or_ge N.bi (p + 1) with h0 | h0
      · have := h 0 (by simp) (by omega)
        rw [hasW_iff.2 (by simpa using this), Bool.or_true]
      · simp; omega
    rw [knownW, if_pos hc, known_all (fun i hi hb => by
      have := h (i + 1) (by simpa using hi) (by omega)
      rw [show p + 1 + i + 1 = p + (i + 1) + 1 by omega, this]
      rfl)]
    simp
theorem splice_again {l N : Lg} {pi pt : Nat} {xs : List Ev} (hm : mayW pi pt xs = true) (hp : ¬ (l.bi ≤ pi ∧ hasW l pi pt = false)) (g : Good l pi xs N) :
    spliceW N pi pt xs = (N, pi + xs.length, 0) := by
  unfold spliceW
  rw [if_neg (by rw [g.right]; simp), if_neg (by rw [hm]; simp), if_neg (by
    rintro ⟨h1, h2⟩
    rw [g.bi] at h1
    have h3 : hasW l pi pt = true := by
      rcases hh : hasW l pi pt with _ | _
      · exact absurd ⟨h1, hh⟩ hp
      · rfl
    have h4 := hasW_iff.1 h3
    have h5 := g.keep pi h1 (Nat.le_refl _) (placeW_some h4).2.1
    rw [h4] at h5
    rw [hasW_iff.2 h5] at h2
    cases h2)]
  rw [known_all (fun i hi hb => g.has i hi (by rw [← g.bi]; exact hb)), List.drop_length]
end Go.Proofs.Ytoknigpdphfocaa
