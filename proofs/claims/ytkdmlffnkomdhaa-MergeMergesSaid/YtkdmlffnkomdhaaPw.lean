/-
  STAGE 5's THEOREM, its pure part: the difference may be, and leads there; there is none of the same.
-/
import Derived.Test.YtkdmlffnkomdhaaPx
import Derived.Test.YtkdmlffnkomdhaaPz
namespace Go.Proofs.Ytkdmlffnkomdhaa
set_option linter.unusedVariables false
set_option linter.unusedSimpArgs false
open Go.RowKit Go.WideShapes Go.ChangeShapes Go.Deep

theorem rightR_up {l : List Rw} (h : rightR l = true) : Up Rw.p l ∧ fitW (·.p) (·.t) l = true := by
  unfold rightR at h
  rw [Bool.and_eq_true] at h
  exact ⟨(up_iff Rw.p l).1 h.2, h.1⟩
theorem fitW_mem {α : Type} {p t : α → ByteArray} {l : List α} (h : fitW p t l = true) : l.length ≤ 32 ∧ ∀ x ∈ l, fitP (p x) (t x) = true := by
  unfold fitW at h
  rw [Bool.and_eq_true, decide_eq_true_eq, List.all_eq_true] at h
  exact h
theorem fitP_none {p t : ByteArray} (h : fitP p t = true) : fitP p ⟨#[]⟩ = true := by
  unfold fitP at h ⊢
  simp only [Bool.and_eq_true, decide_eq_true_eq] at h ⊢
  exact ⟨⟨⟨h.1.1.1, h.1.1.2⟩, by decide⟩, h.2⟩
theorem diffE_right {la lb : List Rw} (h : diffE la lb = 0) : rightR la = true ∧ rightR lb = true ∧ (diffW la lb).length ≤ 32 := by
  unfold diffE at h
  cases h1 : rightR la with
  | false => rw [h1] at h; simp at h
  | true =>
    cases h2 : rightR lb with
    | false => rw [h1, h2] at h; simp at h
    | true =>
      rw [h1, h2] at h
      simp only [Bool.true_eq_false, if_false] at h
      refine ⟨rfl, rfl, ?_⟩
      by_cases h3 : 32 < (diffW la lb).length
      · rw [if_pos h3] at h; simp at h
      · omega
theorem diff_right {la lb : List Rw} (h : diffE la lb = 0) : rightC (diffW la lb) = true := by
  obtain ⟨h1, h2, h3⟩ := diffE_right h
  obtain ⟨ua, fa⟩ := rightR_up h1
  obtain ⟨ub, fb⟩ := rightR_up h2
  rw [diffW_dif] at h3 ⊢
  have hu := (leads la lb ua ub).2
  have key : ∀ c ∈ dif la lb, fitP c.p c.t = true ∧ mud c = false := fun c hc => by
    rcases mem_dif hc with ⟨a, ha, rfl⟩ | ⟨b, hb, rfl⟩
    · refine ⟨fitP_none ((fitW_mem fa).2 a ha), ?_⟩
      unfold mud
      rw [ByteArray.toList_eq]
      rfl
    · exact ⟨(fitW_mem fb).2 b hb, rfl⟩
  unfold rightC
  rw [Bool.and_eq_true, Bool.and_eq_true]
  refine ⟨⟨?_, (up_iff Ch.p _).2 hu⟩, ?_⟩
  · unfold fitW
    rw [Bool.and_eq_true, decide_eq_true_eq, List.all_eq_true]
    exact ⟨h3, fun c hc => (key c hc).1⟩
  · unfold mudW
    rw [Bool.not_eq_true', List.any_eq_false]
    intro c hc
    rw [(key c hc).2]
    decide
theorem diff_leads {la lb : List Rw} (h : diffE la lb = 0) : applyE la (diffW la lb) = 0 ∧ applyW la (diffW la lb) = lb := by
  obtain ⟨h1, h2, h3⟩ := diffE_right h
  obtain ⟨ua, fa⟩ := rightR_up h1
  obtain ⟨ub, fb⟩ := rightR_up h2
  have hw : applyW la (diffW la lb) = lb := by rw [applyW_app, diffW_dif]; exact (leads la lb ua ub).1
  refine ⟨?_, hw⟩
  unfold applyE
  rw [h1, diff_right h, hw]
  have := (fitW_mem fb).1
  simp only [Bool.true_eq_false, if_false]
  rw [if_neg (by omega)]
theorem diff_self {l : List Rw} (h : rightR l = true) : diffE l l = 0 ∧ diffW l l = [] := by
  have hw : diffW l l = [] := by rw [diffW_dif]; exact dif_same l
  refine ⟨?_, hw⟩
  unfold diffE
  rw [h, hw]
  simp
theorem same_eq {l l' : List Rw} (h : l = l') : sameL l l' = true := by
  subst h
  refine sameL_yes rfl fun j hj hj' => ?_
  unfold sameRw
  simp
theorem same_ne {l l' : List Rw} (h : l ≠ l') : sameL l l' = false := sameL_no fun ⟨h1, h2⟩ => h (by
  apply List.ext_getElem h1
  intro j hj hj'
  have := h2 j hj hj'
  unfold sameRw at this
  rw [Bool.and_eq_true] at this
  have e1 := bytes_ext (by simpa using this.1)
  have e2 := bytes_ext (by simpa using this.2)
  revert e1 e2
  cases l[j]
  cases l'[j]
  intro e1 e2
  dsimp only at e1 e2
  rw [e1, e2])
/-- There is no difference just where the two are the same. -/
theorem diff_none {la lb : List Rw} (h : diffE la lb = 0) : ((((diffW la lb).length : Int) == 0) == sameL la lb) = true := by
  by_cases he : la = lb
  · subst he
    rw [(diff_self (diffE_right h).1).2, same_eq rfl]
    rfl
  · rw [same_ne he]
    have : (diffW la lb).length ≠ 0 := fun h0 => he (by
      have h1 := List.eq_nil_of_length_eq_zero h0
      have h2 := (diff_leads h).2
      rw [h1, applyW_app, app_nil] at h2
      exact h2)
    have h3 : (((diffW la lb).length : Int) == 0) = false := by simp; exact fun h0 => this (by rw [h0]; rfl)
    rw [h3]
    rfl
end Go.Proofs.Ytkdmlffnkomdhaa
