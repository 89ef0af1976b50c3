/-
  A LAW OF MY OWN ON A REGION THAT DRAWS ITS ORDER, over whatever program: 'x.f = append(x.f, v)' and its like. The first n operations only read; what they read holds under S; those from number m on wait for all of these; between n and m, and from m on, one forced order. Then the region does as its text does, if S is shown anew behind the operations between n and m alone: the store at the end may hit what was read.
-/
import Derived.OrdersHeld
import Derived.StillTail
import Derived.Deep.RegionHeld3
namespace Go.Proofs.Ytgdcahakefmakaa
section
variable {P : Program} {ops : Array Oper} {Q : Exit → Act → World → Prop} {md : Region.Mode} {S : World → Prop} {m : Nat}

def wpBar (P : Program) (md : Region.Mode) (ops : Array Oper) (Q : Exit → Act → World → Prop) (S : World → Prop) (m : Nat) : Nat → Array Bool → Act → World → Prop
  | 0, listed, a, w => Region.ready md ops listed = [] ∧ Q .normal a w
  | fuel + 1, listed, a, w =>
    (Region.ready md ops listed = [] → Q .normal a w) ∧
    ∀ i ∈ Region.ready md ops listed, wpOp P ops Q i (fun a' w' => (i < m → S w') ∧ wpBar P md ops Q S m fuel (listed.setIfInBounds i true) a' w') a w
theorem wpAny_of_bar : ∀ (fuel : Nat) (listed : Array Bool) (a : Act) (w : World), wpBar P md ops Q S m fuel listed a w → wpAny P md ops Q fuel listed a w
  | 0, _, _, _, h => h
  | fuel + 1, _, _, _, h => ⟨h.1, fun i hi => wpOp_mono (fun a' w' h' => wpAny_of_bar fuel _ a' w' h'.2) (h.2 i hi)⟩

/-- Number i, which every operation from m on waits for, may be taken first. -/
theorem wpBar_first {i : Nat} {oi : Oper} {v : Value} (hi : ops[i]? = some oi) (hsel : ∀ (j : Nat) (o : Oper) cs b, ops[j]? = some o → o.op ≠ .select cs b)
    (hQ : ∀ c a w, Q (.panic c) (a.put oi.dst v) w → Q (.panic c) a w) (hbar : ∀ j oj, m ≤ j → ops[j]? = some oj → ∃ e ∈ oj.after, Region.binds md e = true ∧ e.on = i) (him : i < m) :
    ∀ (fuel : Nat) (listed : Array Bool) (a : Act) (w : World),
      (∀ j oj, ops[j]? = some oj → j ≠ i → listed.getD j true = false → (∀ e ∈ oj.after, Region.binds md e = true → e.on ≠ i) → oi.apart ops oj = true) →
      i ∈ Region.ready md ops listed → YieldsIf P ops S oi v a → S w →
      wpBar P md ops Q S m fuel (listed.setIfInBounds i true) (a.put oi.dst v) w → wpBar P md ops Q S m (fuel + 1) listed a w := by
  intro fuel
  induction fuel with
  | zero =>
    intro listed a w _ hr hy hS H
    refine ⟨fun h => (by rw [h] at hr; cases hr), fun j hj => ?_⟩
    by_cases hji : j = i
    · subst hji; exact hy.wpOp hi hS ⟨fun _ => hS, H⟩
    · have := ready_mono hj hji
      rw [H.1] at this
      cases this
  | succ fuel ih =>
    intro listed a w hfree hr hy hS H
    refine ⟨fun h => (by rw [h] at hr; cases hr), fun j hj => ?_⟩
    by_cases hji : j = i
    · subst hji; exact hy.wpOp hi hS ⟨fun _ => hS, H⟩
    · have h1 := H.2 j (ready_mono hj hji)
      obtain ⟨hjun, oj, hoj, hall⟩ := mem_ready.1 hj
      have hnot : ∀ e ∈ oj.after, Region.binds md e = true → e.on ≠ i := fun e he hb heq => by
        have h1 := hall e he hb
        have h0 := (mem_ready.1 hr).1
        rw [heq] at h1
        rcases Nat.lt_or_ge i listed.size with h' | h'
        · simp [h'] at h0 h1; rw [h0] at h1; cases h1
        · simp [Array.getElem?_eq_none h'] at h1
      have hjm : j < m := by
        rcases Nat.lt_or_ge j m with h | h
        · exact h
        · obtain ⟨e, he, hb, hon⟩ := hbar j oj h hoj
          exact absurd hon (hnot e he hb)
      have h2 := wpOp_putIf hoj (hfree j oj hoj hji hjun hnot) (fun cs b => hsel i oi cs b hi) (fun cs b => hsel j oj cs b hoj) hQ hy h1
      refine wpOp_mono (fun a' w' h3 => ⟨h3.2.1, ih (listed.setIfInBounds j true) a' w' (fun k ok hk hki hun hno => ?_) (ready_mono hr (Ne.symm hji)) h3.1 (h3.2.1 hjm) ?_⟩) h2
      · refine hfree k ok hk hki ?_ hno
        by_cases hjk : j = k
        · subst hjk; exact hjun
        · rw [getD_set_ne true hjk] at hun; exact hun
      · rw [Array.setIfInBounds_comm _ _ hji]
        exact h3.2.2

/-- The reads at the head, each of one value in every world that meets S. -/
def wpHead (P : Program) (ops : Array Oper) (S : World → Prop) (K : Act → Prop) : List Oper → Act → Prop
  | [], a => K a
  | o :: r, a => ∃ v, YieldsIf P ops S o v a ∧ wpHead P ops S K r (a.put o.dst v)
/-- The operations in the middle: S anew behind each. -/
def wpMid (P : Program) (Q : Exit → Act → World → Prop) (S : World → Prop) (K : Act → World → Prop) : List Oper → Act → World → Prop
  | [], a, w => K a w
  | o :: r, a, w => o.guard = none ∧ o.wp P a w (fun a' w' => S w' ∧ wpMid P Q S K r a' w') Q

theorem wpHead_nil {K : Act → Prop} {a : Act} : wpHead P ops S K [] a = K a := rfl
theorem wpMid_nil {K : Act → World → Prop} {a : Act} {w : World} : wpMid P Q S K [] a w = K a w := rfl
theorem wpMid_cons {K : Act → World → Prop} {o : Oper} {r : List Oper} {a : Act} {w : World} : wpMid P Q S K (o :: r) a w = (o.guard = none ∧ o.wp P a w (fun a' w' => S w' ∧ wpMid P Q S K r a' w') Q) := rfl
theorem bar_tail : ∀ (l : List Oper) (k : Nat) (listed : Array Bool) (a : Act) (w : World), m ≤ k → (∀ j, l[j]? = ops[k + j]?) →
    Region.seqB md ops l.length k listed = true → wpList P ops Q l a w → wpBar P md ops Q S m l.length listed a w
  | [], _, _, _, _, _, _, hB, h => ⟨by simpa [Region.seqB] using hB, h⟩
  | o :: l, k, listed, a, w, hmk, hl, hB, h => by
    have h0 : ops[k]? = some o := by simpa using (hl 0).symm
    simp only [List.length_cons, Region.seqB, Bool.and_eq_true, decide_eq_true_eq] at hB
    refine ⟨fun h1 => (by rw [hB.1] at h1; cases h1), fun i hi => ?_⟩
    rw [hB.1] at hi
    have hik : i = k := by simpa using hi
    subst hik
    have hw : wpOp P ops Q i (wpList P ops Q l) a w := by unfold wpOp; simp only [h0]; exact h
    exact wpOp_mono (fun a' w' h' => ⟨fun hlt => by omega, bar_tail l (i + 1) _ a' w' (by omega) (fun j => by have := hl (j + 1); simpa [Nat.add_assoc, Nat.add_comm 1 j] using this) hB.2 h'⟩) hw

theorem bar_mid {K : Act → World → Prop} {g : Nat} : ∀ (l : List Oper) (k : Nat) (listed : Array Bool) (a : Act) (w : World), (∀ j, j < l.length → l[j]? = ops[k + j]?) →
    Region.seqB md ops (l.length + g) k listed = true → wpMid P Q S K l a w → (∀ listed a w, Region.seqB md ops g (k + l.length) listed = true → K a w → wpBar P md ops Q S m g listed a w) → wpBar P md ops Q S m (l.length + g) listed a w
  | [], k, listed, a, w, _, hB, h, hK => by
    simp only [List.length_nil, Nat.zero_add, Nat.add_zero] at hB hK ⊢
    exact hK listed a w hB h
  | o :: l, k, listed, a, w, hl, hB, h, hK => by
    have h0 : ops[k]? = some o := by simpa using (hl 0 (by simp)).symm
    rw [show (o :: l).length + g = (l.length + g) + 1 by simp; omega] at hB ⊢
    simp only [Region.seqB, Bool.and_eq_true, decide_eq_true_eq] at hB
    refine ⟨fun h1 => (by rw [hB.1] at h1; cases h1), fun i hi => ?_⟩
    rw [hB.1] at hi
    have hik : i = k := by simpa using hi
    subst hik
    have hw : wpOp P ops Q i (fun a' w' => S w' ∧ wpMid P Q S K l a' w') a w := by
      unfold wpOp
      simp only [h0]
      rw [if_pos (by simp [Region.wanted, h.1])]
      exact .inl h.2
    exact wpOp_mono (fun a' w' h' => ⟨fun _ => h'.1, bar_mid l (i + 1) _ a' w' (fun j hj => by have := hl (j + 1) (by simp; omega); simpa [Nat.add_assoc, Nat.add_comm 1 j] using this) hB.2 h'.2 (fun listed a w hs hk => hK listed a w (by simpa [Nat.add_assoc, Nat.add_comm 1 l.length] using hs) hk)⟩) hw

theorem bar_head {K : Act → Prop} {g : Nat} {w : World} (hsel : Region.noSelect ops = true) (hQ : ∀ c a a' w, Q (.panic c) a w → Q (.panic c) a' w) (hS : S w) :
    ∀ (l : List Oper) (k : Nat) (listed : Array Bool) (a : Act), (∀ j, j < l.length → l[j]? = ops[k + j]?) → Region.lexHead md ops g l.length k listed = true → k + l.length ≤ m →
      (∀ i, k ≤ i → i < k + l.length → ∀ j oj, m ≤ j → ops[j]? = some oj → ∃ e ∈ oj.after, Region.binds md e = true ∧ e.on = i) →
      wpHead P ops S K l a → (∀ listed a, Region.seqB md ops g (k + l.length) listed = true → K a → wpBar P md ops Q S m g listed a w) → wpBar P md ops Q S m (l.length + g) listed a w
  | [], k, listed, a, _, hB, _, _, h, hK => by
    simp only [List.length_nil, Nat.zero_add, Nat.add_zero] at hB hK ⊢
    exact hK listed a hB h
  | o :: l, k, listed, a, hl, hB, hm, hbar, h, hK => by
    have h0 : ops[k]? = some o := by simpa using (hl 0 (by simp)).symm
    simp only [List.length_cons, Region.lexHead, Bool.and_eq_true] at hB
    obtain ⟨⟨hr, hf⟩, hB⟩ := hB
    obtain ⟨v, hy, h⟩ := h
    rw [show (o :: l).length + g = (l.length + g) + 1 by simp; omega]
    simp only [List.length_cons] at hm hbar hK
    refine wpBar_first h0 (Region.noSelect_spec hsel) (fun c a w h => hQ c _ _ w h) (hbar k (Nat.le_refl _) (by omega)) (by omega) _ listed a w (Region.free_spec h0 hf) (by simpa using hr) hy hS ?_
    exact bar_head hsel hQ hS l (k + 1) _ _ (fun j hj => by have := hl (j + 1) (by simp; omega); simpa [Nat.add_assoc, Nat.add_comm 1 j] using this) hB (by omega) (fun i h1 h2 => hbar i (by omega) (by omega)) h
      (fun listed a hs hk => hK listed a (by simpa [Nat.add_assoc, Nat.add_comm 1 l.length] using hs) hk)

def barB (ops : Array Oper) (n m : Nat) : Bool :=
  Region.noSelect ops && decide (n ≤ m) && decide (m ≤ ops.size) && ((List.range n).all fun i => (List.range ops.size).all fun j => decide (j < m) || Region.waitsFor .any ops j i) && Region.lexHead .any ops (ops.size - n) n 0 (Array.replicate ops.size false)

theorem any_bar {a : Act} {w : World} {l : List Oper} (n m : Nat) (S : World → Prop) (hQ : ∀ c a a' w, Q (.panic c) a w → Q (.panic c) a' w) (hB : barB l.toArray n m = true) (hS : S w.drew)
    (h : wpHead P l.toArray S (fun a1 => wpMid P Q S (fun a2 w2 => wpList P l.toArray Q (l.drop m) a2 w2) ((l.take m).drop n) a1 w.drew) (l.take n) a) : wpAny P .any l.toArray Q l.toArray.size (Array.replicate l.toArray.size false) a w.drew := by
  simp only [barB, Bool.and_eq_true, decide_eq_true_eq] at hB
  obtain ⟨⟨⟨⟨hsel, hnm⟩, hms⟩, hbar⟩, hlex⟩ := hB
  have hms' : m ≤ l.length := by simpa using hms
  have htl : (l.take n).length = n := by simp; omega
  have hml : ((l.take m).drop n).length = m - n := by simp; omega
  have hdl : (l.drop m).length = l.length - m := by simp
  refine wpAny_of_bar (S := S) (m := m) _ _ _ _ ?_
  have H := bar_head (P := P) (md := .any) (ops := l.toArray) (Q := Q) (S := S) (m := m) (g := l.length - n) (w := w.drew) hsel hQ hS (l.take n) 0 (Array.replicate l.toArray.size false) a (fun j hj => by rw [htl] at hj; simp [hj]) (by rw [htl]; simpa using hlex) (by omega)
    (fun i _ hi j oj hmj hj => by
      rw [htl] at hi
      have h1 := List.all_eq_true.1 hbar i (List.mem_range.2 (by omega))
      have h2 := List.all_eq_true.1 h1 j (List.mem_range.2 (Array.getElem?_eq_some_iff.1 hj).1)
      simp only [Bool.or_eq_true, decide_eq_true_eq] at h2
      rcases h2 with h2 | h2
      · omega
      · obtain ⟨oj', hoj', e, he, hb, hon⟩ := Region.waitsFor_spec h2
        rw [hj] at hoj'
        injection hoj' with hoj'
        subst hoj'
        exact ⟨e, he, hb, hon⟩) h
    (fun listed a1 hs hk => by
      rw [htl, Nat.zero_add] at hs
      have hsz : l.length - n = ((l.take m).drop n).length + (l.length - m) := by rw [hml]; omega
      rw [hsz] at hs ⊢
      refine bar_mid _ n listed a1 w.drew (fun j hj => by rw [hml] at hj; simp [List.getElem?_drop, List.getElem?_take]; omega) hs hk fun listed a2 w2 hs2 hk2 => ?_
      rw [hml, show n + (m - n) = m by omega, ← hdl] at hs2
      rw [← hdl]
      exact bar_tail (l.drop m) m listed a2 w2 (Nat.le_refl _) (fun j => by simp [List.getElem?_drop]) hs2 hk2)
  rw [htl] at H
  have e : l.toArray.size = n + (l.length - n) := by simp; omega
  rw [e] at H ⊢
  exact H
theorem wp_region_bar {id : Nat} {a : Act} {w : World} {l : List Oper} (n m : Nat) (S : World → Prop) (hm : P.follows .mixedOrders = true) (hB : barB l.toArray n m = true) (hS : S w.drew)
    (h : wpHead P l.toArray S (fun a1 => wpMid P (NoPanic Q) S (fun a2 w2 => wpList P l.toArray (NoPanic Q) (l.drop m) a2 w2) ((l.take m).drop n) a1 w.drew) (l.take n) a) : (Code.region id l.toArray true).wp P Q a w :=
  wp_region_noPanic (wp_region_any hm (any_bar n m S (fun _ _ _ _ h => h) hB hS h))
end
end Go.Proofs.Ytgdcahakefmakaa
