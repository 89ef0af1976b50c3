/-
  OWN LAW: a drawn region whose head only reads, or reckons; what is read all of the tail waits for. The tail, in one forced order, may store over what was read.
-/
import Derived.Test.YtgdcahakefmakaaBk
namespace Go.Proofs.Ytgdcahakefmakaa
section
variable {P : Program} {ops : Array Oper} {Q : Exit → Act → World → Prop} {md : Region.Mode} {S : World → Prop} {m : Nat}

def wpHd (P : Program) (ops : Array Oper) (S : World → Prop) (K : Act → Prop) : List Bool → List Oper → Act → Prop
  | _, [], a => K a
  | [], _ :: _, _ => False
  | true :: bs, o :: r, a => ∃ v, YieldsIf P ops S o v a ∧ wpHd P ops S K bs r (a.put o.dst v)
  | false :: bs, o :: r, a => ∃ v, YieldsIf P ops (fun _ => True) o v a ∧ wpHd P ops S K bs r (a.put o.dst v)
theorem wpHd_nil {K : Act → Prop} {bs : List Bool} {a : Act} : wpHd P ops S K bs [] a = K a := by cases bs <;> rfl
theorem br_head {K : Act → Prop} {g : Nat} {w : World} (hsel : Region.noSelect ops = true) (hQ : ∀ c a a' w, Q (.panic c) a w → Q (.panic c) a' w) (hS : S w) :
    ∀ (l : List Oper) (bs : List Bool) (k : Nat) (listed : Array Bool) (a : Act), (∀ j, j < l.length → l[j]? = ops[k + j]?) → Region.lexHead md ops g l.length k listed = true → k + l.length ≤ m →
      (∀ i, i < l.length → bs[i]? = some true → ∀ j oj, m ≤ j → ops[j]? = some oj → ∃ e ∈ oj.after, Region.binds md e = true ∧ e.on = k + i) →
      wpHd P ops S K bs l a → (∀ listed a, Region.seqB md ops g (k + l.length) listed = true → K a → wpBk P md ops Q S m g listed a w) → wpBk P md ops Q S m (l.length + g) listed a w
  | [], bs, k, listed, a, _, hB, _, _, h, hK => by
    rw [wpHd_nil] at h
    simp only [List.length_nil, Nat.zero_add, Nat.add_zero] at hB hK ⊢
    exact hK listed a hB h
  | o :: l, [], k, listed, a, _, _, _, _, h, _ => h.elim
  | o :: l, b :: bs, k, listed, a, hl, hB, hm, hbar, h, hK => by
    have h0 : ops[k]? = some o := by simpa using (hl 0 (by simp)).symm
    simp only [List.length_cons, Region.lexHead, Bool.and_eq_true] at hB
    obtain ⟨⟨hr, hf⟩, hB⟩ := hB
    rw [show (o :: l).length + g = (l.length + g) + 1 by simp; omega]
    simp only [List.length_cons] at hm hbar hK
    have next : ∀ v, wpHd P ops S K bs l (a.put o.dst v) → wpBk P md ops Q S m (l.length + g) (listed.setIfInBounds k true) (a.put o.dst v) w := fun v h =>
      br_head hsel hQ hS l bs (k + 1) _ _ (fun j hj => by have := hl (j + 1) (by simp; omega); simpa [Nat.add_assoc, Nat.add_comm 1 j] using this) hB (by omega)
        (fun i hi hb j oj hj hoj => by obtain ⟨e, h1, h2, h3⟩ := hbar (i + 1) (by omega) (by simpa using hb) j oj hj hoj; exact ⟨e, h1, h2, by omega⟩) h
        (fun listed a hs hk => hK listed a (by simpa [Nat.add_assoc, Nat.add_comm 1 l.length] using hs) hk)
    cases b with
    | false =>
      obtain ⟨v, hy, h⟩ := h
      exact wpBk_pure h0 (Region.noSelect_spec hsel) (fun c a w h => hQ c _ _ w h) _ listed a w (Region.free_spec h0 hf) (by simpa using hr) hy (next v h)
    | true =>
      obtain ⟨v, hy, h⟩ := h
      exact wpBk_first h0 (Region.noSelect_spec hsel) (fun c a w h => hQ c _ _ w h) (fun j oj hj hoj => hbar 0 (by omega) rfl j oj hj hoj) (by omega) _ listed a w (Region.free_spec h0 hf) (by simpa using hr) hy hS (next v h)

def brB (ops : Array Oper) (bs : List Bool) (p : Nat) : Bool :=
  Region.noSelect ops && decide (p ≤ ops.size) && ((List.range p).all fun i => !(bs[i]? == some true) || (List.range ops.size).all fun j => decide (j < p) || Region.waitsFor .any ops j i) && Region.lexHead .any ops (ops.size - p) p 0 (Array.replicate ops.size false)

theorem wp_region_br {id : Nat} {a : Act} {w : World} {l : List Oper} (bs : List Bool) (p : Nat) (S : World → Prop) (hm : P.follows .mixedOrders = true) (hB : brB l.toArray bs p = true) (hS : S w.drew)
    (h : wpHd P l.toArray S (fun a1 => wpList P l.toArray (NoPanic Q) (l.drop p) a1 w.drew) bs (l.take p) a) : (Code.region id l.toArray true).wp P Q a w := by
  simp only [brB, Bool.and_eq_true, decide_eq_true_eq] at hB
  obtain ⟨⟨⟨hsel, hps⟩, hbar⟩, hlex⟩ := hB
  have hps' : p ≤ l.length := by simpa using hps
  have htl : (l.take p).length = p := by simp; omega
  have hdl : (l.drop p).length = l.length - p := by simp
  refine wp_region_noPanic (wp_region_any hm (wpAny_of_bk (S := S) (m := p) _ _ _ _ ?_))
  have H := br_head (P := P) (md := .any) (ops := l.toArray) (Q := NoPanic Q) (S := S) (m := p) (g := l.length - p) (w := w.drew) hsel (fun _ _ _ _ h => h) hS (l.take p) bs 0 (Array.replicate l.toArray.size false) a (fun j hj => by rw [htl] at hj; simp [hj]) (by rw [htl]; simpa using hlex) (by omega)
    (fun i hi hb j oj hmj hj => by
      rw [htl] at hi
      have h1 := List.all_eq_true.1 hbar i (List.mem_range.2 (by omega))
      simp only [Bool.or_eq_true, Bool.not_eq_true', beq_eq_false_iff_ne, ne_eq] at h1
      rcases h1 with h1 | h1
      · exact absurd hb h1
      have h2 := List.all_eq_true.1 h1 j (List.mem_range.2 (Array.getElem?_eq_some_iff.1 hj).1)
      simp only [Bool.or_eq_true, decide_eq_true_eq] at h2
      rcases h2 with h2 | h2
      · omega
      · obtain ⟨oj', hoj', e, he, hb, hon⟩ := Region.waitsFor_spec h2
        rw [hj] at hoj'
        injection hoj' with hoj'
        subst hoj'
        exact ⟨e, he, hb, by omega⟩) h
    (fun listed a1 hs hk => by
      rw [htl, Nat.zero_add] at hs
      rw [← hdl] at hs ⊢
      exact bk_tail (l.drop p) p listed a1 w.drew (Nat.le_refl _) (fun j => by simp [List.getElem?_drop]) hs hk)
  rw [htl] at H
  have e : l.toArray.size = p + (l.length - p) := by simp; omega
  rw [e] at H ⊢
  exact H
end
end Go.Proofs.Ytgdcahakefmakaa
