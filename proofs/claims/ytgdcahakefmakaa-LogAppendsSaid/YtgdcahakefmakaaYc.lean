/-
  OWN LAWS: a drawn region, part by part: what is read is taken ahead of what may store over it; steps that are free of one another are walked once for each state.
-/
import Derived.Test.YtgdcahakefmakaaYb
namespace Go.Proofs.Ytgdcahakefmakaa
set_option linter.unusedVariables false
section
variable {P : Program} {ops : Array Oper} {Q : Exit → Act → World → Prop} {md : Region.Mode} {S : World → Prop} {m : Nat}

def bkP (md : Region.Mode) (ops : Array Oper) (listed : Array Bool) (i : Nat) : Bool := Region.noSelect ops && (Region.ready md ops listed).contains i && Region.free md ops listed i
def bkT (ops : Array Oper) (m : Nat) (listed : Array Bool) (i : Nat) : Bool := bkP .any ops listed i && decide (i < m) && (List.range ops.size).all fun j => decide (j < m) || Region.waitsFor .any ops j i
/-- A read. -/
theorem wpBk_take {i fuel : Nat} {oi : Oper} {v : Value} {listed : Array Bool} {a : Act} {w : World} (hi : ops[i]? = some oi) (hB : bkT ops m listed i = true) (hQ : ∀ c a a' w, Q (.panic c) a w → Q (.panic c) a' w)
    (hy : YieldsIf P ops S oi v a) (hS : S w) (H : wpBk P .any ops Q S m fuel (listed.setIfInBounds i true) (a.put oi.dst v) w) : wpBk P .any ops Q S m (fuel + 1) listed a w := by
  simp only [bkT, bkP, Bool.and_eq_true, decide_eq_true_eq] at hB
  obtain ⟨⟨⟨⟨hsel, hr⟩, hf⟩, him⟩, hbar⟩ := hB
  refine wpBk_first hi (Region.noSelect_spec hsel) (fun c a w h => hQ c _ _ w h) (fun j oj hmj hj => ?_) him fuel listed a w (Region.free_spec hi hf) (by simpa using hr) hy hS H
  have h2 := List.all_eq_true.1 hbar j (List.mem_range.2 (Array.getElem?_eq_some_iff.1 hj).1)
  simp only [Bool.or_eq_true, decide_eq_true_eq] at h2
  rcases h2 with h2 | h2
  · omega
  · obtain ⟨oj', hoj', e, he, hb, hon⟩ := Region.waitsFor_spec h2
    rw [hj] at hoj'
    injection hoj' with hoj'
    subst hoj'
    exact ⟨e, he, hb, hon⟩
/-- What has one value in whatever world. -/
theorem wpBk_takeP {i fuel : Nat} {oi : Oper} {v : Value} {listed : Array Bool} {a : Act} {w : World} (hi : ops[i]? = some oi) (hB : bkP md ops listed i = true) (hQ : ∀ c a a' w, Q (.panic c) a w → Q (.panic c) a' w)
    (hy : YieldsIf P ops (fun _ => True) oi v a) (H : wpBk P md ops Q S m fuel (listed.setIfInBounds i true) (a.put oi.dst v) w) : wpBk P md ops Q S m (fuel + 1) listed a w := by
  simp only [bkP, Bool.and_eq_true] at hB
  obtain ⟨⟨hsel, hr⟩, hf⟩ := hB
  exact wpBk_pure hi (Region.noSelect_spec hsel) (fun c a w h => hQ c _ _ w h) fuel listed a w (Region.free_spec hi hf) (by simpa using hr) hy H
/-- Steps that are free of one another. -/
theorem wpBk_free {a0 : Act} {l0 : Array Bool} {w0 : World} (I : (Nat → Value) → Act → Array Bool → Nat → Array Bool → Act → World → Prop) (g : Nat) (tb : List (Nat × List Nat))
    (hr : ∀ old f l a w, I old a0 l0 (g + f + 1) l a w → (!(Region.ready md ops l).isEmpty && (Region.ready md ops l).all fun i => tb.any fun jp => i == jp.1 && !l.getD jp.1 true && jp.2.all fun q => l.getD q false) = true)
    (hs : ∀ old f l a w, I old a0 l0 (g + f + 1) l a w → ∀ jp ∈ tb, l.getD jp.1 true = false → (jp.2.all fun q => l.getD q false) = true →
      wpOp P ops Q jp.1 (fun a' w' => (S w → jp.1 < m → S w') ∧ I old a0 l0 (g + f) (l.setIfInBounds jp.1 true) a' w') a w)
    (hend : ∀ old l a w, I old a0 l0 g l a w → wpBk P md ops Q S m g l a w)
    (f : Nat) (h : I (fun i => a0.tmps.getD i undef) a0 l0 (g + f) l0 a0 w0) : wpBk P md ops Q S m (g + f) l0 a0 w0 := by
  have key : ∀ f l a w, I (fun i => a0.tmps.getD i undef) a0 l0 (g + f) l a w → wpBk P md ops Q S m (g + f) l a w := by
    intro f
    induction f with
    | zero => exact fun l a w hI => hend _ l a w hI
    | succ f ih =>
      intro l a w hI
      have h1 := hr _ f l a w hI
      refine ⟨fun h0 => ?_, fun i hi => ?_⟩
      · rw [show Region.ready md ops l = [] from h0] at h1
        simp at h1
      · rw [Bool.and_eq_true, List.all_eq_true] at h1
        obtain ⟨jp, hjp, h2⟩ := List.any_eq_true.1 (h1.2 i hi)
        rw [Bool.and_eq_true, Bool.and_eq_true, beq_iff_eq, Bool.not_eq_true'] at h2
        obtain ⟨⟨rfl, h3⟩, h4⟩ := h2
        exact wpOp_mono (fun a' w' h' => ⟨h'.1, ih _ a' w' h'.2⟩) (hs _ f l a w hI jp hjp h3 h4)
  exact key f l0 a0 w0 h
theorem wpOp_of {i : Nat} {o : Oper} {K : Act → World → Prop} {a : Act} {w : World} (ho : ops[i]? = some o) (hg : o.guard = none) (h : ∀ K' : Act → World → Prop, (∀ a w, K a w → K' a w) → o.wp P a w K' Q) : wpOp P ops Q i K a w :=
  wpOp_step ho fun K' hK => by
    rw [if_pos (by simp [Region.wanted, hg])]
    exact h K' hK
end
end Go.Proofs.Ytgdcahakefmakaa
