/-
  OBJECTS: what an object is cut down to by the laws.
  OWN LAW: a drawn region whose head only reads, or reckons; what is read all of the tail waits for. The tail, in one forced order, may store over what was read.
  OWN LAWS: a drawn region, part by part: what is read is taken ahead of what may store over it; steps that are free of one another are walked once for each state.
-/
import Derived.Test.YtnkhoghdfncgpaaDoorK34
import Derived.Test.YtnkhoghdfncgpaaDoorK07
namespace Go.Proofs.YtnkhoghdfncgpaaDoor
set_option linter.unusedVariables false
set_option linter.unusedSimpArgs false
open Go.RowKit Go.WideShapes Go.ChangeShapes Go.Deep

/-- The first m bytes of a text. -/
def cutB (m : Nat) (s : ByteArray) : ByteArray := s.extract 0 (min (s.size : Int) (m : Int)).toNat
theorem cut_size (m : Nat) (s : ByteArray) : (cutB m s).size = min s.size m := by
  unfold cutB
  rw [ByteArray.size_extract]
  omega
theorem cut_cut (m : Nat) (s : ByteArray) : cutB m (cutB m s) = cutB m s := by
  have h := cut_size m s
  obtain ⟨t, ht⟩ : ∃ t, cutB m s = t := ⟨_, rfl⟩
  rw [ht] at h ⊢
  unfold cutB
  have e : (min (t.size : Int) (m : Int)).toNat = t.size := by omega
  rw [e, ByteArray.extract_zero_size]
def cutL (l : Lf) : Lf := ⟨cutB 49 l.p, l.id⟩
def cutC (r : Ch) : Ch := ⟨cutB 49 r.p, r.is, cutB 257 r.t⟩
/-- The first rows and bytes of an object. -/
def preO (x : Ov) : Ov := { x with text := cutB 257 x.text, note := cutB 201 x.note, lv := x.lv.take 33, ps := x.ps.take 4, es := x.es.take 33 }
def shortO (x : Ov) : Ov := { preO x with lv := (x.lv.take 33).map cutL, es := (x.es.take 33).map cutC }
theorem cutL_cut (l : Lf) : cutL (cutL l) = cutL l := by unfold cutL; simp [cut_cut]
theorem cutC_cut (r : Ch) : cutC (cutC r) = cutC r := by unfold cutC; simp [cut_cut]
theorem take_map_take {α : Type} {f : α → α} (hf : ∀ a, f (f a) = f a) (k : Nat) (l : List α) : ((((l.take k).map f).take k).map f) = (l.take k).map f := by
  rw [List.take_of_length_le (by rw [List.length_map, List.length_take]; omega), List.map_map]
  congr 1
  funext a
  exact hf a
theorem short_short (x : Ov) : shortO (shortO x) = shortO x := by
  have h1 := take_map_take cutL_cut 33 x.lv
  have h2 := take_map_take cutC_cut 33 x.es
  have h3 : (x.ps.take 4).take 4 = x.ps.take 4 := by rw [List.take_take]; simp
  unfold shortO preO
  simp only [cut_cut, h1, h2, h3]
end Go.Proofs.YtnkhoghdfncgpaaDoor
namespace Go.Proofs.YtnkhoghdfncgpaaDoor
section
variable {P : Program} {ops : Array Oper} {Q : Exit → Act → World → Prop} {md : Region.Mode} {S : World → Prop} {m : Nat}

def wpHd (P : Program) (ops : Array Oper) (S : World → Prop) (K : Act → Prop) : List Bool → List Oper → Act → Prop
  | _, [], a => K a
  | [], _ :: _, _ => False
  | true :: bs, o :: r, a => ∃ v, YieldsIf P ops S o v a ∧ wpHd P ops S K bs r (a.put o.dst v)
  | false :: bs, o :: r, a => ∃ v, YieldsIf P ops (fun _ => True) o v a ∧ wpHd P ops S K bs r (a.put o.dst v)
theorem wpHd_nil {K : Act → Prop} {bs : List Bool} {a : Act} : wpHd P ops S K bs [] a = K a := by cases bs <;> rfl
theorem br_head {K : Act → Prop} {g : Nat} {w : World} (hsel : Region.noSelect ops = true) (hQ : ∀ c a a' w, Q (.panic c) a w → Q (.panic c) a' w) (hS : S w) :
    ∀ (l : List Oper) (bs : List Bool) (k : Nat) (listed : Array Bool) (a : Act), (∀ j, j < l.length → l[j]? = ops[k + j]?) → Region.lexHead md ops g l.length k listed = true → k + l.length ≤ m →
      (∀ i, i < l.length → bs[i]? = some true → ∀ j oj, m ≤ j → ops[j]? = some oj → ∃ e ∈ oj.after, Region.binds md e = true ∧ e.on = k + i) →
      wpHd P ops S K bs l a → (∀ listed a, Region.seqB md ops g (k + l.length) listed = true → K a → wpBk P md ops Q S m g listed a w) → wpBk P md ops Q S m (l.length + g) listed a w
  | [], bs, k, listed, a, _, hB, _, _, h, hK => by
    rw [wpHd_nil] at h
    simp only [List.length_nil, Nat.zero_add, Nat.add_zero] at hB hK ⊢
    exact hK listed a hB h
  | o :: l, [], k, listed, a, _, _, _, _, h, _ => h.elim
  | o :: l, b :: bs, k, listed, a, hl, hB, hm, hbar, h, hK => by
    have h0 : ops[k]? = some o := by simpa using (hl 0 (by simp)).symm
    simp only [List.length_cons, Region.lexHead, Bool.and_eq_true] at hB
    obtain ⟨⟨hr, hf⟩, hB⟩ := hB
    rw [show (o :: l).length + g = (l.length + g) + 1 by simp; omega]
    simp only [List.length_cons] at hm hbar hK
    have next : ∀ v, wpHd P ops S K bs l (a.put o.dst v) → wpBk P md ops Q S m (l.length + g) (listed.setIfInBounds k true) (a.put o.dst v) w := fun v h =>
      br_head hsel hQ hS l bs (k + 1) _ _ (fun j hj => by have := hl (j + 1) (by simp; omega); simpa [Nat.add_assoc, Nat.add_comm 1 j] using this) hB (by omega)
        (fun i hi hb j oj hj hoj => by obtain ⟨e, h1, h2, h3⟩ := hbar (i + 1) (by omega) (by simpa using hb) j oj hj hoj; exact ⟨e, h1, h2, by omega⟩) h
        (fun listed a hs hk => hK listed a (by simpa [Nat.add_assoc, Nat.add_comm 1 l.length] using hs) hk)
    cases b with
    | false =>
      obtain ⟨v, hy, h⟩ := h
      exact wpBk_pure h0 (Region.noSelect_spec hsel) (fun c a w h => hQ c _ _ w h) _ listed a w (Region.free_spec h0 hf) (by simpa using hr) hy (next v h)
    | true =>
      obtain ⟨v, hy, h⟩ := h
      exact wpBk_first h0 (Region.noSelect_spec hsel) (fun c a w h => hQ c _ _ w h) (fun j oj hj hoj => hbar 0 (by omega) rfl j oj hj hoj) (by omega) _ listed a w (Region.free_spec h0 hf) (by simpa using hr) hy hS (next v h)

def brB (ops : Array Oper) (bs : List Bool) (p : Nat) : Bool :=
  Region.noSelect ops && decide (p ≤ ops.size) && ((List.range p).all fun i => !(bs[i]? == some true) || (List.range ops.size).all fun j => decide (j < p) || Region.waitsFor .any ops j i) && Region.lexHead .any ops (ops.size - p) p 0 (Array.replicate ops.size false)

theorem wp_region_br {id : Nat} {a : Act} {w : World} {l : List Oper} (bs : List Bool) (p : Nat) (S : World → Prop) (hm : P.follows .mixedOrders = true) (hB : brB l.toArray bs p = true) (hS : S w.drew)
    (h : wpHd P l.toArray S (fun a1 => wpList P l.toArray (NoPanic Q) (l.drop p) a1 w.drew) bs (l.take p) a) : (Code.region id l.toArray true).wp P Q a w := by
  simp only [brB, Bool.and_eq_true, decide_eq_true_eq] at hB
  obtain ⟨⟨⟨hsel, hps⟩, hbar⟩, hlex⟩ := hB
  have hps' : p ≤ l.length := by simpa using hps
  have htl : (l.take p).length = p := by simp; omega
  have hdl : (l.drop p).length = l.length - p := by simp
  refine wp_region_noPanic (wp_region_any hm (wpAny_of_bk (S := S) (m := p) _ _ _ _ ?_))
  have H := br_head (P := P) (md := .any) (ops := l.toArray) (Q := NoPanic Q) (S := S) (m := p) (g := l.length - p) (w := w.drew) hsel (fun _ _ _ _ h => h) hS (l.take p) bs 0 (Array.replicate l.toArray.size false) a (fun j hj => by rw [htl] at hj; simp [hj]) (by rw [htl]; simpa using hlex) (by omega)
    (fun i hi hb j oj hmj hj => by
      rw [htl] at hi
      have h1 := List.all_eq_true.1 hbar i (List.mem_range.2 (by omega))
      simp only [Bool.or_eq_true, Bool.not_eq_true', beq_eq_false_iff_ne, ne_eq] at h1
      rcases h1 with h1 | h1
      · exact absurd hb h1
      have h2 := List.all_eq_true.1 h1 j (List.mem_range.2 (Array.getElem?_eq_some_iff.1 hj).1)
      simp only [Bool.or_eq_true, decide_eq_true_eq] at h2
      rcases h2 with h2 | h2
      · omega
      · obtain ⟨oj', hoj', e, he, hb, hon⟩ := Region.waitsFor_spec h2
        rw [hj] at hoj'
        injection hoj' with hoj'
        subst hoj'
        exact ⟨e, he, hb, by omega⟩) h
    (fun listed a1 hs hk => by
      rw [htl, Nat.zero_add] at hs
      rw [← hdl] at hs ⊢
      exact bk_tail (l.drop p) p listed a1 w.drew (Nat.le_refl _) (fun j => by simp [List.getElem?_drop]) hs hk)
  rw [htl] at H
  have e : l.toArray.size = p + (l.length - p) := by simp; omega
  rw [e] at H ⊢
  exact H
end
end Go.Proofs.YtnkhoghdfncgpaaDoor
namespace Go.Proofs.YtnkhoghdfncgpaaDoor
set_option linter.unusedVariables false
section
variable {P : Program} {ops : Array Oper} {Q : Exit → Act → World → Prop} {md : Region.Mode} {S : World → Prop} {m : Nat}

def bkP (md : Region.Mode) (ops : Array Oper) (listed : Array Bool) (i : Nat) : Bool := Region.noSelect ops && (Region.ready md ops listed).contains i && Region.free md ops listed i
def bkT (ops : Array Oper) (m : Nat) (listed : Array Bool) (i : Nat) : Bool := bkP .any ops listed i && decide (i < m) && (List.range ops.size).all fun j => decide (j < m) || Region.waitsFor .any ops j i
/-- A read. -/
theorem wpBk_take {i fuel : Nat} {oi : Oper} {v : Value} {listed : Array Bool} {a : Act} {w : World} (hi : ops[i]? = some oi) (hB : bkT ops m listed i = true) (hQ : ∀ c a a' w, Q (.panic c) a w → Q (.panic c) a' w)
    (hy : YieldsIf P ops S oi v a) (hS : S w) (H : wpBk P .any ops Q S m fuel (listed.setIfInBounds i true) (a.put oi.dst v) w) : wpBk P .any ops Q S m (fuel + 1) listed a w := by
  simp only [bkT, bkP, Bool.and_eq_true, decide_eq_true_eq] at hB
  obtain ⟨⟨⟨⟨hsel, hr⟩, hf⟩, him⟩, hbar⟩ := hB
  refine wpBk_first hi (Region.noSelect_spec hsel) (fun c a w h => hQ c _ _ w h) (fun j oj hmj hj => ?_) him fuel listed a w (Region.free_spec hi hf) (by simpa using hr) hy hS H
  have h2 := List.all_eq_true.1 hbar j (List.mem_range.2 (Array.getElem?_eq_some_iff.1 hj).1)
  simp only [Bool.or_eq_true, decide_eq_true_eq] at h2
  rcases h2 with h2 | h2
  · omega
  · obtain ⟨oj', hoj', e, he, hb, hon⟩ := Region.waitsFor_spec h2
    rw [hj] at hoj'
    injection hoj' with hoj'
    subst hoj'
    exact ⟨e, he, hb, hon⟩
/-- What has one value in whatever world. -/
theorem wpBk_takeP {i fuel : Nat} {oi : Oper} {v : Value} {listed : Array Bool} {a : Act} {w : World} (hi : ops[i]? = some oi) (hB : bkP md ops listed i = true) (hQ : ∀ c a a' w, Q (.panic c) a w → Q (.panic c) a' w)
    (hy : YieldsIf P ops (fun _ => True) oi v a) (H : wpBk P md ops Q S m fuel (listed.setIfInBounds i true) (a.put oi.dst v) w) : wpBk P md ops Q S m (fuel + 1) listed a w := by
  simp only [bkP, Bool.and_eq_true] at hB
  obtain ⟨⟨hsel, hr⟩, hf⟩ := hB
  exact wpBk_pure hi (Region.noSelect_spec hsel) (fun c a w h => hQ c _ _ w h) fuel listed a w (Region.free_spec hi hf) (by simpa using hr) hy H
/-- Steps that are free of one another. -/
theorem wpBk_free {a0 : Act} {l0 : Array Bool} {w0 : World} (I : (Nat → Value) → Act → Array Bool → Nat → Array Bool → Act → World → Prop) (g : Nat) (tb : List (Nat × List Nat))
    (hr : ∀ old f l a w, I old a0 l0 (g + f + 1) l a w → (!(Region.ready md ops l).isEmpty && (Region.ready md ops l).all fun i => tb.any fun jp => i == jp.1 && !l.getD jp.1 true && jp.2.all fun q => l.getD q false) = true)
    (hs : ∀ old f l a w, I old a0 l0 (g + f + 1) l a w → ∀ jp ∈ tb, l.getD jp.1 true = false → (jp.2.all fun q => l.getD q false) = true →
      wpOp P ops Q jp.1 (fun a' w' => (S w → jp.1 < m → S w') ∧ I old a0 l0 (g + f) (l.setIfInBounds jp.1 true) a' w') a w)
    (hend : ∀ old l a w, I old a0 l0 g l a w → wpBk P md ops Q S m g l a w)
    (f : Nat) (h : I (fun i => a0.tmps.getD i undef) a0 l0 (g + f) l0 a0 w0) : wpBk P md ops Q S m (g + f) l0 a0 w0 := by
  have key : ∀ f l a w, I (fun i => a0.tmps.getD i undef) a0 l0 (g + f) l a w → wpBk P md ops Q S m (g + f) l a w := by
    intro f
    induction f with
    | zero => exact fun l a w hI => hend _ l a w hI
    | succ f ih =>
      intro l a w hI
      have h1 := hr _ f l a w hI
      refine ⟨fun h0 => ?_, fun i hi => ?_⟩
      · rw [show Region.ready md ops l = [] from h0] at h1
        simp at h1
      · rw [Bool.and_eq_true, List.all_eq_true] at h1
        obtain ⟨jp, hjp, h2⟩ := List.any_eq_true.1 (h1.2 i hi)
        rw [Bool.and_eq_true, Bool.and_eq_true, beq_iff_eq, Bool.not_eq_true'] at h2
        obtain ⟨⟨rfl, h3⟩, h4⟩ := h2
        exact wpOp_mono (fun a' w' h' => ⟨h'.1, ih _ a' w' h'.2⟩) (hs _ f l a w hI jp hjp h3 h4)
  exact key f l0 a0 w0 h
theorem wpOp_of {i : Nat} {o : Oper} {K : Act → World → Prop} {a : Act} {w : World} (ho : ops[i]? = some o) (hg : o.guard = none) (h : ∀ K' : Act → World → Prop, (∀ a w, K a w → K' a w) → o.wp P a w K' Q) : wpOp P ops Q i K a w :=
  wpOp_step ho fun K' hK => by
    rw [if_pos (by simp [Region.wanted, hg])]
    exact h K' hK
end
end Go.Proofs.YtnkhoghdfncgpaaDoor
