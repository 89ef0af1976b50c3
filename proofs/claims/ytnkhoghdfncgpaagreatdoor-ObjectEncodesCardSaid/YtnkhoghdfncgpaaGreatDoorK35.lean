/-
  OWN LAW: a drawn region whose head only reads, or reckons; what is read all of the tail waits for. The tail, in one forced order, may store over what was read.
  OWN LAWS: a drawn region, part by part: what is read is taken ahead of what may store over it; steps that are free of one another are walked once for each state.
  STAGE 6's REFERENCE: an object in memory of its own.
-/
import Derived.Test.YtnkhoghdfncgpaaGreatDoorK07
import Derived.Test.YtnkhoghdfncgpaaGreatDoorK34
import Derived.Laws.AppendOwn
namespace Go.Proofs.YtnkhoghdfncgpaaGreatDoor
section
variable {P : Program} {ops : Array Oper} {Q : Exit → Act → World → Prop} {md : Region.Mode} {S : World → Prop} {m : Nat}

def wpHd (P : Program) (ops : Array Oper) (S : World → Prop) (K : Act → Prop) : List Bool → List Oper → Act → Prop
  | _, [], a => K a
  | [], _ :: _, _ => False
  | true :: bs, o :: r, a => ∃ v, YieldsIf P ops S o v a ∧ wpHd P ops S K bs r (a.put o.dst v)
  | false :: bs, o :: r, a => ∃ v, YieldsIf P ops (fun _ => True) o v a ∧ wpHd P ops S K bs r (a.put o.dst v)
theorem wpHd_nil {K : Act → Prop} {bs : List Bool} {a : Act} : wpHd P ops S K bs [] a = K a := by cases bs <;> rfl
theorem br_head {K : Act → Prop} {g : Nat} {w : World} (hsel : Region.noSelect ops = true) (hQ : ∀ c a a' w, Q (.panic c) a w → Q (.panic c) a' w) (hS : S w) :
    ∀ (l : List Oper) (bs : List Bool) (k : Nat) (listed : Array Bool) (a : Act), (∀ j, j < l.length → l[j]? = ops[k + j]?) → Region.lexHead md ops g l.length k listed = true → k + l.length ≤ m →
      (∀ i, i < l.length → bs[i]? = some true → ∀ j oj, m ≤ j → ops[j]? = some oj → ∃ e ∈ oj.after, Region.binds md e = true ∧ e.on = k + i) →
      wpHd P ops S K bs l a → (∀ listed a, Region.seqB md ops g (k + l.length) listed = true → K a → wpBk P md ops Q S m g listed a w) → wpBk P md ops Q S m (l.length + g) listed a w
  | [], bs, k, listed, a, _, hB, _, _, h, hK => by
    rw [wpHd_nil] at h
    simp only [List.length_nil, Nat.zero_add, Nat.add_zero] at hB hK ⊢
    exact hK listed a hB h
  | o :: l, [], k, listed, a, _, _, _, _, h, _ => h.elim
  | o :: l, b :: bs, k, listed, a, hl, hB, hm, hbar, h, hK => by
    have h0 : ops[k]? = some o := by simpa using (hl 0 (by simp)).symm
    simp only [List.length_cons, Region.lexHead, Bool.and_eq_true] at hB
    obtain ⟨⟨hr, hf⟩, hB⟩ := hB
    rw [show (o :: l).length + g = (l.length + g) + 1 by simp; omega]
    simp only [List.length_cons] at hm hbar hK
    have next : ∀ v, wpHd P ops S K bs l (a.put o.dst v) → wpBk P md ops Q S m (l.length + g) (listed.setIfInBounds k true) (a.put o.dst v) w := fun v h =>
      br_head hsel hQ hS l bs (k + 1) _ _ (fun j hj => by have := hl (j + 1) (by simp; omega); simpa [Nat.add_assoc, Nat.add_comm 1 j] using this) hB (by omega)
        (fun i hi hb j oj hj hoj => by obtain ⟨e, h1, h2, h3⟩ := hbar (i + 1) (by omega) (by simpa using hb) j oj hj hoj; exact ⟨e, h1, h2, by omega⟩) h
        (fun listed a hs hk => hK listed a (by simpa [Nat.add_assoc, Nat.add_comm 1 l.length] using hs) hk)
    cases b with
    | false =>
      obtain ⟨v, hy, h⟩ := h
      exact wpBk_pure h0 (Region.noSelect_spec hsel) (fun c a w h => hQ c _ _ w h) _ listed a w (Region.free_spec h0 hf) (by simpa using hr) hy (next v h)
    | true =>
      obtain ⟨v, hy, h⟩ := h
      exact wpBk_first h0 (Region.noSelect_spec hsel) (fun c a w h => hQ c _ _ w h) (fun j oj hj hoj => hbar 0 (by omega) rfl j oj hj hoj) (by omega) _ listed a w (Region.free_spec h0 hf) (by simpa using hr) hy hS (next v h)

def brB (ops : Array Oper) (bs : List Bool) (p : Nat) : Bool :=
  Region.noSelect ops && decide (p ≤ ops.size) && ((List.range p).all fun i => !(bs[i]? == some true) || (List.range ops.size).all fun j => decide (j < p) || Region.waitsFor .any ops j i) && Region.lexHead .any ops (ops.size - p) p 0 (Array.replicate ops.size false)

theorem wp_region_br {id : Nat} {a : Act} {w : World} {l : List Oper} (bs : List Bool) (p : Nat) (S : World → Prop) (hm : P.follows .mixedOrders = true) (hB : brB l.toArray bs p = true) (hS : S w.drew)
    (h : wpHd P l.toArray S (fun a1 => wpList P l.toArray (NoPanic Q) (l.drop p) a1 w.drew) bs (l.take p) a) : (Code.region id l.toArray true).wp P Q a w := by
  simp only [brB, Bool.and_eq_true, decide_eq_true_eq] at hB
  obtain ⟨⟨⟨hsel, hps⟩, hbar⟩, hlex⟩ := hB
  have hps' : p ≤ l.length := by simpa using hps
  have htl : (l.take p).length = p := by simp; omega
  have hdl : (l.drop p).length = l.length - p := by simp
  refine wp_region_noPanic (wp_region_any hm (wpAny_of_bk (S := S) (m := p) _ _ _ _ ?_))
  have H := br_head (P := P) (md := .any) (ops := l.toArray) (Q := NoPanic Q) (S := S) (m := p) (g := l.length - p) (w := w.drew) hsel (fun _ _ _ _ h => h) hS (l.take p) bs 0 (Array.replicate l.toArray.size false) a (fun j hj => by rw [htl] at hj; simp [hj]) (by rw [htl]; simpa using hlex) (by omega)
    (fun i hi hb j oj hmj hj => by
      rw [htl] at hi
      have h1 := List.all_eq_true.1 hbar i (List.mem_range.2 (by omega))
      simp only [Bool.or_eq_true, Bool.not_eq_true', beq_eq_false_iff_ne, ne_eq] at h1
      rcases h1 with h1 | h1
      · exact absurd hb h1
      have h2 := List.all_eq_true.1 h1 j (List.mem_range.2 (Array.getElem?_eq_some_iff.1 hj).1)
      simp only [Bool.or_eq_true, decide_eq_true_eq] at h2
      rcases h2 with h2 | h2
      · omega
      · obtain ⟨oj', hoj', e, he, hb, hon⟩ := Region.waitsFor_spec h2
        rw [hj] at hoj'
        injection hoj' with hoj'
        subst hoj'
        exact ⟨e, he, hb, by omega⟩) h
    (fun listed a1 hs hk => by
      rw [htl, Nat.zero_add] at hs
      rw [← hdl] at hs ⊢
      exact bk_tail (l.drop p) p listed a1 w.drew (Nat.le_refl _) (fun j => by simp [List.getElem?_drop]) hs hk)
  rw [htl] at H
  have e : l.toArray.size = p + (l.length - p) := by simp; omega
  rw [e] at H ⊢
  exact H
end
end Go.Proofs.YtnkhoghdfncgpaaGreatDoor
namespace Go.Proofs.YtnkhoghdfncgpaaGreatDoor
set_option linter.unusedVariables false
section
variable {P : Program} {ops : Array Oper} {Q : Exit → Act → World → Prop} {md : Region.Mode} {S : World → Prop} {m : Nat}

def bkP (md : Region.Mode) (ops : Array Oper) (listed : Array Bool) (i : Nat) : Bool := Region.noSelect ops && (Region.ready md ops listed).contains i && Region.free md ops listed i
def bkT (ops : Array Oper) (m : Nat) (listed : Array Bool) (i : Nat) : Bool := bkP .any ops listed i && decide (i < m) && (List.range ops.size).all fun j => decide (j < m) || Region.waitsFor .any ops j i
/-- A read. -/
theorem wpBk_take {i fuel : Nat} {oi : Oper} {v : Value} {listed : Array Bool} {a : Act} {w : World} (hi : ops[i]? = some oi) (hB : bkT ops m listed i = true) (hQ : ∀ c a a' w, Q (.panic c) a w → Q (.panic c) a' w)
    (hy : YieldsIf P ops S oi v a) (hS : S w) (H : wpBk P .any ops Q S m fuel (listed.setIfInBounds i true) (a.put oi.dst v) w) : wpBk P .any ops Q S m (fuel + 1) listed a w := by
  simp only [bkT, bkP, Bool.and_eq_true, decide_eq_true_eq] at hB
  obtain ⟨⟨⟨⟨hsel, hr⟩, hf⟩, him⟩, hbar⟩ := hB
  refine wpBk_first hi (Region.noSelect_spec hsel) (fun c a w h => hQ c _ _ w h) (fun j oj hmj hj => ?_) him fuel listed a w (Region.free_spec hi hf) (by simpa using hr) hy hS H
  have h2 := List.all_eq_true.1 hbar j (List.mem_range.2 (Array.getElem?_eq_some_iff.1 hj).1)
  simp only [Bool.or_eq_true, decide_eq_true_eq] at h2
  rcases h2 with h2 | h2
  · omega
  · obtain ⟨oj', hoj', e, he, hb, hon⟩ := Region.waitsFor_spec h2
    rw [hj] at hoj'
    injection hoj' with hoj'
    subst hoj'
    exact ⟨e, he, hb, hon⟩
/-- What has one value in whatever world. -/
theorem wpBk_takeP {i fuel : Nat} {oi : Oper} {v : Value} {listed : Array Bool} {a : Act} {w : World} (hi : ops[i]? = some oi) (hB : bkP md ops listed i = true) (hQ : ∀ c a a' w, Q (.panic c) a w → Q (.panic c) a' w)
    (hy : YieldsIf P ops (fun _ => True) oi v a) (H : wpBk P md ops Q S m fuel (listed.setIfInBounds i true) (a.put oi.dst v) w) : wpBk P md ops Q S m (fuel + 1) listed a w := by
  simp only [bkP, Bool.and_eq_true] at hB
  obtain ⟨⟨hsel, hr⟩, hf⟩ := hB
  exact wpBk_pure hi (Region.noSelect_spec hsel) (fun c a w h => hQ c _ _ w h) fuel listed a w (Region.free_spec hi hf) (by simpa using hr) hy H
/-- Steps that are free of one another. -/
theorem wpBk_free {a0 : Act} {l0 : Array Bool} {w0 : World} (I : (Nat → Value) → Act → Array Bool → Nat → Array Bool → Act → World → Prop) (g : Nat) (tb : List (Nat × List Nat))
    (hr : ∀ old f l a w, I old a0 l0 (g + f + 1) l a w → (!(Region.ready md ops l).isEmpty && (Region.ready md ops l).all fun i => tb.any fun jp => i == jp.1 && !l.getD jp.1 true && jp.2.all fun q => l.getD q false) = true)
    (hs : ∀ old f l a w, I old a0 l0 (g + f + 1) l a w → ∀ jp ∈ tb, l.getD jp.1 true = false → (jp.2.all fun q => l.getD q false) = true →
      wpOp P ops Q jp.1 (fun a' w' => (S w → jp.1 < m → S w') ∧ I old a0 l0 (g + f) (l.setIfInBounds jp.1 true) a' w') a w)
    (hend : ∀ old l a w, I old a0 l0 g l a w → wpBk P md ops Q S m g l a w)
    (f : Nat) (h : I (fun i => a0.tmps.getD i undef) a0 l0 (g + f) l0 a0 w0) : wpBk P md ops Q S m (g + f) l0 a0 w0 := by
  have key : ∀ f l a w, I (fun i => a0.tmps.getD i undef) a0 l0 (g + f) l a w → wpBk P md ops Q S m (g + f) l a w := by
    intro f
    induction f with
    | zero => exact fun l a w hI => hend _ l a w hI
    | succ f ih =>
      intro l a w hI
      have h1 := hr _ f l a w hI
      refine ⟨fun h0 => ?_, fun i hi => ?_⟩
      · rw [show Region.ready md ops l = [] from h0] at h1
        simp at h1
      · rw [Bool.and_eq_true, List.all_eq_true] at h1
        obtain ⟨jp, hjp, h2⟩ := List.any_eq_true.1 (h1.2 i hi)
        rw [Bool.and_eq_true, Bool.and_eq_true, beq_iff_eq, Bool.not_eq_true'] at h2
        obtain ⟨⟨rfl, h3⟩, h4⟩ := h2
        exact wpOp_mono (fun a' w' h' => ⟨h'.1, ih _ a' w' h'.2⟩) (hs _ f l a w hI jp hjp h3 h4)
  exact key f l0 a0 w0 h
theorem wpOp_of {i : Nat} {o : Oper} {K : Act → World → Prop} {a : Act} {w : World} (ho : ops[i]? = some o) (hg : o.guard = none) (h : ∀ K' : Act → World → Prop, (∀ a w, K a w → K' a w) → o.wp P a w K' Q) : wpOp P ops Q i K a w :=
  wpOp_step ho fun K' hK => by
    rw [if_pos (by simp [Region.wanted, hg])]
    exact h K' hK
end
end Go.Proofs.YtnkhoghdfncgpaaGreatDoor
namespace Go.Proofs.YtnkhoghdfncgpaaGreatDoor
set_option linter.unusedVariables false
set_option linter.unusedSimpArgs false
open Go.RowKit Go.WideShapes Go.ChangeShapes Go.Deep Go.Shelf
attribute [local irreducible] wpQuiet

theorem own_down {W W' : World} {base k n : Nat} {e : TypeId} {v : Value} {xs : List Value} (h : W.ownsRow base e k v n xs) (hb : Below W.heap.size W W') : W'.ownsRow base e k v n xs :=
  own_keep h fun g hg => (only_of_below hb none).block g (h.lt g hg).2 (by simp)
/-- Two rows of different types: what turns the one leaves the other. -/
theorem own_two {W W' : World} {e t : TypeId} {base base2 k k2 n m2 : Nat} {v v2 : Value} {xs ys : List Value} (h : W.ownsRow base e k v n xs) (h2 : W.ownsRow base2 t k2 v2 m2 ys) (hne : t ≠ e) (hg : W.grownBy W' v2.ownBlock) : W'.ownsRow base e k v n xs := by
  obtain ⟨A, c, rfl⟩ := own_shape h
  obtain ⟨A2, c2, rfl⟩ := own_shape h2
  refine own_keep h fun b hb => ?_
  obtain ⟨_, h3, cs, f, hc⟩ := own_ty h b hb
  refine hg.block b h3 (fun e' => ?_)
  obtain ⟨_, _, cs', f', hc'⟩ := own_ty h2 b e'.symm
  rw [hc] at hc'
  injection hc' with hc'
  injection hc' with _ e2
  exact hne e2.symm
/-- A row of one's own: not there yet, empty, or full. -/
structure Row3 (W : World) (base : Nat) (e : TypeId) (k n : Nat) (xs : List Value) (o p : Option Value) : Prop where
  z : ∀ v, o = some v → p = none → W.ownsRow base e k v 0 []
  f : ∀ v, p = some v → W.ownsRow base e k v n xs
section
variable {W W' : World} {base : Nat} {e : TypeId} {k n : Nat} {xs : List Value} {o p : Option Value}
theorem Row3.below (h : Row3 W base e k n xs o p) (hb : Below W.heap.size W W') : Row3 W' base e k n xs o p := ⟨fun v a b => own_down (h.z v a b) hb, fun v a => own_down (h.f v a) hb⟩
theorem Row3.other (h : Row3 W base e k n xs o p) {t : TypeId} {base2 k2 m2 : Nat} {v2 : Value} {ys : List Value} (h2 : W.ownsRow base2 t k2 v2 m2 ys) (hne : t ≠ e) (hg : W.grownBy W' v2.ownBlock) : Row3 W' base e k n xs o p :=
  ⟨fun v a b => own_two (h.z v a b) h2 hne hg, fun v a => own_two (h.f v a) h2 hne hg⟩
theorem Row3.made (base : Nat) (e : TypeId) (k n : Nat) (xs : List Value) (hb : base ≤ W.heap.size) : Row3 (W.alloc (.cells #[] e)) base e k n xs (some (.slice (some ⟨W.heap.size, 0, none⟩) 0 0)) none :=
  ⟨fun v a _ => (by injection a with a; subst a; exact World.ownsRow_made (base := base) (e := e) (size := k) W #[] 0 hb (Nat.zero_le _) (by simp)), fun v a => (by cases a)⟩
theorem Row3.full {v : Value} (h : W.ownsRow base e k v n xs) : Row3 W base e k n xs o (some v) := ⟨fun _ _ b => (by cases b), fun v' a => (by injection a with a; subst a; exact h)⟩
theorem Row3.none_ : Row3 W base e k n xs none none := ⟨fun _ a => (by cases a), fun _ a => (by cases a)⟩
end
theorem run_build0 {P : Program} (w : World) (t e : TypeId) (i : TypeInfo) (hu : P.underlying t = some (.slice e)) (hi : P.info? e = some i) : (Instr.buildSlice t 0 #[]).run P w = .ok (.slice (some ⟨w.heap.size, 0, none⟩) 0 0) (w.alloc (.cells #[] e)) := by
  simp [Instr.buildSlice, run_underlying hu, sizeOf, typeInfo, hi, Instr.fill, newRow]
  congr 2
  exact Array.eq_empty_of_size_eq_zero (by simp)
/-- An empty literal. -/
theorem wp_build0 {P : Program} {o : Oper} {a : Act} {w : World} {K : Act → World → Prop} {Q : Exit → Act → World → Prop} (t e : TypeId) (ho : o.op = .buildSlice t 0 #[]) (i : TypeInfo) (hu : P.underlying t = some (.slice e)) (hi : P.info? e = some i)
    (h : K (a.put o.dst (.slice (some ⟨w.heap.size, 0, none⟩) 0 0)) (w.alloc (.cells #[] e))) : o.wp P a w K Q := by
  unfold Oper.wp execOp
  simp only [ho, List.map_toArray, List.map_nil, Sem.run_bind, run_build0 w t e i hu hi, Result.andThen_ok]
  exact h
/-- Rows behind one's own: nil, empty or not; as a step of its own. -/
theorem wp_append_sq {α : Type} {f : α → List Value} {k : Nat} {P : Program} {w : World} {o : Oper} {a : Act} {K : Act → World → Prop} {Q : Exit → Act → World → Prop} (s x : Operand) (t : TypeId)
    (ho : o.op = .call { callee := .builtin .append, args := #[s, x], argTypes := #[t, t] })
    (base : Nat) (e : TypeId) (i : TypeInfo) (z : Value) (bytes : Nat) (ht : P.underlying t = some (.slice e)) (hi : P.info? e = some i) (hz : i.zero = some z) (hsize : i.size = k) (hby : i.bytes = bytes) (hzs : z.cells.size = k) (hk : 0 < k)
    (v : Value) (n : Nat) (l0 : List α) (hs : a.eval s = v) (hown : w.ownsRow base e k v n (l0.flatMap f))
    {B : Nat} {A : Option Addr} {m c : Nat} {l : List α} (hx : a.eval x = .slice A m c) (hr : Sq f k w B A m c l) (h1 : ∀ u ∈ l.flatMap f, u.oneCell' = true) (h63 : n + m ≤ 1000000) (hb : bytes ≤ 1000) (hbase : base ≤ w.heap.size)
    (h : ∀ v' w', w'.ownsRow base e k v' (n + m) ((l0 ++ l).flatMap f) → w.grownBy w' v.ownBlock → K (a.put o.dst v') w') : o.wp P a w K Q := by
  rcases A with _ | ad
  · obtain rfl : c = 0 := by have := hr.non rfl; omega
    obtain rfl : m = 0 := by have := hr.cap; omega
    obtain rfl : l = [] := List.eq_nil_of_length_eq_zero hr.len
    have hrun := run_append_owned_none (P := P) (w := w) base t o.type e i k ht hi v n _ hown
    unfold Oper.wp
    simp [execOp, ho, resolve, invoke, builtin, hs, hx, hrun, Result.andThen]
    exact h v w (by simpa using hown) (only_refl _ _)
  · have hc : ∀ j u, (l.flatMap f)[j]? = some u → w.cell? (ad.add j) = some u := by
      intro j u hu
      rcases Nat.eq_zero_or_pos m with h0 | h0
      · subst h0
        obtain rfl : l = [] := List.eq_nil_of_length_eq_zero hr.len
        simp at hu
      · obtain ⟨b, o', e', hlt, hc⟩ := hr.pos h0
        injection e' with e'
        subst e'
        rw [S3.addr_add]
        exact hc j u hu
    refine wp_append_own w s x t ho base e i z k bytes ht hi hz hsize hby hzs hk v n _ hs hown ad m c (l.flatMap f) hx (by rw [flat_len hr.sz, hr.len]) hc h1 (by unfold maxLen; omega) (Nat.le_trans (Nat.mul_le_mul h63 hb) (by omega)) hbase fun v' w' h2 h3 _ => h v' w' (by rw [List.flatMap_append]; exact h2) h3

/-- The rest, in its one order. -/
theorem bk_drop {P : Program} {md : Region.Mode} {Q : Exit → Act → World → Prop} {S : World → Prop} {m : Nat} {l : List Oper} {listed : Array Bool} {a : Act} {w : World} (k g : Nat) (hg : (l.drop k).length = g) (hmk : m ≤ k) (hB : Region.seqB md l.toArray g k listed = true) (h : wpList P l.toArray Q (l.drop k) a w) : wpBk P md l.toArray Q S m g listed a w := by
  subst hg
  exact bk_tail (l.drop k) k listed a w hmk (fun j => by simp [List.getElem?_drop]) hB h
/-- Rows of one's own for an object. -/
structure OwnO (w : World) (base : Nat) (x : Ov) (L P E : Sl) : Prop where
  l : w.ownsRow base 74 33 (.slice L.a L.n L.c) L.n (x.lv.flatMap Lf.cells)
  p : w.ownsRow base 26 32 (.slice P.a P.n P.c) P.n (x.ps.flatMap Idv.cells)
  e : w.ownsRow base 77 3 (.slice E.a E.n E.c) E.n (x.es.flatMap Ch.cells)
theorem flat_one {α : Type} {f : α → List Value} (h : ∀ x, (f x).toArray.all (·.oneCell') = true) (l : List α) : ∀ u ∈ l.flatMap f, u.oneCell' = true := by
  intro u hu
  obtain ⟨x, _, hx⟩ := List.mem_flatMap.1 hu
  have := h x
  rw [List.all_toArray, List.all_eq_true] at this
  exact this u hx
theorem ch_one1 (r : Ch) : r.cells.toArray.all (·.oneCell') = true := by simp [Ch.cells, Value.oneCell']
theorem below_own {W W' : World} {base k n : Nat} {e : TypeId} {v : Value} {xs : List Value} (h : W.ownsRow base e k v n xs) (hg : W.grownBy W' v.ownBlock) (hs : base ≤ W.heap.size) : Below base W W' :=
  ⟨hg.os, hg.tape, hg.output, hg.size, fun i hi => hg.block i (by omega) (fun e' => by have := (h.lt i e'.symm).1; omega)⟩
def optV (d : Value) : Option Value → Value
  | none => d
  | some v => v
theorem opt_is {o : Option Value} (h : o.isNone.toNat = 0) : ∃ v, o = some v := by cases o <;> simp_all

set_option maxRecDepth 100000 in
set_option maxHeartbeats 8000000 in
theorem Copy_any {w : World} {x : Ov} {L P E : Sl} (h : Obj3 w w.heap.size x L P E) (hL : L.n ≤ 1000000) (hP : P.n ≤ 1000000) (hE : E.n ≤ 1000000) :
    Calls Tryz.prog 28 #[ofV (x.at_ L P E)] w fun e w' => (∃ L' P' E', e = .returned (ofV (x.at_ L' P' E')) ∧ OwnO w' w.heap.size x L' P' E' ∧ L'.n = L.n ∧ P'.n = P.n ∧ E'.n = E.n) ∧ Below w.heap.size w w' := by
  obtain ⟨AL, nL, cL⟩ := L
  obtain ⟨AP, nP, cP⟩ := P
  obtain ⟨AE, nE, cE⟩ := E
  dsimp only at hL hP hE
  obtain ⟨xo, hxo⟩ : ∃ o, x.at_ ⟨AL, nL, cL⟩ ⟨AP, nP, cP⟩ ⟨AE, nE, cE⟩ = o := ⟨_, rfl⟩
  obtain ⟨w0, hw0⟩ : ∃ w0, ((w.alloc (.cells xo.cells.toArray 33)).alloc (.cells zOf.cells.toArray 33)) = w0 := ⟨_, rfl⟩
  obtain ⟨w1, hw1⟩ : ∃ w1, w.alloc (.cells xo.cells.toArray 33) = w1 := ⟨_, rfl⟩
  have B0 : Hid (Below w.heap.size w w0 ∧ w0.heap.size = w.heap.size + 1 + 1) := Lib.hid (by rw [← hw0]; exact ⟨((Below.refl _ _).alloc (Nat.le_refl _) _).alloc (by simp) _, by simp⟩)
  have S1 : Hid (w1.heap.size = w.heap.size + 1) := Lib.hid (by rw [← hw1]; simp)
  have X0 : Hid (Lies w0 w.heap.size 73 xo.cells) := Lib.hid (by
    rw [← hw0]
    have := (Lies.new w xo.cells 33).alloc (.cells zOf.cells.toArray 33)
    rwa [of_sz] at this)
  have X1 : Hid (Lies w0 (w.heap.size + 1) 73 zOf.cells) := Lib.hid (by
    rw [← hw0]
    have := Lies.new (w.alloc (.cells xo.cells.toArray 33)) zOf.cells 33
    rwa [World.size_alloc, of_sz] at this)
  have HX : Hid (∀ W, Below w0.heap.size w0 W → W.cell? ⟨w.heap.size, 2, none⟩ = some (.slice AL nL cL) ∧ W.cell? ⟨w.heap.size, 68, none⟩ = some (.slice AP nP cP) ∧ W.cell? ⟨w.heap.size, 69, none⟩ = some (.slice AE nE cE)) := Lib.hid fun W hW => by
    have h1 := X0.out.below hW X0.out.lt
    rw [← hxo] at h1
    obtain ⟨_, _, a2, _, _, _, a6, a7, _⟩ := obj_lies h1
    exact ⟨a2, a6, a7⟩
  have HSL : Hid (∀ W, Below w0.heap.size w0 W → SqL W W.heap.size AL nL cL x.lv) := Lib.hid fun W hW => (h.l.below (B0.out.1.trans (hW.mono B0.out.1.size))).more (Nat.le_trans B0.out.1.size hW.size)
  have HSP : Hid (∀ W, Below w0.heap.size w0 W → SqI W W.heap.size AP nP cP x.ps) := Lib.hid fun W hW => (h.p.below (B0.out.1.trans (hW.mono B0.out.1.size))).more (Nat.le_trans B0.out.1.size hW.size)
  have HSE : Hid (∀ W, Below w0.heap.size w0 W → SqC W W.heap.size AE nE cE x.es) := Lib.hid fun W hW => (h.e.below (B0.out.1.trans (hW.mono B0.out.1.size))).more (Nat.le_trans B0.out.1.size hW.size)
  have HXO := Lib.hid hxo
  have HW := Lib.hid hw0
  have HW1 := Lib.hid hw1
  obtain ⟨zz, hzz⟩ : ∃ z, zOf = z := ⟨_, rfl⟩
  have ZO : Hid (∀ w : World, (zeroValue 33).run Tryz.prog w = .ok (.agg zz.cells.toArray) w) := Lib.hid (by rw [← hzz]; exact zero_of)
  rw [hzz] at X1 HW
  clear hzz
  rw [hxo]
  clear hw0 hw1 hxo h
  go_enter Tryz.func28, Tryz.ntmps28
  go_upto_region 1 with (first
    | ((with_reducible refine alt 33 ?_ ?_ zz.cells ZO.out ?_); rfl; rfl; (try rw [HW.out]); (try simp only [World.size_alloc, Act.put, List.setIfInBounds_toArray, List.set_cons_succ, List.set_cons_zero]))
    | fail)
  clear HW
  have hbd : Below w0.heap.size w0 w0.drew := (Below.refl _ _).drew
  refine wp_region_noPanic (wp_region_any (by kernel_rfl) (wpAny_of_bk (S := (fun w' => w'.cell? ⟨w.heap.size, 2, none⟩ = some (.slice AL nL cL) ∧ w'.cell? ⟨w.heap.size, 68, none⟩ = some (.slice AP nP cP) ∧ w'.cell? ⟨w.heap.size, 69, none⟩ = some (.slice AE nE cE))) (m := 13) _ _ _ _ ?_))
  show wpBk _ _ _ _ _ _ 20 _ _ _
  refine wpBk_takeP (i := 1) rfl (by kernel_rfl) (fun _ _ _ _ h => h) (.inl ⟨rfl, fun w' hw' => (by clear hw'; go_simp; (try rfl))⟩) ?_
  simp only [List.getElem_toArray, List.getElem_cons_zero, List.getElem_cons_succ, Act.put, List.setIfInBounds_toArray, List.set_cons_succ, List.set_cons_zero]
  refine wpBk_take (i := 2) rfl (by kernel_rfl) (fun _ _ _ _ h => h) (.inl ⟨rfl, fun w' hw' => (by obtain ⟨q0, q1, q2⟩ := hw'; go_simp; (try rfl))⟩) (HX.out _ hbd) ?_
  simp only [List.getElem_toArray, List.getElem_cons_zero, List.getElem_cons_succ, Act.put, List.setIfInBounds_toArray, List.set_cons_succ, List.set_cons_zero]
  refine wpBk_takeP (i := 5) rfl (by kernel_rfl) (fun _ _ _ _ h => h) (.inl ⟨rfl, fun w' hw' => (by clear hw'; go_simp; (try rfl))⟩) ?_
  simp only [List.getElem_toArray, List.getElem_cons_zero, List.getElem_cons_succ, Act.put, List.setIfInBounds_toArray, List.set_cons_succ, List.set_cons_zero]
  refine wpBk_take (i := 6) rfl (by kernel_rfl) (fun _ _ _ _ h => h) (.inl ⟨rfl, fun w' hw' => (by obtain ⟨q0, q1, q2⟩ := hw'; go_simp; (try rfl))⟩) (HX.out _ hbd) ?_
  simp only [List.getElem_toArray, List.getElem_cons_zero, List.getElem_cons_succ, Act.put, List.setIfInBounds_toArray, List.set_cons_succ, List.set_cons_zero]
  refine wpBk_takeP (i := 9) rfl (by kernel_rfl) (fun _ _ _ _ h => h) (.inl ⟨rfl, fun w' hw' => (by clear hw'; go_simp; (try rfl))⟩) ?_
  simp only [List.getElem_toArray, List.getElem_cons_zero, List.getElem_cons_succ, Act.put, List.setIfInBounds_toArray, List.set_cons_succ, List.set_cons_zero]
  refine wpBk_takeP (i := 10) rfl (by kernel_rfl) (fun _ _ _ _ h => h) (.inl ⟨rfl, fun w' hw' => (by clear hw'; go_simp; (try rfl))⟩) ?_
  simp only [List.getElem_toArray, List.getElem_cons_zero, List.getElem_cons_succ, Act.put, List.setIfInBounds_toArray, List.set_cons_succ, List.set_cons_zero]
  refine wpBk_take (i := 11) rfl (by kernel_rfl) (fun _ _ _ _ h => h) (.inl ⟨rfl, fun w' hw' => (by obtain ⟨q0, q1, q2⟩ := hw'; go_simp; (try rfl))⟩) (HX.out _ hbd) ?_
  simp only [List.getElem_toArray, List.getElem_cons_zero, List.getElem_cons_succ, Act.put, List.setIfInBounds_toArray, List.set_cons_succ, List.set_cons_zero]
  refine wpBk_free (fun old a0 l0 f l a w' => ∃ (o1 p1 o2 p2 o3 p3 o4 : Option Value), f = 6 + (o1.isNone.toNat + (p1.isNone.toNat + (o2.isNone.toNat + (p2.isNone.toNat + (o3.isNone.toNat + (p3.isNone.toNat + o4.isNone.toNat)))))) ∧ ((p1.isSome = true → o1.isSome = true) ∧ (p2.isSome = true → o2.isSome = true ∧ p1.isSome = true) ∧ (p3.isSome = true → o3.isSome = true ∧ p2.isSome = true) ∧ (o4.isSome = true → p1.isSome = true)) ∧ l = (((((((l0).setIfInBounds 0 o1.isSome).setIfInBounds 3 p1.isSome).setIfInBounds 4 o2.isSome).setIfInBounds 7 p2.isSome).setIfInBounds 8 o3.isSome).setIfInBounds 12 p3.isSome).setIfInBounds 13 o4.isSome ∧ a = { tmps := (((((((a0.tmps).setIfInBounds 3 (optV (old 3) o1)).setIfInBounds 6 (optV (old 6) p1)).setIfInBounds 7 (optV (old 7) o2)).setIfInBounds 10 (optV (old 10) p2)).setIfInBounds 11 (optV (old 11) o3)).setIfInBounds 15 (optV (old 15) p3)).setIfInBounds 16 (optV (old 16) o4), defers := a0.defers } ∧ (∀ v, o4 = some v → v = .pointer (some ⟨w.heap.size, 2, none⟩)) ∧ Below w0.heap.size w0 w' ∧ Row3 w' w0.heap.size 74 33 nL (x.lv.flatMap Lf.cells) o1 p1 ∧ Row3 w' w0.heap.size 26 32 nP (x.ps.flatMap Idv.cells) o2 p2 ∧ Row3 w' w0.heap.size 77 3 nE (x.es.flatMap Ch.cells) o3 p3) 6 [(0, []), (4, []), (8, []), (3, [0]), (7, [4, 3]), (12, [8, 7]), (13, [3])] ?_ ?_ ?_ 7 ?_
  · rintro old f l a wz ⟨o1, p1, o2, p2, o3, p3, o4, hf, ⟨c1, c2, c3, c4⟩, rfl, -⟩
    rcases o1 with _ | _ <;> rcases p1 with _ | _ <;> rcases o2 with _ | _ <;> rcases p2 with _ | _ <;> rcases o3 with _ | _ <;> rcases p3 with _ | _ <;> rcases o4 with _ | _ <;> first | (exfalso; simp at c1 c2 c3 c4; done) | (exfalso; simp at hf; done) | (exfalso; simp at hf; omega) | kernel_rfl
  · rintro old f l a wz ⟨o1, p1, o2, p2, o3, p3, o4, hf, ⟨c1, c2, c3, c4⟩, rfl, rfl, hv4, hb, r1, r2, r3⟩ jp hjp hn hq
    simp only [List.mem_cons, List.not_mem_nil, or_false] at hjp
    rcases hjp with rfl | rfl | rfl | rfl | rfl | rfl | rfl
    · obtain rfl : o1 = none := by clear c1 c2 c3 c4 hf hq; cases o1 <;> first | rfl | exact absurd (show (false : Bool) = true from hn.symm.trans (by kernel_rfl)) (by decide)
      obtain rfl : p1 = none := by clear hn hq hf; cases p1 <;> simp_all
      clear hn hq
      obtain ⟨i0, hi, hz, hz1, hz2⟩ := info_parts info_lf
      refine wpOp_of rfl rfl (fun K hK => ?_)
      simp only [List.getElem_toArray, List.getElem_cons_zero, List.getElem_cons_succ, Act.put, List.setIfInBounds_toArray, List.set_cons_succ, List.set_cons_zero, List.getElem_toArray]
      refine wp_build0 24 74 rfl i0 Tryz.underlying24 hi ?_
      have hba : Below wz.heap.size wz (wz.alloc (.cells #[] 74)) := (Below.refl _ _).alloc (Nat.le_refl _) _
      have hb2 := hb.trans (hba.mono hb.size)
      refine hK _ _ ⟨fun _ _ => HX.out _ hb2, some (.slice (some ⟨wz.heap.size, 0, none⟩) 0 0), none, o2, p2, o3, p3, o4, ?_, ⟨(fun h9 => (by cases h9)), c2, c3, c4⟩, ?_, ?_, hv4, hb2, Row3.made _ _ _ _ _ hb.size, r2.below hba, r3.below hba⟩
      · simp at hf ⊢; omega
      · kernel_rfl
      · kernel_rfl
    · obtain rfl : o2 = none := by clear c1 c2 c3 c4 hf hq; cases o2 <;> first | rfl | exact absurd (show (false : Bool) = true from hn.symm.trans (by kernel_rfl)) (by decide)
      obtain rfl : p2 = none := by clear hn hq hf; cases p2 <;> simp_all
      clear hn hq
      obtain ⟨i0, hi, hz, hz1, hz2⟩ := info_parts info_idv
      refine wpOp_of rfl rfl (fun K hK => ?_)
      simp only [List.getElem_toArray, List.getElem_cons_zero, List.getElem_cons_succ, Act.put, List.setIfInBounds_toArray, List.set_cons_succ, List.set_cons_zero, List.getElem_toArray]
      refine wp_build0 27 26 rfl i0 Tryz.underlying27 hi ?_
      have hba : Below wz.heap.size wz (wz.alloc (.cells #[] 26)) := (Below.refl _ _).alloc (Nat.le_refl _) _
      have hb2 := hb.trans (hba.mono hb.size)
      refine hK _ _ ⟨fun _ _ => HX.out _ hb2, o1, p1, some (.slice (some ⟨wz.heap.size, 0, none⟩) 0 0), none, o3, p3, o4, ?_, ⟨c1, (fun h9 => (by cases h9)), c3, c4⟩, ?_, ?_, hv4, hb2, r1.below hba, Row3.made _ _ _ _ _ hb.size, r3.below hba⟩
      · simp at hf ⊢; omega
      · kernel_rfl
      · kernel_rfl
    · obtain rfl : o3 = none := by clear c1 c2 c3 c4 hf hq; cases o3 <;> first | rfl | exact absurd (show (false : Bool) = true from hn.symm.trans (by kernel_rfl)) (by decide)
      obtain rfl : p3 = none := by clear hn hq hf; cases p3 <;> simp_all
      clear hn hq
      obtain ⟨i0, hi, hz, hz1, hz2⟩ := info_parts info_chg
      refine wpOp_of rfl rfl (fun K hK => ?_)
      simp only [List.getElem_toArray, List.getElem_cons_zero, List.getElem_cons_succ, Act.put, List.setIfInBounds_toArray, List.set_cons_succ, List.set_cons_zero, List.getElem_toArray]
      refine wp_build0 28 77 rfl i0 Tryz.underlying28 hi ?_
      have hba : Below wz.heap.size wz (wz.alloc (.cells #[] 77)) := (Below.refl _ _).alloc (Nat.le_refl _) _
      have hb2 := hb.trans (hba.mono hb.size)
      refine hK _ _ ⟨fun _ _ => HX.out _ hb2, o1, p1, o2, p2, some (.slice (some ⟨wz.heap.size, 0, none⟩) 0 0), none, o4, ?_, ⟨c1, c2, (fun h9 => (by cases h9)), c4⟩, ?_, ?_, hv4, hb2, r1.below hba, r2.below hba, Row3.made _ _ _ _ _ hb.size⟩
      · simp at hf ⊢; omega
      · kernel_rfl
      · kernel_rfl
    · obtain rfl : p1 = none := by clear c1 c2 c3 c4 hf hq; cases p1 <;> first | rfl | exact absurd (show (false : Bool) = true from hn.symm.trans (by kernel_rfl)) (by decide)
      obtain ⟨v0, rfl⟩ : ∃ v, o1 = some v := by clear c1 c2 c3 c4 hf hn; cases o1 <;> first | exact ⟨_, rfl⟩ | exact absurd (show (true : Bool) = false from hq.symm.trans (by kernel_rfl)) (by decide)
      clear hn hq
      obtain ⟨i0, hi, hz, hz1, hz2⟩ := info_parts info_lf
      refine wpOp_of rfl rfl (fun K hK => ?_)
      simp only [List.getElem_toArray, List.getElem_cons_zero, List.getElem_cons_succ, Act.put, List.setIfInBounds_toArray, List.set_cons_succ, List.set_cons_zero, List.getElem_toArray]
      have z0 := r1.z _ rfl rfl
      refine wp_append_sq (f := Lf.cells) (.tmp 3) (.tmp 5) 24 rfl w0.heap.size 74 i0 _ _ Tryz.underlying24 hi hz hz1 hz2 (by first | (show (Idv.cells Idv.zero).toArray.size = 32; rw [List.size_toArray]; exact id_sz _) | (show (Lf.cells zLf).toArray.size = 33; rw [List.size_toArray]; exact lf_sz _) | (simp [Value.cells]; done)) (by omega) v0 0 [] rfl z0 rfl (HSL.out _ hb) (flat_one lf_one _) (by omega) (by omega) hb.size ?_
      intro v1 w1z hown hg
      rw [Nat.zero_add, List.nil_append] at hown
      have hb1 := below_own z0 hg hb.size
      have hb2 := hb.trans hb1
      refine hK _ _ ⟨fun _ _ => HX.out _ hb2, some v0, some v1, o2, p2, o3, p3, o4, ?_, ⟨(fun _ => rfl), (fun h9 => ⟨(c2 h9).1, rfl⟩), c3, (fun _ => rfl)⟩, ?_, ?_, hv4, hb2, Row3.full hown, r2.other z0 (by decide) hg, r3.other z0 (by decide) hg⟩
      · simp at hf ⊢; omega
      · kernel_rfl
      · kernel_rfl
    · obtain rfl : p2 = none := by clear c1 c2 c3 c4 hf hq; cases p2 <;> first | rfl | exact absurd (show (false : Bool) = true from hn.symm.trans (by kernel_rfl)) (by decide)
      obtain ⟨v0, rfl⟩ : ∃ v, o2 = some v := by clear c1 c2 c3 c4 hf hn; cases o2 <;> first | exact ⟨_, rfl⟩ | exact absurd (show (true : Bool) = false from hq.symm.trans (by kernel_rfl)) (by decide)
      obtain ⟨u0, rfl⟩ : ∃ v, p1 = some v := by clear c1 c2 c3 c4 hf hn; cases p1 <;> first | exact ⟨_, rfl⟩ | exact absurd (show (true : Bool) = false from hq.symm.trans (by kernel_rfl)) (by decide)
      clear hn hq
      obtain ⟨i0, hi, hz, hz1, hz2⟩ := info_parts info_idv
      refine wpOp_of rfl rfl (fun K hK => ?_)
      simp only [List.getElem_toArray, List.getElem_cons_zero, List.getElem_cons_succ, Act.put, List.setIfInBounds_toArray, List.set_cons_succ, List.set_cons_zero, List.getElem_toArray]
      have z0 := r2.z _ rfl rfl
      refine wp_append_sq (f := Idv.cells) (.tmp 7) (.tmp 9) 27 rfl w0.heap.size 26 i0 _ _ Tryz.underlying27 hi hz hz1 hz2 (by first | (show (Idv.cells Idv.zero).toArray.size = 32; rw [List.size_toArray]; exact id_sz _) | (show (Lf.cells zLf).toArray.size = 33; rw [List.size_toArray]; exact lf_sz _) | (simp [Value.cells]; done)) (by omega) v0 0 [] rfl z0 rfl (HSP.out _ hb) (flat_one id_one _) (by omega) (by omega) hb.size ?_
      intro v1 w1z hown hg
      rw [Nat.zero_add, List.nil_append] at hown
      have hb1 := below_own z0 hg hb.size
      have hb2 := hb.trans hb1
      refine hK _ _ ⟨fun _ _ => HX.out _ hb2, o1, some u0, some v0, some v1, o3, p3, o4, ?_, ⟨c1, (fun _ => ⟨rfl, rfl⟩), (fun h9 => ⟨(c3 h9).1, rfl⟩), c4⟩, ?_, ?_, hv4, hb2, r1.other z0 (by decide) hg, Row3.full hown, r3.other z0 (by decide) hg⟩
      · simp at hf ⊢; omega
      · kernel_rfl
      · kernel_rfl
    · obtain rfl : p3 = none := by clear c1 c2 c3 c4 hf hq; cases p3 <;> first | rfl | exact absurd (show (false : Bool) = true from hn.symm.trans (by kernel_rfl)) (by decide)
      obtain ⟨v0, rfl⟩ : ∃ v, o3 = some v := by clear c1 c2 c3 c4 hf hn; cases o3 <;> first | exact ⟨_, rfl⟩ | exact absurd (show (true : Bool) = false from hq.symm.trans (by kernel_rfl)) (by decide)
      obtain ⟨u0, rfl⟩ : ∃ v, p2 = some v := by clear c1 c2 c3 c4 hf hn; cases p2 <;> first | exact ⟨_, rfl⟩ | exact absurd (show (true : Bool) = false from hq.symm.trans (by kernel_rfl)) (by decide)
      clear hn hq
      obtain ⟨i0, hi, hz, hz1, hz2⟩ := info_parts info_chg
      refine wpOp_of rfl rfl (fun K hK => ?_)
      simp only [List.getElem_toArray, List.getElem_cons_zero, List.getElem_cons_succ, Act.put, List.setIfInBounds_toArray, List.set_cons_succ, List.set_cons_zero, List.getElem_toArray]
      have z0 := r3.z _ rfl rfl
      refine wp_append_sq (f := Ch.cells) (.tmp 11) (.tmp 14) 28 rfl w0.heap.size 77 i0 _ _ Tryz.underlying28 hi hz hz1 hz2 (by first | (show (Idv.cells Idv.zero).toArray.size = 32; rw [List.size_toArray]; exact id_sz _) | (show (Lf.cells zLf).toArray.size = 33; rw [List.size_toArray]; exact lf_sz _) | (simp [Value.cells]; done)) (by omega) v0 0 [] rfl z0 rfl (HSE.out _ hb) (flat_one ch_one1 _) (by omega) (by omega) hb.size ?_
      intro v1 w1z hown hg
      rw [Nat.zero_add, List.nil_append] at hown
      have hb1 := below_own z0 hg hb.size
      have hb2 := hb.trans hb1
      refine hK _ _ ⟨fun _ _ => HX.out _ hb2, o1, p1, o2, some u0, some v0, some v1, o4, ?_, ⟨c1, c2, (fun _ => ⟨rfl, rfl⟩), c4⟩, ?_, ?_, hv4, hb2, r1.other z0 (by decide) hg, r2.other z0 (by decide) hg, Row3.full hown⟩
      · simp at hf ⊢; omega
      · kernel_rfl
      · kernel_rfl
    · obtain rfl : o4 = none := by clear c1 c2 c3 c4 hf hq hv4; cases o4 <;> first | rfl | exact absurd (show (false : Bool) = true from hn.symm.trans (by kernel_rfl)) (by decide)
      obtain ⟨u0, rfl⟩ : ∃ v, p1 = some v := by clear c1 c2 c3 c4 hf hn; cases p1 <;> first | exact ⟨_, rfl⟩ | exact absurd (show (true : Bool) = false from hq.symm.trans (by kernel_rfl)) (by decide)
      clear hn hq
      refine wpOp_of rfl rfl (fun K hK => ?_)
      simp only [List.getElem_toArray, List.getElem_cons_zero, List.getElem_cons_succ, Act.put, List.setIfInBounds_toArray, List.set_cons_succ, List.set_cons_zero, List.getElem_toArray]
      refine wp_val (v := .pointer (some ⟨w.heap.size, 2, none⟩)) (by first | (go_simp; done) | (go_simp; rfl)) ?_
      refine hK _ _ ⟨fun _ h9 => absurd h9 (by omega), o1, some u0, o2, p2, o3, p3, some (.pointer (some ⟨w.heap.size, 2, none⟩)), ?_, ⟨c1, c2, c3, fun _ => rfl⟩, ?_, ?_, fun v h9 => (by injection h9 with h9; exact h9.symm), hb, r1, r2, r3⟩
      · simp at hf ⊢; omega
      · kernel_rfl
      · kernel_rfl
  · rintro old l a wz ⟨o1, p1, o2, p2, o3, p3, o4, hf, ⟨c1, c2, c3, c4⟩, rfl, rfl, hv4, hb, r1, r2, r3⟩
    clear c1 c2 c3 c4
    obtain ⟨u4, rfl⟩ := opt_is (o := o4) (by omega)
    obtain rfl := hv4 _ rfl
    clear hv4
    obtain ⟨u1, rfl⟩ := opt_is (o := o1) (by omega)
    obtain ⟨v1, rfl⟩ := opt_is (o := p1) (by omega)
    obtain ⟨u2, rfl⟩ := opt_is (o := o2) (by omega)
    obtain ⟨v2, rfl⟩ := opt_is (o := p2) (by omega)
    obtain ⟨u3, rfl⟩ := opt_is (o := o3) (by omega)
    obtain ⟨v3, rfl⟩ := opt_is (o := p3) (by omega)
    simp only [List.getElem_toArray, List.getElem_cons_zero, List.getElem_cons_succ, Act.put, List.setIfInBounds_toArray, List.set_cons_succ, List.set_cons_zero, List.getElem_toArray, optV, Option.isSome_some]
    obtain ⟨D1, d1, rfl⟩ := own_shape (r1.f _ rfl)
    have HO1 := Lib.hid (r1.f _ rfl)
    obtain ⟨D2, d2, rfl⟩ := own_shape (r2.f _ rfl)
    have HO2 := Lib.hid (r2.f _ rfl)
    obtain ⟨D3, d3, rfl⟩ := own_shape (r3.f _ rfl)
    have HO3 := Lib.hid (r3.f _ rfl)
    have HB := Lib.hid hb
    have T0 := Lib.hid (X0.out.below hb X0.out.lt)
    have Y0 := Lib.hid (X1.out.below hb X1.out.lt)
    clear hf r1 r2 r3 hb X0 X1 HSL HSP HSE HX hbd
    obtain ⟨X, hX⟩ : ∃ X, w.heap.size = X := ⟨_, rfl⟩
    rw [hX] at T0 Y0 ⊢
    refine bk_drop 14 6 rfl (by omega) (by kernel_rfl) ?_
    simp only [List.drop_succ_cons, List.drop_zero]
    have c2 := (of_lies T0.out).2.2.1
    have f2 := T0.out.frozen (j := 2) (by omega)
    obtain ⟨o1, ho1⟩ : ∃ o, ({ xo with lv := .slice D1 nL d1 } : Of) = o := ⟨_, rfl⟩
    have T1 : Hid (Lies (wz.setCell ⟨X, 2, none⟩ (.slice D1 nL d1)) X 73 o1.cells) := Lib.hid (by rw [← ho1]; exact T0.out.set1 2 _)
    have c68 := (of_lies T1.out).2.2.2.2.2.2.1
    have f68 := T1.out.frozen (j := 68) (by omega)
    obtain ⟨o2, ho2⟩ : ∃ o, ({ o1 with pv := .slice D2 nP d2 } : Of) = o := ⟨_, rfl⟩
    have T2 : Hid (Lies ((wz.setCell ⟨X, 2, none⟩ (.slice D1 nL d1)).setCell ⟨X, 68, none⟩ (.slice D2 nP d2)) X 73 o2.cells) := Lib.hid (by rw [← ho2, of_pv]; exact T1.out.set1 68 _)
    have c69 := (of_lies T2.out).2.2.2.2.2.2.2.1
    have f69 := T2.out.frozen (j := 69) (by omega)
    obtain ⟨o3, ho3⟩ : ∃ o, ({ o2 with ev := .slice D3 nE d3 } : Of) = o := ⟨_, rfl⟩
    have T3 : Hid (Lies (((wz.setCell ⟨X, 2, none⟩ (.slice D1 nL d1)).setCell ⟨X, 68, none⟩ (.slice D2 nP d2)).setCell ⟨X, 69, none⟩ (.slice D3 nE d3)) X 73 o3.cells) := Lib.hid (by rw [← ho3, of_ev]; exact T2.out.set1 69 _)
    have Y3 : Hid (Lies (((wz.setCell ⟨X, 2, none⟩ (.slice D1 nL d1)).setCell ⟨X, 68, none⟩ (.slice D2 nP d2)).setCell ⟨X, 69, none⟩ (.slice D3 nE d3)) (X + 1) 73 zz.cells) := Lib.hid (((Y0.out.far (by show X + 1 ≠ X; omega) _).far (by show X + 1 ≠ X; omega) _).far (by show X + 1 ≠ X; omega) _)
    obtain ⟨w3, hw3⟩ : ∃ w3, ((wz.setCell ⟨X, 2, none⟩ (.slice D1 nL d1)).setCell ⟨X, 68, none⟩ (.slice D2 nP d2)).setCell ⟨X, 69, none⟩ (.slice D3 nE d3) = w3 := ⟨_, rfl⟩
    have HX3 : Hid (x.at_ ⟨D1, nL, d1⟩ ⟨D2, nP, d2⟩ ⟨D3, nE, d3⟩ = o3) := Lib.hid (by rw [← ho3, ← ho2, ← ho1, ← HXO.out]; rfl)
    have hXb : X < w0.heap.size := by have := B0.out.2; omega
    have HO13 : Hid (w3.ownsRow w0.heap.size 74 33 (.slice D1 nL d1) nL (x.lv.flatMap Lf.cells)) := Lib.hid (by rw [← hw3]; exact (ownsRow_setCell_below (a := ⟨X, 69, none⟩) (ownsRow_setCell_below (a := ⟨X, 68, none⟩) (ownsRow_setCell_below (a := ⟨X, 2, none⟩) HO1.out hXb _) hXb _) hXb _))
    have HO23 : Hid (w3.ownsRow w0.heap.size 26 32 (.slice D2 nP d2) nP (x.ps.flatMap Idv.cells)) := Lib.hid (by rw [← hw3]; exact (ownsRow_setCell_below (a := ⟨X, 69, none⟩) (ownsRow_setCell_below (a := ⟨X, 68, none⟩) (ownsRow_setCell_below (a := ⟨X, 2, none⟩) HO2.out hXb _) hXb _) hXb _))
    have HO33 : Hid (w3.ownsRow w0.heap.size 77 3 (.slice D3 nE d3) nE (x.es.flatMap Ch.cells)) := Lib.hid (by rw [← hw3]; exact (ownsRow_setCell_below (a := ⟨X, 69, none⟩) (ownsRow_setCell_below (a := ⟨X, 68, none⟩) (ownsRow_setCell_below (a := ⟨X, 2, none⟩) HO3.out hXb _) hXb _) hXb _))
    have HB3 : Hid (Below w.heap.size w w3) := Lib.hid (by rw [← hw3, hX]; rw [hX] at B0; exact (((B0.out.1.trans (HB.out.mono (by omega))).setCell (p := ⟨X, 2, none⟩) (Nat.le_refl _) _).setCell (p := ⟨X, 68, none⟩) (Nat.le_refl _) _).setCell (p := ⟨X, 69, none⟩) (Nat.le_refl _) _)
    have OO : Hid (o3.lv.oneCell' = true ∧ o3.pv.oneCell' = true ∧ o3.ev.oneCell' = true) := Lib.hid (by rw [← HX3.out]; exact ⟨rfl, rfl, rfl⟩)
    rw [hw3] at T3 Y3
    have HW3 := Lib.hid hw3
    clear hw3 ho1 ho2 ho3 HO1 HO2 HO3 HB
    go_wp2_with fail
    refine NoPanic.normal ?_
    rw [HW3.out]
    clear c2 c68 c69 f2 f68 f69 T0 T1 T2 HW3 Y0
    obtain ⟨w4, hw4⟩ : ∃ w4, w3.setCells (X + 1) 0 o3.cells = w4 := ⟨_, rfl⟩
    have NZ : Hid (w4.rangeAt (X + 1) 0 o3.cells) := Lib.hid (by rw [← hw4]; exact (Y3.out.set_ (of_sz _)).rg)
    have HO14 : Hid (w4.ownsRow w.heap.size 74 33 (.slice D1 nL d1) nL (x.lv.flatMap Lf.cells)) := Lib.hid (by rw [← hw4]; exact own_base (own_keep HO13.out fun g hg => (setCells_os _ _ 0 w3).2.2.2.2 g (by have := (HO13.out.lt g hg).1; have := B0.out.2; omega)) B0.out.1.size)
    have HO24 : Hid (w4.ownsRow w.heap.size 26 32 (.slice D2 nP d2) nP (x.ps.flatMap Idv.cells)) := Lib.hid (by rw [← hw4]; exact own_base (own_keep HO23.out fun g hg => (setCells_os _ _ 0 w3).2.2.2.2 g (by have := (HO23.out.lt g hg).1; have := B0.out.2; omega)) B0.out.1.size)
    have HO34 : Hid (w4.ownsRow w.heap.size 77 3 (.slice D3 nE d3) nE (x.es.flatMap Ch.cells)) := Lib.hid (by rw [← hw4]; exact own_base (own_keep HO33.out fun g hg => (setCells_os _ _ 0 w3).2.2.2.2 g (by have := (HO33.out.lt g hg).1; have := B0.out.2; omega)) B0.out.1.size)
    have HB4 : Hid (Below w.heap.size w w4) := Lib.hid (by rw [← hw4]; exact below_setCells HB3.out (by omega) _ _)
    have HW4 := Lib.hid hw4
    have TY := Lib.hid Y3.out.th
    have RG := Lib.hid T3.out.rg
    clear hw4 HO13 HO23 HO33 HB3 Y3 T3
    go_wp2_with (first
      | ((with_reducible refine ldo (.tmp 1) ?_ ?_ X 0 o3 ?_ RG.out ?_); rfl; rfl; rfl)
      | ((with_reducible refine sto (.tmp 2) (.tmp 20) ?_ ?_ (X + 1) 0 o3 ?_ ?_ TY.out OO.out.1 OO.out.2.1 OO.out.2.2 ?_); rfl; rfl; rfl; rfl; rw [HW4.out])
      | fail)
    exact bodyPost_ret (res_ob1 rfl _ _ (X + 1) o3 rfl NZ.out) rfl ⟨⟨⟨D1, nL, d1⟩, ⟨D2, nP, d2⟩, ⟨D3, nE, d3⟩, by rw [HX3.out], ⟨HO14.out, HO24.out, HO34.out⟩, rfl, rfl, rfl⟩, HB4.out⟩
  exact ⟨none, none, none, none, none, none, none, rfl, ⟨fun h9 => (by cases h9), fun h9 => (by cases h9), fun h9 => (by cases h9), fun h9 => (by cases h9)⟩, by kernel_rfl, by kernel_rfl, fun _ h9 => (by cases h9), hbd, Row3.none_, Row3.none_, Row3.none_⟩
end Go.Proofs.YtnkhoghdfncgpaaGreatDoor
