/-
  OWN LAW: a drawn region whose head only reads, or reckons; what is read all of the tail waits for. The tail, in one forced order, may store over what was read.
  OWN LAWS: a drawn region, part by part: what is read is taken ahead of what may store over it; steps that are free of one another are walked once for each state.
  STAGE 6's REFERENCE: an object in memory of its own.
-/
import Derived.Test.YtcofkhmgmemkmaaGreatDoorK07
import Derived.Test.YtcofkhmgmemkmaaGreatDoorK34
import Derived.Laws.AppendOwn
namespace Go.Proofs.YtcofkhmgmemkmaaGreatDoor
section
variable {P : Program} {ops : Array Oper} {Q : Exit → Act → World → Prop} {md : Region.Mode} {S : World → Prop} {m : Nat}

def wpHd (P : Program) (ops : Array Oper) (S : World → Prop) (K : Act → Prop) : List Bool → List Oper → Act → Prop
  | _, [], a => K a
  | [], _ :: _, _ => False
  | true :: bs, o :: r, a => ∃ v, YieldsIf P ops S o v a ∧ wpHd P ops S K bs r (a.put o.dst v)
  | false :: bs, o :: r, a => ∃ v, YieldsIf P ops (fun _ => True) o v a ∧ wpHd P ops S K bs r (a.put o.dst v)
theorem wpHd_nil {K : Act → Prop} {bs : List Bool} {a : Act} : wpHd P ops S K bs [] a = K a := by cases bs <;> rfl
theorem br_head {K : Act → Prop} {g : Nat} {w : World} (hsel : Region.noSelect ops = true) (hQ : ∀ c a a' w, Q (.panic c) a w → Q (.panic c) a' w) (hS : S w) :
    ∀ (l : List Oper) (bs : List Bool) (k : Nat) (listed : Array Bool) (a : Act), (∀ j, j < l.length → l[j]? = ops[k + j]?) → Region.lexHead md ops g l.length k listed = true → k + l.length ≤ m →
      (∀ i, i < l.length → bs[i]? = some true → ∀ j oj, m ≤ j → ops[j]? = some oj → ∃ e ∈ oj.after, Region.binds md e = true ∧ e.on = k + i) →
      wpHd P ops S K bs l a → (∀ listed a, Region.seqB md ops g (k + l.length) listed = true → K a → wpBk P md ops Q S m g listed a w) → wpBk P md ops Q S m (l.length + g) listed a w
  | [], bs, k, listed, a, _, hB, _, _, h, hK => by
    rw [wpHd_nil] at h
    simp only [List.length_nil, Nat.zero_add, Nat.add_zero] at hB hK ⊢
    exact hK listed a hB h
  | o :: l, [], k, listed, a, _, _, _, _, h, _ => h.elim
  | o :: l, b :: bs, k, listed, a, hl, hB, hm, hbar, h, hK => by
    have h0 : ops[k]? = some o := by simpa using (hl 0 (by simp)).symm
    simp only [List.length_cons, Region.lexHead, Bool.and_eq_true] at hB
    obtain ⟨⟨hr, hf⟩, hB⟩ := hB
    rw [show (o :: l).length + g = (l.length + g) + 1 by simp; omega]
    simp only [List.length_cons] at hm hbar hK
    have next : ∀ v, wpHd P ops S K bs l (a.put o.dst v) → wpBk P md ops Q S m (l.length + g) (listed.setIfInBounds k true) (a.put o.dst v) w := fun v h =>
      br_head hsel hQ hS l bs (k + 1) _ _ (fun j hj => by have := hl (j + 1) (by simp; omega); simpa [Nat.add_assoc, Nat.add_comm 1 j] using this) hB (by omega)
        (fun i hi hb j oj hj hoj => by obtain ⟨e, h1, h2, h3⟩ := hbar (i + 1) (by omega) (by simpa using hb) j oj hj hoj; exact ⟨e, h1, h2, by omega⟩) h
        (fun listed a hs hk => hK listed a (by simpa [Nat.add_assoc, Nat.add_comm 1 l.length] using hs) hk)
    cases b with
    | false =>
      obtain ⟨v, hy, h⟩ := h
      exact wpBk_pure h0 (Region.noSelect_spec hsel) (fun c a w h => hQ c _ _ w h) _ listed a w (Region.free_spec h0 hf) (by simpa using hr) hy (next v h)
    | true =>
      obtain ⟨v, hy, h⟩ := h
      exact wpBk_first h0 (Region.noSelect_spec hsel) (fun c a w h => hQ c _ _ w h) (fun j oj hj hoj => hbar 0 (by omega) rfl j oj hj hoj) (by omega) _ listed a w (Region.free_spec h0 hf) (by simpa using hr) hy hS (next v h)

def brB (ops : Array Oper) (bs : List Bool) (p : Nat) : Bool :=
  Region.noSelect ops && decide (p ≤ ops.size) && ((List.range p).all fun i => !(bs[i]? == some true) || (List.range ops.size).all fun j => decide (j < p) || Region.waitsFor .any ops j i) && Region.lexHead .any ops (ops.size - p) p 0 (Array.replicate ops.size false)

theorem wp_region_br {id : Nat} {a : Act} {w : World} {l : List Oper} (bs : List Bool) (p : Nat) (S : World → Prop) (hm : P.follows .mixedOrders = true) (hB : brB l.toArray bs p = true) (hS : S w.drew)
    (h : wpHd P l.toArray S (fun a1 => wpList P l.toArray (NoPanic Q) (l.drop p) a1 w.drew) bs (l.take p) a) : (Code.region id l.toArray true).wp P Q a w := by
  simp only [brB, Bool.and_eq_true, decide_eq_true_eq] at hB
  obtain ⟨⟨⟨hsel, hps⟩, hbar⟩, hlex⟩ := hB
  have hps' : p ≤ l.length := by simpa using hps
  have htl : (l.take p).length = p := by simp; omega
  have hdl : (l.drop p).length = l.length - p := by simp
  refine wp_region_noPanic (wp_region_any hm (wpAny_of_bk (S := S) (m := p) _ _ _ _ ?_))
  have H := br_head (P := P) (md := .any) (ops := l.toArray) (Q := NoPanic Q) (S := S) (m := p) (g := l.length - p) (w := w.drew) hsel (fun _ _ _ _ h => h) hS (l.take p) bs 0 (Array.replicate l.toArray.size false) a (fun j hj => by rw [htl] at hj; simp [hj]) (by rw [htl]; simpa using hlex) (by omega)
    (fun i hi hb j oj hmj hj => by
      rw [htl] at hi
      have h1 := List.all_eq_true.1 hbar i (List.mem_range.2 (by omega))
      simp only [Bool.or_eq_true, Bool.not_eq_true', beq_eq_false_iff_ne, ne_eq] at h1
      rcases h1 with h1 | h1
      · exact absurd hb h1
      have h2 := List.all_eq_true.1 h1 j (List.mem_range.2 (Array.getElem?_eq_some_iff.1 hj).1)
      simp only [Bool.or_eq_true, decide_eq_true_eq] at h2
      rcases h2 with h2 | h2
      · omega
      · obtain ⟨oj', hoj', e, he, hb, hon⟩ := Region.waitsFor_spec h2
        rw [hj] at hoj'
        injection hoj' with hoj'
        subst hoj'
        exact ⟨e, he, hb, by omega⟩) h
    (fun listed a1 hs hk => by
      rw [htl, Nat.zero_add] at hs
      rw [← hdl] at hs ⊢
      exact bk_tail (l.drop p) p listed a1 w.drew (Nat.le_refl _) (fun j => by simp [List.getElem?_drop]) hs hk)
  rw [htl] at H
  have e : l.toArray.size = p + (l.length - p) := by simp; omega
  rw [e] at H ⊢
  exact H
end
end Go.Proofs.YtcofkhmgmemkmaaGreatDoor
namespace Go.Proofs.YtcofkhmgmemkmaaGreatDoor
set_option linter.unusedVariables false
section
variable {P : Program} {ops : Array Oper} {Q : Exit → Act → World → Prop} {md : Region.Mode} {S : World → Prop} {m : Nat}

def bkP (md : Region.Mode) (ops : Array Oper) (listed : Array Bool) (i : Nat) : Bool := Region.noSelect ops && (Region.ready md ops listed).contains i && Region.free md ops listed i
def bkT (ops : Array Oper) (m : Nat) (listed : Array Bool) (i : Nat) : Bool := bkP .any ops listed i && decide (i < m) && (List.range ops.size).all fun j => decide (j < m) || Region.waitsFor .any ops j i
/-- A read. -/
theorem wpBk_take {i fuel : Nat} {oi : Oper} {v : Value} {listed : Array Bool} {a : Act} {w : World} (hi : ops[i]? = some oi) (hB : bkT ops m listed i = true) (hQ : ∀ c a a' w, Q (.panic c) a w → Q (.panic c) a' w)
    (hy : YieldsIf P ops S oi v a) (hS : S w) (H : wpBk P .any ops Q S m fuel (listed.setIfInBounds i true) (a.put oi.dst v) w) : wpBk P .any ops Q S m (fuel + 1) listed a w := by
  simp only [bkT, bkP, Bool.and_eq_true, decide_eq_true_eq] at hB
  obtain ⟨⟨⟨⟨hsel, hr⟩, hf⟩, him⟩, hbar⟩ := hB
  refine wpBk_first hi (Region.noSelect_spec hsel) (fun c a w h => hQ c _ _ w h) (fun j oj hmj hj => ?_) him fuel listed a w (Region.free_spec hi hf) (by simpa using hr) hy hS H
  have h2 := List.all_eq_true.1 hbar j (List.mem_range.2 (Array.getElem?_eq_some_iff.1 hj).1)
  simp only [Bool.or_eq_true, decide_eq_true_eq] at h2
  rcases h2 with h2 | h2
  · omega
  · obtain ⟨oj', hoj', e, he, hb, hon⟩ := Region.waitsFor_spec h2
    rw [hj] at hoj'
    injection hoj' with hoj'
    subst hoj'
    exact ⟨e, he, hb, hon⟩
/-- What has one value in whatever world. -/
theorem wpBk_takeP {i fuel : Nat} {oi : Oper} {v : Value} {listed : Array Bool} {a : Act} {w : World} (hi : ops[i]? = some oi) (hB : bkP md ops listed i = true) (hQ : ∀ c a a' w, Q (.panic c) a w → Q (.panic c) a' w)
    (hy : YieldsIf P ops (fun _ => True) oi v a) (H : wpBk P md ops Q S m fuel (listed.setIfInBounds i true) (a.put oi.dst v) w) : wpBk P md ops Q S m (fuel + 1) listed a w := by
  simp only [bkP, Bool.and_eq_true] at hB
  obtain ⟨⟨hsel, hr⟩, hf⟩ := hB
  exact wpBk_pure hi (Region.noSelect_spec hsel) (fun c a w h => hQ c _ _ w h) fuel listed a w (Region.free_spec hi hf) (by simpa using hr) hy H
/-- Steps that are free of one another. -/
theorem wpBk_free {a0 : Act} {l0 : Array Bool} {w0 : World} (I : (Nat → Value) → Act → Array Bool → Nat → Array Bool → Act → World → Prop) (g : Nat) (tb : List (Nat × List Nat))
    (hr : ∀ old f l a w, I old a0 l0 (g + f + 1) l a w → (!(Region.ready md ops l).isEmpty && (Region.ready md ops l).all fun i => tb.any fun jp => i == jp.1 && !l.getD jp.1 true && jp.2.all fun q => l.getD q false) = true)
    (hs : ∀ old f l a w, I old a0 l0 (g + f + 1) l a w → ∀ jp ∈ tb, l.getD jp.1 true = false → (jp.2.all fun q => l.getD q false) = true →
      wpOp P ops Q jp.1 (fun a' w' => (S w → jp.1 < m → S w') ∧ I old a0 l0 (g + f) (l.setIfInBounds jp.1 true) a' w') a w)
    (hend : ∀ old l a w, I old a0 l0 g l a w → wpBk P md ops Q S m g l a w)
    (f : Nat) (h : I (fun i => a0.tmps.getD i undef) a0 l0 (g + f) l0 a0 w0) : wpBk P md ops Q S m (g + f) l0 a0 w0 := by
  have key : ∀ f l a w, I (fun i => a0.tmps.getD i undef) a0 l0 (g + f) l a w → wpBk P md ops Q S m (g + f) l a w := by
    intro f
    induction f with
    | zero => exact fun l a w hI => hend _ l a w hI
    | succ f ih =>
      intro l a w hI
      have h1 := hr _ f l a w hI
      refine ⟨fun h0 => ?_, fun i hi => ?_⟩
      · rw [show Region.ready md ops l = [] from h0] at h1
        simp at h1
      · rw [Bool.and_eq_true, List.all_eq_true] at h1
        obtain ⟨jp, hjp, h2⟩ := List.any_eq_true.1 (h1.2 i hi)
        rw [Bool.and_eq_true, Bool.and_eq_true, beq_iff_eq, Bool.not_eq_true'] at h2
        obtain ⟨⟨rfl, h3⟩, h4⟩ := h2
        exact wpOp_mono (fun a' w' h' => ⟨h'.1, ih _ a' w' h'.2⟩) (hs _ f l a w hI jp hjp h3 h4)
  exact key f l0 a0 w0 h
theorem wpOp_of {i : Nat} {o : Oper} {K : Act → World → Prop} {a : Act} {w : World} (ho : ops[i]? = some o) (hg : o.guard = none) (h : ∀ K' : Act → World → Prop, (∀ a w, K a w → K' a w) → o.wp P a w K' Q) : wpOp P ops Q i K a w :=
  wpOp_step ho fun K' hK => by
    rw [if_pos (by simp [Region.wanted, hg])]
    exact h K' hK
end
end Go.Proofs.YtcofkhmgmemkmaaGreatDoor
namespace Go.Proofs.YtcofkhmgmemkmaaGreatDoor
set_option linter.unusedVariables false
set_option linter.unusedSimpArgs false
open Go.RowKit Go.WideShapes Go.ChangeShapes Go.Deep Go.Shelf
attribute [local irreducible] wpQuiet

theorem own_down {W W' : World} {base k n : Nat} {e : TypeId} {v : Value} {xs : List Value} (h : W.ownsRow base e k v n xs) (hb : Below W.heap.size W W') : W'.ownsRow base e k v n xs :=
  own_keep h fun g hg => (only_of_below hb none).block g (h.lt g hg).2 (by simp)
/-- Two rows of different types: what turns the one leaves the other. -/
theorem own_two {W W' : World} {e t : TypeId} {base base2 k k2 n m2 : Nat} {v v2 : Value} {xs ys : List Value} (h : W.ownsRow base e k v n xs) (h2 : W.ownsRow base2 t k2 v2 m2 ys) (hne : t ≠ e) (hg : W.grownBy W' v2.ownBlock) : W'.ownsRow base e k v n xs := by
  obtain ⟨A, c, rfl⟩ := own_shape h
  obtain ⟨A2, c2, rfl⟩ := own_shape h2
  refine own_keep h fun b hb => ?_
  obtain ⟨_, h3, cs, f, hc⟩ := own_ty h b hb
  refine hg.block b h3 (fun e' => ?_)
  obtain ⟨_, _, cs', f', hc'⟩ := own_ty h2 b e'.symm
  rw [hc] at hc'
  injection hc' with hc'
  injection hc' with _ e2
  exact hne e2.symm
/-- A row of one's own: not there yet, empty, or full. -/
structure Row3 (W : World) (base : Nat) (e : TypeId) (k n : Nat) (xs : List Value) (o p : Option Value) : Prop where
  z : ∀ v, o = some v → p = none → W.ownsRow base e k v 0 []
  f : ∀ v, p = some v → W.ownsRow base e k v n xs
section
variable {W W' : World} {base : Nat} {e : TypeId} {k n : Nat} {xs : List Value} {o p : Option Value}
theorem Row3.below (h : Row3 W base e k n xs o p) (hb : Below W.heap.size W W') : Row3 W' base e k n xs o p := ⟨fun v a b => own_down (h.z v a b) hb, fun v a => own_down (h.f v a) hb⟩
theorem Row3.other (h : Row3 W base e k n xs o p) {t : TypeId} {base2 k2 m2 : Nat} {v2 : Value} {ys : List Value} (h2 : W.ownsRow base2 t k2 v2 m2 ys) (hne : t ≠ e) (hg : W.grownBy W' v2.ownBlock) : Row3 W' base e k n xs o p :=
  ⟨fun v a b => own_two (h.z v a b) h2 hne hg, fun v a => own_two (h.f v a) h2 hne hg⟩
theorem Row3.made (base : Nat) (e : TypeId) (k n : Nat) (xs : List Value) (hb : base ≤ W.heap.size) : Row3 (W.alloc (.cells #[] e)) base e k n xs (some (.slice (some ⟨W.heap.size, 0, none⟩) 0 0)) none :=
  ⟨fun v a _ => (by injection a with a; subst a; exact World.ownsRow_made (base := base) (e := e) (size := k) W #[] 0 hb (Nat.zero_le _) (by simp)), fun v a => (by cases a)⟩
theorem Row3.full {v : Value} (h : W.ownsRow base e k v n xs) : Row3 W base e k n xs o (some v) := ⟨fun _ _ b => (by cases b), fun v' a => (by injection a with a; subst a; exact h)⟩
theorem Row3.none_ : Row3 W base e k n xs none none := ⟨fun _ a => (by cases a), fun _ a => (by cases a)⟩
end
theorem run_build0 {P : Program} (w : World) (t e : TypeId) (i : TypeInfo) (hu : P.underlying t = some (.slice e)) (hi : P.info? e = some i) : (Instr.buildSlice t 0 #[]).run P w = .ok (.slice (some ⟨w.heap.size, 0, none⟩) 0 0) (w.alloc (.cells #[] e)) := by
  simp [Instr.buildSlice, run_underlying hu, sizeOf, typeInfo, hi, Instr.fill, newRow]
  congr 2
  exact Array.eq_empty_of_size_eq_zero (by simp)
/-- An empty literal. -/
theorem wp_build0 {P : Program} {o : Oper} {a : Act} {w : World} {K : Act → World → Prop} {Q : Exit → Act → World → Prop} (t e : TypeId) (ho : o.op = .buildSlice t 0 #[]) (i : TypeInfo) (hu : P.underlying t = some (.slice e)) (hi : P.info? e = some i)
    (h : K (a.put o.dst (.slice (some ⟨w.heap.size, 0, none⟩) 0 0)) (w.alloc (.cells #[] e))) : o.wp P a w K Q := by
  unfold Oper.wp execOp
  simp only [ho, List.map_toArray, List.map_nil, Sem.run_bind, run_build0 w t e i hu hi, Result.andThen_ok]
  exact h
/-- Rows behind one's own: nil, empty or not; as a step of its own. -/
theorem wp_append_sq {α : Type} {f : α → List Value} {k : Nat} {P : Program} {w : World} {o : Oper} {a : Act} {K : Act → World → Prop} {Q : Exit → Act → World → Prop} (s x : Operand) (t : TypeId)
    (ho : o.op = .call { callee := .builtin .append, args := #[s, x], argTypes := #[t, t] })
    (base : Nat) (e : TypeId) (i : TypeInfo) (z : Value) (bytes : Nat) (ht : P.underlying t = some (.slice e)) (hi : P.info? e = some i) (hz : i.zero = some z) (hsize : i.size = k) (hby : i.bytes = bytes) (hzs : z.cells.size = k) (hk : 0 < k)
    (v : Value) (n : Nat) (l0 : List α) (hs : a.eval s = v) (hown : w.ownsRow base e k v n (l0.flatMap f))
    {B : Nat} {A : Option Addr} {m c : Nat} {l : List α} (hx : a.eval x = .slice A m c) (hr : Sq f k w B A m c l) (h1 : ∀ u ∈ l.flatMap f, u.oneCell' = true) (h63 : n + m ≤ 1000000) (hb : bytes ≤ 1000) (hbase : base ≤ w.heap.size)
    (h : ∀ v' w', w'.ownsRow base e k v' (n + m) ((l0 ++ l).flatMap f) → w.grownBy w' v.ownBlock → K (a.put o.dst v') w') : o.wp P a w K Q := by
  rcases A with _ | ad
  · obtain rfl : c = 0 := by have := hr.non rfl; omega
    obtain rfl : m = 0 := by have := hr.cap; omega
    obtain rfl : l = [] := List.eq_nil_of_length_eq_zero hr.len
    have hrun := run_append_owned_none (P := P) (w := w) base t o.type e i k ht hi v n _ hown
    unfold Oper.wp
    simp [execOp, ho, resolve, invoke, builtin, hs, hx, hrun, Result.andThen]
    exact h v w (by simpa using hown) (only_refl _ _)
  · have hc : ∀ j u, (l.flatMap f)[j]? = some u → w.cell? (ad.add j) = some u := by
      intro j u hu
      rcases Nat.eq_zero_or_pos m with h0 | h0
      · subst h0
        obtain rfl : l = [] := List.eq_nil_of_length_eq_zero hr.len
        simp at hu
      · obtain ⟨b, o', e', hlt, hc⟩ := hr.pos h0
        injection e' with e'
        subst e'
        rw [S3.addr_add]
        exact hc j u hu
    refine wp_append_own w s x t ho base e i z k bytes ht hi hz hsize hby hzs hk v n _ hs hown ad m c (l.flatMap f) hx (by rw [flat_len hr.sz, hr.len]) hc h1 (by unfold maxLen; omega) (Nat.le_trans (Nat.mul_le_mul h63 hb) (by omega)) hbase fun v' w' h2 h3 _ => h v' w' (by rw [List.flatMap_append]; exact h2) h3

/-- The rest, in its one order. -/
theorem bk_drop {P : Program} {md : Region.Mode} {Q : Exit → Act → World → Prop} {S : World → Prop} {m : Nat} {l : List Oper} {listed : Array Bool} {a : Act} {w : World} (k g : Nat) (hg : (l.drop k).length = g) (hmk : m ≤ k) (hB : Region.seqB md l.toArray g k listed = true) (h : wpList P l.toArray Q (l.drop k) a w) : wpBk P md l.toArray Q S m g listed a w := by
  subst hg
  exact bk_tail (l.drop k) k listed a w hmk (fun j => by simp [List.getElem?_drop]) hB h
/-- Rows of one's own for an object. -/
structure OwnO (w : World) (base : Nat) (x : Ov) (L P E : Sl) : Prop where
  l : w.ownsRow base 68 33 (.slice L.a L.n L.c) L.n (x.lv.flatMap Lf.cells)
  p : w.ownsRow base 27 32 (.slice P.a P.n P.c) P.n (x.ps.flatMap Idv.cells)
  e : w.ownsRow base 71 3 (.slice E.a E.n E.c) E.n (x.es.flatMap Ch.cells)
theorem flat_one {α : Type} {f : α → List Value} (h : ∀ x, (f x).toArray.all (·.oneCell') = true) (l : List α) : ∀ u ∈ l.flatMap f, u.oneCell' = true := by
  intro u hu
  obtain ⟨x, _, hx⟩ := List.mem_flatMap.1 hu
  have := h x
  rw [List.all_toArray, List.all_eq_true] at this
  exact this u hx
theorem ch_one1 (r : Ch) : r.cells.toArray.all (·.oneCell') = true := by simp [Ch.cells, Value.oneCell']
theorem below_own {W W' : World} {base k n : Nat} {e : TypeId} {v : Value} {xs : List Value} (h : W.ownsRow base e k v n xs) (hg : W.grownBy W' v.ownBlock) (hs : base ≤ W.heap.size) : Below base W W' :=
  ⟨hg.os, hg.tape, hg.output, hg.size, fun i hi => hg.block i (by omega) (fun e' => by have := (h.lt i e'.symm).1; omega)⟩
def optV (d : Value) : Option Value → Value
  | none => d
  | some v => v
theorem opt_is {o : Option Value} (h : o.isNone.toNat = 0) : ∃ v, o = some v := by cases o <;> simp_all

end Go.Proofs.YtcofkhmgmemkmaaGreatDoor
