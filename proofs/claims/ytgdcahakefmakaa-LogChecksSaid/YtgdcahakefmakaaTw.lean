/-
  THE LAW'S OWN: two logs that are copied, and their boxes, not there yet or there.
-/
import Derived.Test.YtgdcahakefmakaaSh
namespace Go.Proofs.Ytgdcahakefmakaa
set_option linter.unusedVariables false
set_option linter.unusedSimpArgs false
open Go.RowKit Go.WideShapes Go.ChangeShapes Go.Deep Go.Shelf
attribute [local irreducible] wpQuiet

theorem some_is {α : Type} {o : Option α} (h : o.isNone.toNat = 0) : ∃ v, o = some v := by cases o <;> simp_all
theorem wp_al {op : Oper} {a : Act} {w : World} {K : Act → World → Prop} {Q : Exit → Act → World → Prop} (e : TypeId) (ho : op.op = .alloc e) (zs : List Value) (hz : ∀ w : World, (zeroValue e).run Try.prog w = .ok (.agg zs.toArray) w)
    (h : K (a.put op.dst (.pointer (some ⟨w.heap.size, 0, none⟩))) (w.alloc (.cells zs.toArray e))) : op.wp Try.prog a w K Q := by
  unfold Oper.wp execOp
  simp only [ho, Instr.alloc, Sem.run_bind, hz, Result.andThen_ok, newVar, newRow, newObj, Sem.run_pure, Value.cells]
  exact h
theorem zero_lg (w : World) : (zeroValue 27).run Try.prog w = .ok (.agg (lgC 0 0 none 0 0).toArray) w := by kernel_rfl
theorem grown_setCells (w : World) (b o : Nat) (vs : List Value) : w.grownBy (w.setCells b o vs) (some b) := by
  obtain ⟨h1, h2, h3, h4, h5⟩ := setCells_os b vs o w
  exact ⟨h1, h2, h3, by rw [h4]; exact Nat.le_refl _, fun i hi hn => h5 i (fun e => hn (by rw [e]))⟩
theorem own_sets {w : World} {base b : Nat} {e t : TypeId} {k m : Nat} {v : Value} {xs cs : List Value} (h : w.ownsRow base e k v m xs) (hb : Bl w b t cs) (ht : t ≠ e) (o : Nat) (vs : List Value) : (w.setCells b o vs).ownsRow base e k v m xs := by
  refine h.kept (row := some b) (grown_setCells w b o vs) ?_
  rcases h.2 with ⟨e1, _⟩ | ⟨g, cap, cur, e1, _, hg, _⟩
  · left; rw [e1]; rfl
  · right
    rw [e1]
    intro hh
    have hgb : g = b := by simpa [Value.ownBlock] using hh
    subst hgb
    have hb' : w.heap[g]? = _ := hb
    rw [hg] at hb'
    injection hb' with hb'
    injection hb' with _ h2
    exact ht h2.symm
theorem OwnM.boxes {w : World} {base n c b : Nat} {A : Option Addr} {l : List En} (h : OwnM w base A n c l) {t : TypeId} {cs : List Value} (hb : Bl w b t cs) (h1 : t ≠ 44) (h2 : t ≠ 5) (o : Nat) (vs : List Value) : OwnM (w.setCells b o vs) base A n c l :=
  ⟨own_sets h.row hb h1 o vs, fun x hx => own_sets (h.f x hx) hb h2 o vs, h.b⟩
theorem Bl.fars {w : World} {g b : Nat} {t : TypeId} {cs : List Value} (h : Bl w g t cs) (hn : g ≠ b) (o : Nat) (vs : List Value) : Bl (w.setCells b o vs) g t cs := ((setCells_os b vs o w).2.2.2.2 g hn).trans h
def boxV (d : Value) : Option Nat → Value
  | none => d
  | some g => .pointer (some ⟨g, 0, none⟩)
def logV (d : Value) (i t n : Nat) : Option (Option Addr × Nat) → Value
  | none => d
  | some q => lgV i t q.1 n q.2
structure Tw (w0 : World) (n1 : Nat) (V1 : List Ev) (n5 : Nat) (V5 : List Ev) (r1 r5 : Option (Option Addr × Nat)) (b6 b7 : Option Nat) (W : World) : Prop where
  b : Below w0.heap.size w0 W
  o1 : ∀ q, r1 = some q → ∃ l, OwnM W w0.heap.size q.1 n1 q.2 l ∧ vsE l = V1
  o5 : ∀ q, r5 = some q → ∃ l, OwnM W w0.heap.size q.1 n5 q.2 l ∧ vsE l = V5
  v6 : ∀ g, b6 = some g → w0.heap.size ≤ g ∧ g < W.heap.size ∧ Bl W g 27 (lgC 0 0 none 0 0)
  v7 : ∀ g, b7 = some g → w0.heap.size ≤ g ∧ g < W.heap.size ∧ Bl W g 27 (lgC 0 0 none 0 0)
  ne : ∀ g g', b6 = some g → b7 = some g' → g ≠ g'
section
variable {w0 W W' : World} {n1 n5 : Nat} {V1 V5 : List Ev} {r1 r5 : Option (Option Addr × Nat)} {b6 b7 : Option Nat}
theorem Tw.step (h : Tw w0 n1 V1 n5 V5 r1 r5 b6 b7 W) (hb : Below W.heap.size W W') : Tw w0 n1 V1 n5 V5 r1 r5 b6 b7 W' :=
  ⟨h.b.trans (hb.mono h.b.size), fun q e => (by obtain ⟨l, h1, h2⟩ := h.o1 q e; exact ⟨l, h1.below hb, h2⟩), fun q e => (by obtain ⟨l, h1, h2⟩ := h.o5 q e; exact ⟨l, h1.below hb, h2⟩),
    fun g e => ⟨(h.v6 g e).1, Nat.lt_of_lt_of_le (h.v6 g e).2.1 hb.size, (h.v6 g e).2.2.below hb (h.v6 g e).2.1⟩, fun g e => ⟨(h.v7 g e).1, Nat.lt_of_lt_of_le (h.v7 g e).2.1 hb.size, (h.v7 g e).2.2.below hb (h.v7 g e).2.1⟩, h.ne⟩
theorem Tw.call1 (h : Tw w0 n1 V1 n5 V5 none r5 b6 b7 W) (hb : Below W.heap.size W W') {q : Option Addr × Nat} {l : List En} (ho : OwnM W' W.heap.size q.1 n1 q.2 l) (hv : vsE l = V1) : Tw w0 n1 V1 n5 V5 (some q) r5 b6 b7 W' :=
  ⟨(h.step hb).b, fun q' e => (by injection e with e; subst e; exact ⟨l, ho.base_ h.b.size, hv⟩), (h.step hb).o5, (h.step hb).v6, (h.step hb).v7, h.ne⟩
theorem Tw.call5 (h : Tw w0 n1 V1 n5 V5 r1 none b6 b7 W) (hb : Below W.heap.size W W') {q : Option Addr × Nat} {l : List En} (ho : OwnM W' W.heap.size q.1 n5 q.2 l) (hv : vsE l = V5) : Tw w0 n1 V1 n5 V5 r1 (some q) b6 b7 W' :=
  ⟨(h.step hb).b, (h.step hb).o1, fun q' e => (by injection e with e; subst e; exact ⟨l, ho.base_ h.b.size, hv⟩), (h.step hb).v6, (h.step hb).v7, h.ne⟩
theorem Tw.made6 (h : Tw w0 n1 V1 n5 V5 r1 r5 none b7 W) : Tw w0 n1 V1 n5 V5 r1 r5 (some W.heap.size) b7 (W.alloc (.cells (lgC 0 0 none 0 0).toArray 27)) := by
  have hb : Below W.heap.size W (W.alloc (.cells (lgC 0 0 none 0 0).toArray 27)) := (Below.refl _ _).alloc (Nat.le_refl _) _
  have hs := h.step hb
  exact ⟨hs.b, hs.o1, hs.o5, fun g e => (by injection e with e; subst e; exact ⟨h.b.size, by simp, Bl.new W 27 (lgC 0 0 none 0 0)⟩), hs.v7, fun g g' e e' => (by injection e with e; subst e; have := (h.v7 g' e').2.1; omega)⟩
theorem Tw.made7 (h : Tw w0 n1 V1 n5 V5 r1 r5 b6 none W) : Tw w0 n1 V1 n5 V5 r1 r5 b6 (some W.heap.size) (W.alloc (.cells (lgC 0 0 none 0 0).toArray 27)) := by
  have hb : Below W.heap.size W (W.alloc (.cells (lgC 0 0 none 0 0).toArray 27)) := (Below.refl _ _).alloc (Nat.le_refl _) _
  have hs := h.step hb
  exact ⟨hs.b, hs.o1, hs.o5, hs.v6, fun g e => (by injection e with e; subst e; exact ⟨h.b.size, by simp, Bl.new W 27 (lgC 0 0 none 0 0)⟩), fun g g' e e' => (by injection e' with e'; subst e'; have := (h.v6 g e).2.1; omega)⟩
end
end Go.Proofs.Ytgdcahakefmakaa
