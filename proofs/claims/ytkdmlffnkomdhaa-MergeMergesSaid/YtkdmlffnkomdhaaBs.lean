/-
  A VARIABLE THAT IS MADE AT WHATEVER TIME BESIDE CALLS, and then written.
-/
import Derived.Test.YtkdmlffnkomdhaaPa
import Derived.Deep.DeepCutAuto
namespace Go.Proofs.Ytkdmlffnkomdhaa
set_option linter.unusedVariables false
set_option linter.unusedSimpArgs false
open Go.RowKit Go.WideShapes Go.ChangeShapes Go.Deep

theorem wp_alloc_as {P : Program} {o : Oper} {a : Act} {w : World} {K : Act → World → Prop} {Q : Exit → Act → World → Prop} (e : TypeId) (ho : o.op = .alloc e)
    (zs : Array Value) (hz : ∀ w : World, (zeroValue e).run P w = .ok (.agg zs) w) (h : K (a.put o.dst (.pointer (some ⟨w.heap.size, 0, none⟩))) (w.alloc (.cells zs e))) : o.wp P a w K Q := by
  unfold Oper.wp execOp
  simp only [ho, Instr.alloc, Sem.run_bind, hz, Result.andThen_ok, newVar, newRow, newObj, Sem.run_pure, Value.cells]
  exact h
theorem wp_fn {P : Program} {o : Oper} {a : Act} {w : World} {K : Act → World → Prop} {Q : Exit → Act → World → Prop} {f : FuncId} {xs : Array Value} (hr : (execOp a.eval o).run P w = .ok (.enter f xs) w)
    (h : Calls P f xs w fun e w' => ∃ v, e = .returned v ∧ K (a.put o.dst v) w') : o.wp P a w K Q := by
  unfold Oper.wp
  rw [hr, Oper.upon_enter]
  refine h.mono ?_
  rintro e w' ⟨v, rfl, hk⟩
  exact hk
structure Bes (w0 : World) (z : Value) (T : TypeId) (ob : Option Nat) (w : World) : Prop where
  below : Below w0.heap.size w0 w
  bx : ∀ B, ob = some B → Lies w B 1 [z] ∧ w.heap[B]? = some (.cells #[z] T) ∧ w0.heap.size ≤ B
section
variable {w0 w w' : World} {z : Value} {T : TypeId} {ob : Option Nat} {B : Nat}
theorem Bes.start (w0 : World) (z : Value) (T : TypeId) : Bes w0 z T none w0.drew := ⟨(Below.refl _ _).drew, (fun _ h => by cases h)⟩
theorem Bes.alloc (p : Bes w0 z T none w) : Bes w0 z T (some w.heap.size) (w.alloc (.cells #[z] T)) := by
  have hb : Below w.heap.size w (w.alloc (.cells #[z] T)) := (Below.refl _ _).alloc (Nat.le_refl _) _
  refine ⟨p.below.trans (hb.mono p.below.size), fun B h => ?_⟩
  injection h with h; subst h
  exact ⟨Lies.new w [z] T, heap_alloc_new w _, p.below.size⟩
theorem Bes.call (p : Bes w0 z T ob w) (hb : Below w.heap.size w w') : Bes w0 z T ob w' :=
  ⟨p.below.trans (hb.mono p.below.size), fun B h => ⟨(p.bx B h).1.below hb (p.bx B h).1.lt, by rw [hb.block B (p.bx B h).1.lt]; exact (p.bx B h).2.1, (p.bx B h).2.2⟩⟩
theorem Bes.there (p : Bes w0 z T (some B) w) : w.there B 0 1 := (p.bx B rfl).1.th
theorem sq_off {α : Type} {f : α → List Value} {k : Nat} {C n c : Nat} {A : Option Addr} {l : List α} (h : Sq f k w C A n c l) (hB : w.heap[B]? = some (.cells #[z] T)) (hz : ∀ x, z ∉ f x) (hk : 0 < k) (hn : 0 < n) : ∀ x, A = some x → x.block ≠ B := by
  obtain ⟨b, o, e, hlt, hr⟩ := h.at_ (i := 0) hn
  rintro x rfl
  cases e
  rintro rfl
  have hl : 0 < l.length := by rw [h.len]; exact hn
  obtain ⟨v, hv⟩ : ∃ v, (f (l[0]'hl))[0]? = some v := ⟨_, List.getElem?_eq_getElem (by rw [h.sz]; exact hk)⟩
  have hc := hr 0 v hv
  unfold World.cell? at hc
  rw [show (⟨b, o + 0 * k + 0, none⟩ : Addr).block = b from rfl, hB] at hc
  simp only [Option.isSome_none, Bool.false_eq_true, if_false] at hc
  have h0 : v = z := by
    have := hc
    rw [Array.getElem?_eq_some_iff] at this
    obtain ⟨h1, h2⟩ := this
    simp only [List.size_toArray, List.length_cons, List.length_nil] at h1
    rw [← h2]
    simp [show o + 0 * k + 0 = 0 by omega]
  subst h0
  exact hz _ (List.mem_of_getElem? hv)
theorem Sq.put {α : Type} {f : α → List Value} {k : Nat} {C n c : Nat} {A : Option Addr} {l : List α} (h : Sq f k w C A n c l) (vs : List Value) (ho : 0 < n → ∀ x, A = some x → x.block ≠ B) : Sq f k (w.setCells B 0 vs) C A n c l :=
  ⟨h.len, h.cap, h.max, h.non, h.sz, fun hn => by
    obtain ⟨b, o, e, hlt, hc⟩ := h.pos hn
    exact ⟨b, o, e, hlt, rangeAt_keep hc ((setCells_os B vs 0 w).2.2.2.2 b (ho hn _ e))⟩⟩
theorem Lies.set_ {k : Nat} {l : List Value} (h : Lies w B k l) {l' : List Value} (hl : l'.length = k) : Lies (w.setCells B 0 l') B k l' :=
  ⟨World.rangeAt_setCells_same _ _ _ _ (by rw [hl]; exact h.th), World.there_setCells h.th _ _ _, by rw [(setCells_os B l' 0 w).2.2.2.1]; exact h.lt, hl⟩
/-- It is written. -/
structure Fin {α : Type} (f : α → List Value) (k : Nat) (w0 : World) (B : Nat) (A : Option Addr) (n c : Nat) (l : List α) (w : World) : Prop where
  below : Below w0.heap.size w0 w
  x : Lies w B 1 [.slice A n c]
  sq : Sq f k w w.heap.size A n c l
  hB : w0.heap.size ≤ B
theorem Bes.done {α : Type} {f : α → List Value} {k : Nat} {n c : Nat} {A : Option Addr} {l : List α} (p : Bes w0 z T (some B) w) (h : Sq f k w w.heap.size A n c l) (hz : ∀ x, z ∉ f x) (hk : 0 < k) :
    Fin f k w0 B A n c l (w.setCells B 0 [.slice A n c]) := by
  obtain ⟨h1, h2, h3⟩ := p.bx B rfl
  refine ⟨below_setCells p.below h3 _ _, h1.set_ rfl, ?_, h3⟩
  rw [(setCells_os B _ 0 w).2.2.2.1]
  exact h.put _ fun hn => sq_off h h2 hz hk hn
theorem rw_noslice {A : Option Addr} {n c : Nat} (x : Rw) : Value.slice A n c ∉ x.cells := by simp [Rw.cells]
theorem ch_noslice {A : Option Addr} {n c : Nat} (x : Ch) : Value.slice A n c ∉ x.cells := by simp [Ch.cells]
theorem zero_map (w : World) : (zeroValue 24).run Try.prog w = .ok (.agg #[.slice none 0 0]) w := by kernel_rfl
theorem zero_edit (w : World) : (zeroValue 36).run Try.prog w = .ok (.agg #[.slice none 0 0]) w := by kernel_rfl
theorem size_map (A : Option Addr) (n c : Nat) : (Try.prog.info? 24).map (·.size) = some [Value.slice A n c].length := by show _ = some 1; kernel_rfl
theorem size_edit (A : Option Addr) (n c : Nat) : (Try.prog.info? 36).map (·.size) = some [Value.slice A n c].length := by show _ = some 1; kernel_rfl
end
end Go.Proofs.Ytkdmlffnkomdhaa
