/-
  OWN LAWS: steps of a drawn region.
-/
import Derived.Test.YtgdcahakefmakaaSb
import Derived.Test.YtgdcahakefmakaaYc
import Derived.Laws.AppendOwn
import Derived.Laws.OwnMore
namespace Go.Proofs.Ytgdcahakefmakaa
set_option linter.unusedVariables false
set_option linter.unusedSimpArgs false
open Go.RowKit Go.WideShapes Go.ChangeShapes Go.Deep Go.Shelf
attribute [local irreducible] wpQuiet

theorem wpBk_one {P : Program} {ops : Array Oper} {Q : Exit → Act → World → Prop} {md : Region.Mode} {S : World → Prop} {m i fuel : Nat} {o : Oper} {listed : Array Bool} {a : Act} {w : World} (ho : ops[i]? = some o) (hg : Region.wanted o (yielded ops a.tmps) = true) (hr : Region.ready md ops listed = [i])
    (h : ∀ K' : Act → World → Prop, (∀ a' w', (S w → i < m → S w') ∧ wpBk P md ops Q S m fuel (listed.setIfInBounds i true) a' w' → K' a' w') → o.wp P a w K' Q) : wpBk P md ops Q S m (fuel + 1) listed a w :=
  ⟨fun h1 => (by rw [hr] at h1; cases h1), fun j hj => by
    rw [hr] at hj
    obtain rfl : j = i := by simpa using hj
    exact wpOp_step ho fun K' hK => by
      rw [if_pos hg]
      exact h K' hK⟩
theorem wp_fn {P : Program} {o : Oper} {a : Act} {w : World} {K : Act → World → Prop} {Q : Exit → Act → World → Prop} {f : FuncId} {xs : Array Value} (hr : (execOp a.eval o).run P w = .ok (.enter f xs) w)
    (h : Calls P f xs w fun e w' => ∃ v, e = .returned v ∧ K (a.put o.dst v) w') : o.wp P a w K Q := by
  unfold Oper.wp
  rw [hr, Oper.upon_enter]
  refine h.mono ?_
  rintro e w' ⟨v, rfl, hk⟩
  exact hk
theorem wp_valw {P : Program} {o : Oper} {a : Act} {w w' : World} {K : Act → World → Prop} {Q : Exit → Act → World → Prop} {v : Value} (hr : (execOp a.eval o).run P w = .ok (.value v) w') (h : K (a.put o.dst v) w') : o.wp P a w K Q := by
  unfold Oper.wp
  rw [hr]
  exact h
/-- A list of one entry. -/
theorem wp_oneE {op : Oper} {a : Act} {w : World} {K : Act → World → Prop} {Q : Exit → Act → World → Prop} (x : Operand) (ho : op.op = .buildSlice 25 1 #[(0, x)]) (y : En) (hx : a.eval x = enV y)
    (h : K (a.put op.dst (.slice (some ⟨w.heap.size, 0, none⟩) 1 1)) (w.alloc (.cells #[.int .u64 (y.t : Int), .int .i64 y.k, .slice y.D.a y.D.n y.D.c] 44))) : op.wp Try.prog a w K Q := by
  have e := run_one_en w y
  refine wp_valw (w' := w.alloc (.cells #[.int .u64 (y.t : Int), .int .i64 y.k, .slice y.D.a y.D.n y.D.c] 44)) (v := .slice (some ⟨w.heap.size, 0, none⟩) 1 1) ?_ h
  unfold execOp
  simp only [ho, List.map_toArray, List.map_cons, List.map_nil, hx, Sem.run_bind, e, Result.andThen_ok, Sem.run_pure]
/-- Rows behind one's own: nil, empty or not; as a step of its own. -/
theorem wp_append_sq {α : Type} {f : α → List Value} {k : Nat} {P : Program} {w : World} {o : Oper} {a : Act} {K : Act → World → Prop} {Q : Exit → Act → World → Prop} (s x : Operand) (t : TypeId)
    (ho : o.op = .call { callee := .builtin .append, args := #[s, x], argTypes := #[t, t] })
    (base : Nat) (e : TypeId) (i : TypeInfo) (z : Value) (bytes : Nat) (ht : P.underlying t = some (.slice e)) (hi : P.info? e = some i) (hz : i.zero = some z) (hsize : i.size = k) (hby : i.bytes = bytes) (hzs : z.cells.size = k) (hk : 0 < k)
    (v : Value) (n : Nat) (l0 : List α) (hs : a.eval s = v) (hown : w.ownsRow base e k v n (l0.flatMap f))
    {B : Nat} {A : Option Addr} {m c : Nat} {l : List α} (hx : a.eval x = .slice A m c) (hr : Sq f k w B A m c l) (h1 : ∀ u ∈ l.flatMap f, u.oneCell' = true) (h63 : n + m ≤ 1000000) (hb : bytes ≤ 1000) (hbase : base ≤ w.heap.size)
    (h : ∀ v' w', w'.ownsRow base e k v' (n + m) ((l0 ++ l).flatMap f) → w.grownBy w' v.ownBlock → K (a.put o.dst v') w') : o.wp P a w K Q := by
  rcases A with _ | ad
  · obtain rfl : c = 0 := by have := hr.non rfl; omega
    obtain rfl : m = 0 := by have := hr.cap; omega
    obtain rfl : l = [] := List.eq_nil_of_length_eq_zero hr.len
    have hrun := run_append_owned_none (P := P) (w := w) base t o.type e i k ht hi v n _ hown
    unfold Oper.wp
    simp [execOp, ho, resolve, invoke, builtin, hs, hx, hrun, Result.andThen]
    exact h v w (by simpa using hown) (only_refl _ _)
  · have hc : ∀ j u, (l.flatMap f)[j]? = some u → w.cell? (ad.add j) = some u := by
      intro j u hu
      rcases Nat.eq_zero_or_pos m with h0 | h0
      · subst h0
        obtain rfl : l = [] := List.eq_nil_of_length_eq_zero hr.len
        simp at hu
      · obtain ⟨b, o', e', hlt, hc⟩ := hr.pos h0
        injection e' with e'
        subst e'
        rw [addr_add]
        exact hc j u hu
    refine wp_append_own w s x t ho base e i z k bytes ht hi hz hsize hby hzs hk v n _ hs hown ad m c (l.flatMap f) hx (by rw [flat_len hr.sz, hr.len]) hc h1 (by unfold maxLen; omega) (Nat.le_trans (Nat.mul_le_mul h63 hb) (by omega)) hbase fun v' w' h2 h3 _ => h v' w' (by rw [List.flatMap_append]; exact h2) h3
theorem fldA0 (a b : Nat) (w : World) : (Instr.field 24 (atV a b) 0).run Try.prog w = .ok (.int .u64 (a : Int)) w := by kernel_rfl
theorem below_own2 {W W' : World} {base k n : Nat} {e : TypeId} {v : Value} {xs : List Value} (h : W.ownsRow base e k v n xs) (hg : W.grownBy W' v.ownBlock) (hs : base ≤ W.heap.size) : Below base W W' :=
  ⟨hg.os, hg.tape, hg.output, hg.size, fun i hi => hg.block i (by omega) (fun e' => by have := (h.lt i e'.symm).1; omega)⟩
theorem bl_own {W W' : World} {base k n m c b : Nat} {e t : TypeId} {A : Option Addr} {xs cs : List Value} (hb : Bl W b t cs) (h : W.ownsRow base e k (.slice A n c) m xs) (ht : t ≠ e) (hg : W.grownBy W' (Value.ownBlock (.slice A n c))) : Bl W' b t cs := by
  refine hb.grown hg ?_
  rcases h.2 with ⟨e1, _⟩ | ⟨g, cap, cur, e1, _, hgg, _⟩
  · rw [e1]; simp [Value.ownBlock]
  · rw [e1]
    intro hh
    have hgb : b = g := by simpa [Value.ownBlock] using hh
    subst hgb
    have hb' : W.heap[b]? = _ := hb
    rw [hgg] at hb'
    injection hb' with hb'
    injection hb' with _ h2
    exact ht h2.symm
/-- The rest, in its one order. -/
theorem bk_drop {P : Program} {md : Region.Mode} {Q : Exit → Act → World → Prop} {S : World → Prop} {m : Nat} {l : List Oper} {listed : Array Bool} {a : Act} {w : World} (k g : Nat) (hg : (l.drop k).length = g) (hmk : m ≤ k) (hB : Region.seqB md l.toArray g k listed = true) (h : wpList P l.toArray Q (l.drop k) a w) : wpBk P md l.toArray Q S m g listed a w := by
  subst hg
  exact bk_tail (l.drop k) k listed a w hmk (fun j => by simp [List.getElem?_drop]) hB h
theorem OwnM.box {w : World} {base n c b : Nat} {A : Option Addr} {l : List En} (h : OwnM w base A n c l) {t : TypeId} {cs : List Value} (hb : Bl w b t cs) (h1 : t ≠ 44) (h2 : t ≠ 5) (j : Nat) (u : Value) : OwnM (w.setCell ⟨b, j, none⟩ u) base A n c l :=
  ⟨own_set h.row hb h1 j u, fun x hx => own_set (h.f x hx) hb h2 j u, h.b⟩
/-- Two lists of one's own, one behind the other. -/
theorem OwnM.cat {w w2 : World} {base n c m c3 n2 c2 : Nat} {A A3 A2 : Option Addr} {l l3 : List En} (h : OwnM w base A n c l) (h3 : OwnM w base A3 m c3 l3) (hr : w2.ownsRow base 44 3 (.slice A2 n2 c2) n2 ((l ++ l3).flatMap En.cells)) (hg : w.grownBy w2 (Value.ownBlock (.slice A n c))) : OwnM w2 base A2 n2 c2 (l ++ l3) := by
  refine ⟨hr, fun y hy => ?_, fun y hy => ?_⟩
  · rcases List.mem_append.1 hy with hy | hy
    · exact (h.f y hy).kept hg (own_ne (h.f y hy) h.row (by decide))
    · exact (h3.f y hy).kept hg (own_ne (h3.f y hy) h.row (by decide))
  · rcases List.mem_append.1 hy with hy | hy
    · exact h.b y hy
    · exact h3.b y hy
end Go.Proofs.Ytgdcahakefmakaa
