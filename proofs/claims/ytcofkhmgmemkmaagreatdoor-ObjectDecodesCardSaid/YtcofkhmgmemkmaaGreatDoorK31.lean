/-
  OBJECTS: an object on its way in.
-/
import Derived.Test.YtcofkhmgmemkmaaGreatDoorK30
namespace Go.Proofs.YtcofkhmgmemkmaaGreatDoor
set_option linter.unusedVariables false
set_option linter.unusedSimpArgs false
open Go.RowKit Go.WideShapes Go.ChangeShapes Go.Deep Go.Shelf
attribute [local irreducible] wpQuiet

theorem Lies.mid {W : World} {b k : Nat} {l : List Value} (h : Lies W b k l) (o : Nat) (vs : List Value) (hle : o + vs.length ≤ k) : Lies (W.setCells b o vs) b k (l.take o ++ (vs ++ l.drop (o + vs.length))) := by
  have hl := h.len
  refine ⟨?_, World.there_setCells h.th _ _ _, by rw [(setCells_os b vs o W).2.2.2.1]; exact h.lt, by simp; omega⟩
  have hth : W.there b o vs.length := fun i hi => (by have := h.th (o + i) (by omega); rwa [Nat.zero_add] at this)
  have hs : (W.setCells b o vs).rangeAt b o vs := World.rangeAt_setCells_same _ _ _ _ hth
  intro i v hv
  rw [Nat.zero_add]
  rcases Nat.lt_or_ge i o with h1 | h1
  · rw [List.getElem?_append_left (by simp; omega), List.getElem?_take_of_lt h1] at hv
    rw [World.cell?_setCells_out b vs o W ⟨b, i, none⟩ (fun _ _ => .inl h1)]
    have := h.rg i v hv
    rwa [Nat.zero_add] at this
  · rw [List.getElem?_append_right (by simp; omega)] at hv
    have e1 : (l.take o).length = o := by simp; omega
    rw [e1] at hv
    rcases Nat.lt_or_ge i (o + vs.length) with h2 | h2
    · rw [List.getElem?_append_left (by omega)] at hv
      have := hs (i - o) v hv
      rwa [show o + (i - o) = i by omega] at this
    · rw [List.getElem?_append_right (by omega), List.getElem?_drop, show o + vs.length + (i - o - vs.length) = i by omega] at hv
      rw [World.cell?_setCells_out b vs o W ⟨b, i, none⟩ (fun _ _ => .inr h2)]
      have := h.rg i v hv
      rwa [Nat.zero_add] at this
theorem of_tree (o : Of) (i : Idv) : ({ o with tree := i } : Of).cells = o.cells.take 4 ++ (i.cells ++ o.cells.drop (4 + i.cells.length)) := by
  rw [id_sz]
  unfold Of.cells Idv.cells
  have h1 : (S3.bvs o.tree.b).length = 32 := by rw [S3.bvs_len, o.tree.h]
  rw [List.take_left' (by rfl), ← List.append_assoc [_, _, _, _] (S3.bvs o.tree.b), List.drop_left' (by simp [h1])]
theorem mid4 (a t b r i : List Value) (h : (a ++ t).length = 36) (hb : b.length = 32) : a ++ (t ++ (i ++ r)) = (a ++ (t ++ (b ++ r))).take 36 ++ (i ++ (a ++ (t ++ (b ++ r))).drop (36 + 32)) := by
  have e1 : a ++ (t ++ (b ++ r)) = (a ++ t) ++ (b ++ r) := by simp
  have e2 : a ++ (t ++ (b ++ r)) = ((a ++ t) ++ b) ++ r := by simp
  have t1 : (a ++ (t ++ (b ++ r))).take 36 = a ++ t := by rw [e1, List.take_left' h]
  have t2 : (a ++ (t ++ (b ++ r))).drop (36 + 32) = r := by rw [e2, List.drop_left' (by rw [List.length_append, h, hb])]
  rw [t1, t2, List.append_assoc]
theorem of_base (o : Of) (i : Idv) : ({ o with base := i } : Of).cells = o.cells.take 36 ++ (i.cells ++ o.cells.drop (36 + i.cells.length)) := by
  rw [id_sz]
  unfold Of.cells Idv.cells
  have h1 : (S3.bvs o.tree.b).length = 32 := by rw [S3.bvs_len, o.tree.h]
  have h2 : (S3.bvs o.base.b).length = 32 := by rw [S3.bvs_len, o.base.h]
  exact mid4 _ _ _ _ _ (by simp [h1]) h2
theorem Lt.at_ {W W' : World} {b k : Nat} {t : TypeId} {l : List Value} (h : Lt W b t k l) (e : W'.heap[b]? = W.heap[b]?) (hs : W.heap.size ≤ W'.heap.size) : Lt W' b t k l := by
  obtain ⟨cs, f, hc⟩ := h.ty
  exact ⟨h.ls.kp e hs, cs, f, e.trans hc⟩
/-- How an object on its way in lies. -/
structure Oq (w : World) (g X : Nat) (s : St) (o : Of) (l : List Lf) (L : Sl) (ps : List Idv) (P : Sl) (es : List Ch) (E : Sl) (W : World) : Prop where
  lt : Lt W X 34 73 o.cells
  r : RdS W g s
  gr : w.grownBy W (some g)
  l : W.ownsRow w.heap.size 68 33 (.slice L.a L.n L.c) L.n (l.flatMap Lf.cells)
  p : W.ownsRow w.heap.size 27 32 (.slice P.a P.n P.c) P.n (ps.flatMap Idv.cells)
  e : W.ownsRow w.heap.size 71 3 (.slice E.a E.n E.c) E.n (es.flatMap Ch.cells)
  y : Lt W (w.heap.size + 1) 34 73 zOf.cells
  k : W.cell? ⟨w.heap.size, 0, none⟩ = some (S3.rp g)
  x : w.heap.size + 1 < X
  g : g < w.heap.size
section
variable {w : World} {g X : Nat} {s s' : St} {o o' : Of} {l l' : List Lf} {L L' : Sl} {ps ps' : List Idv} {P P' : Sl} {es es' : List Ch} {E E' : Sl} {W W' : World}
theorem own_grown {e : TypeId} {k m n c : Nat} {A : Option Addr} {xs : List Value} (h : W.ownsRow w.heap.size e k (.slice A n c) m xs) (hg : W.grownBy W' (some g)) (hgl : g < w.heap.size) : W'.ownsRow w.heap.size e k (.slice A n c) m xs :=
  own_keep h fun b hb => by
    obtain ⟨h1, h2, _⟩ := own_ty h b hb
    exact hg.block b h2 (by simp <;> omega)
theorem Oq.call (h : Oq w g X s o l L ps P es E W) (hg : W.grownBy W' (some g)) (hr : RdS W' g s') : Oq w g X s' o l L ps P es E W' := by
  obtain ⟨cs, f, hc⟩ := h.lt.ty
  have hx := h.x
  have hgl := h.g
  have e1 := hg.block X (Array.getElem?_eq_some_iff.1 hc).1 (by simp <;> omega)
  exact ⟨⟨h.lt.ls.kp e1 hg.size, cs, f, e1.trans hc⟩, hr, S3.only_trans h.gr hg, own_grown h.l hg hgl, own_grown h.p hg hgl, own_grown h.e hg hgl, h.y.at_ (hg.block _ h.y.ls.lt (by simp <;> omega)) hg.size, cell_grown hg (block_lt_of_cell h.k) (show w.heap.size ≠ g by omega) h.k, h.x, h.g⟩
theorem own_other {e t : TypeId} {k m n c b : Nat} {A : Option Addr} {xs : List Value} {cs : Array Value} {f : Nat × Nat} (h : W.ownsRow w.heap.size e k (.slice A n c) m xs) (hb : W.heap[b]? = some (.cells cs t f)) (hne : t ≠ e) (hg : W.grownBy W' (some b)) : W'.ownsRow w.heap.size e k (.slice A n c) m xs :=
  own_keep h fun j hj => by
    obtain ⟨h1, h2, cs', f', hc⟩ := own_ty h j hj
    refine hg.block j h2 (fun e' => ?_)
    injection e' with e'
    rw [e', hb] at hc
    injection hc with hc
    injection hc with _ e2
    exact hne e2
/-- A field that is set. -/
theorem Oq.set_ (h : Oq w g X s o l L ps P es E W) (hg : W.grownBy W' (some X)) (hls : Lies W' X 73 o'.cells) (hty : ∃ cs f, W'.heap[X]? = some (.cells cs 34 f)) : Oq w g X s o' l L ps P es E W' := by
  obtain ⟨cs, f, hc⟩ := h.lt.ty
  have hx := h.x
  have hgl := h.g
  refine ⟨⟨hls, hty⟩, ⟨h.r.1.keep fun k hk => hg.block k (by have := h.r.1.lt; omega) (by simp <;> omega), h.r.2⟩, ?_, own_other h.l hc (by decide) hg, own_other h.p hc (by decide) hg, own_other h.e hc (by decide) hg, h.y.at_ (hg.block _ h.y.ls.lt (by simp <;> omega)) hg.size, (World.cell?_of_block (hg.block _ (block_lt_of_cell h.k) (by simp <;> omega))).trans h.k, h.x, h.g⟩
  exact only_then h.gr ⟨hg.os, hg.tape, hg.output, hg.size, fun i hi => hg.block i (by have := h.gr.size; omega) (by simp <;> omega)⟩
theorem Oq.set1 (h : Oq w g X s o l L ps P es E W) (j : Nat) (v : Value) (ho : o'.cells = o.cells.set j v) : Oq w g X s o' l L ps P es E (W.setCell ⟨X, j, none⟩ v) := by
  obtain ⟨cs, f, hc⟩ := h.lt.ty
  obtain ⟨cs', h'⟩ := typ_setCell (o := j) (v := v) hc
  exact h.set_ (only_set (only_refl W (some X)) (p := ⟨X, j, none⟩) rfl v) (by rw [ho]; exact h.lt.ls.set1 j v) ⟨cs', f, h'⟩
theorem grown_setCells (W : World) (b o : Nat) (vs : List Value) : W.grownBy (W.setCells b o vs) (some b) := by
  obtain ⟨h1, h2, h3, h4, h5⟩ := setCells_os b vs o W
  exact ⟨h1, h2, h3, by rw [h4]; exact Nat.le_refl _, fun k _ hk => h5 k (by simpa using hk)⟩
theorem Oq.setn (h : Oq w g X s o l L ps P es E W) (j : Nat) (vs : List Value) (hle : j + vs.length ≤ 73) (ho : o'.cells = o.cells.take j ++ (vs ++ o.cells.drop (j + vs.length))) : Oq w g X s o' l L ps P es E (W.setCells X j vs) := by
  obtain ⟨cs, f, hc⟩ := h.lt.ty
  obtain ⟨cs', h'⟩ := typ_setCells vs j W cs hc
  exact h.set_ (grown_setCells W X j vs) (by rw [ho]; exact h.lt.ls.mid j vs hle) ⟨cs', f, h'⟩
/-- Rows that come. -/
theorem Oq.rowL (h : Oq w g X s o l L ps P es E W) {A : Option Addr} {n c base : Nat} (hb : w.heap.size ≤ base) (ho : W.ownsRow base 68 33 (.slice A n c) n (l'.flatMap Lf.cells)) : Oq w g X s o l' ⟨A, n, c⟩ ps P es E W :=
  ⟨h.lt, h.r, h.gr, own_base ho hb, h.p, h.e, h.y, h.k, h.x, h.g⟩
theorem Oq.rowI (h : Oq w g X s o l L ps P es E W) {A : Option Addr} {n c base : Nat} (hb : w.heap.size ≤ base) (ho : W.ownsRow base 27 32 (.slice A n c) n (ps'.flatMap Idv.cells)) : Oq w g X s o l L ps' ⟨A, n, c⟩ es E W :=
  ⟨h.lt, h.r, h.gr, h.l, own_base ho hb, h.e, h.y, h.k, h.x, h.g⟩
theorem Oq.rowC (h : Oq w g X s o l L ps P es E W) {A : Option Addr} {n c base : Nat} (hb : w.heap.size ≤ base) (ho : W.ownsRow base 71 3 (.slice A n c) n (es'.flatMap Ch.cells)) : Oq w g X s o l L ps P es' ⟨A, n, c⟩ W :=
  ⟨h.lt, h.r, h.gr, h.l, h.p, own_base ho hb, h.y, h.k, h.x, h.g⟩
/-- What comes out. -/
structure ObjOut (w : World) (g : Nat) (v : Value) (x : Ov) (s : St) (w' : World) : Prop where
  ob : ∃ L P E, v = ofV (x.at_ L P E) ∧ Obj3 w' w'.heap.size x L P E ∧ Lim L P E ∧ (∀ W', w'.heap.size ≤ W'.heap.size → (∀ i, w.heap.size ≤ i → i < w'.heap.size → W'.heap[i]? = w'.heap[i]?) → Obj3 W' W'.heap.size x L P E)
  r : RdS w' g s
  gr : w.grownBy w' (some g)
theorem Oq.fin {x : Ov} (h : Oq w g X s (x.at_ L P E) x.lv L x.ps P x.es E W) (hL : L.n ≤ 100000) (hP : P.n ≤ 100000) (hE : E.n ≤ 100000) (kb : -9223372036854775808 ≤ x.kind ∧ x.kind ≤ 9223372036854775807) (sb : -9223372036854775808 ≤ x.style ∧ x.style ≤ 9223372036854775807) (nb : x.num < 4294967296) (ab : x.auth < 4294967296) :
    ObjOut w g (ofV (x.at_ L P E)) x s (W.setCells (w.heap.size + 1) 0 (x.at_ L P E).cells) := by
  obtain ⟨cs, f, hc⟩ := h.y.ty
  have hg := grown_setCells W (w.heap.size + 1) 0 (x.at_ L P E).cells
  have hgl := h.g
  have o1 := own_other h.l hc (by decide) hg
  have o2 := own_other h.p hc (by decide) hg
  have o3 := own_other h.e hc (by decide) hg
  refine ⟨⟨L, P, E, rfl, ⟨own_sq o1 lf_sz (by omega), own_sq o2 id_sz (by omega), own_sq o3 chr_sz (by omega), kb, sb, nb, ab⟩, ⟨hL, hP, hE⟩, fun W' hs hk => ⟨own_sq (own_keep o1 fun b e => hk b (own_ty o1 b e).1 (own_ty o1 b e).2.1) lf_sz (by omega), own_sq (own_keep o2 fun b e => hk b (own_ty o2 b e).1 (own_ty o2 b e).2.1) id_sz (by omega), own_sq (own_keep o3 fun b e => hk b (own_ty o3 b e).1 (own_ty o3 b e).2.1) chr_sz (by omega), kb, sb, nb, ab⟩⟩, ⟨h.r.1.keep fun k hk => hg.block k (by have := h.r.1.lt; omega) (by simp <;> omega), h.r.2⟩, ?_⟩
  exact only_then h.gr ⟨hg.os, hg.tape, hg.output, hg.size, fun i hi => hg.block i (by have := h.gr.size; omega) (by simp <;> omega)⟩
end
end Go.Proofs.YtcofkhmgmemkmaaGreatDoor
