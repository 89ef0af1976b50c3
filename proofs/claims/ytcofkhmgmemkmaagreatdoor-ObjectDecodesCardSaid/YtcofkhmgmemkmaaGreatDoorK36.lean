/-
  OBJECTS: rows that are written one by one (pure).
  STAGE 6's STATEMENTS: an object that can be played in time.
-/
import Derived.Test.YtcofkhmgmemkmaaGreatDoorK35
namespace Go.Proofs.YtcofkhmgmemkmaaGreatDoor
set_option linter.unusedVariables false
set_option linter.unusedSimpArgs false
open Go.RowKit Go.WideShapes Go.ChangeShapes Go.Deep

theorem flat_set {α : Type} {f : α → List Value} {k : Nat} (hs : ∀ x, (f x).length = k) (i : Nat) (hi : i < k) (u : Value) (y : α) : ∀ (l : List α) (j : Nat) (hj : j < l.length), f y = (f l[j]).set i u → (l.flatMap f).set (j * k + i) u = (l.set j y).flatMap f
  | [], j, hj, _ => by simp at hj
  | x :: r, 0, _, h => by
    simp only [List.getElem_cons_zero] at h
    simp only [List.flatMap_cons, List.set_cons_zero, Nat.zero_mul, Nat.zero_add]
    rw [List.set_append_left _ _ (by rw [hs]; exact hi), h]
  | x :: r, j + 1, hj, h => by
    simp only [List.getElem_cons_succ] at h
    simp only [List.flatMap_cons, List.set_cons_succ]
    rw [List.set_append_right _ _ (by rw [hs, Nat.succ_mul]; omega), hs, show (j + 1) * k + i - k = j * k + i by rw [Nat.succ_mul]; omega, flat_set hs i hi u y r j (by simpa using hj) h]
/-- The first k of them as g has them. -/
def mixR {α : Type} (g : α → α) (l : List α) (k : Nat) : List α := (l.take k).map g ++ l.drop k
section
variable {α : Type} {g : α → α} {l : List α} {k : Nat}
theorem mix_zero : mixR g l 0 = l := by simp [mixR]
theorem mix_end (h : l.length ≤ k) : mixR g l k = l.map g := by unfold mixR; rw [List.take_of_length_le h, List.drop_eq_nil_of_le h, List.append_nil]
theorem mix_len : (mixR g l k).length = l.length := by unfold mixR; simp; omega
theorem mix_get (h : k < l.length) : (mixR g l k)[k]? = some l[k] := by
  unfold mixR
  rw [List.getElem?_append_right (by simp; omega)]
  simp [Nat.min_eq_left (Nat.le_of_lt h), h]
theorem mix_set (h : k < l.length) : (mixR g l k).set k (g l[k]) = mixR g l (k + 1) := by
  unfold mixR
  rw [List.set_append_right _ _ (by simp; omega)]
  simp only [List.length_map, List.length_take, Nat.min_eq_left (Nat.le_of_lt h), Nat.sub_self]
  rw [List.drop_eq_getElem_cons h, List.set_cons_zero, List.take_succ_eq_append_getElem h, List.map_append, List.append_assoc]
  rfl
end
theorem mixL_set {ll : List Lf} {k : Nat} (h : k < ll.length) : ((mixR cutL ll k).flatMap Lf.cells).set (k * 33) (.string (cutB 49 ll[k].p)) = (mixR cutL ll (k + 1)).flatMap Lf.cells := by
  have hm : k < (mixR cutL ll k).length := by rw [mix_len]; exact h
  have hg : (mixR cutL ll k)[k] = ll[k] := by have := mix_get (g := cutL) h; rw [List.getElem?_eq_getElem hm] at this; exact Option.some.inj this
  have := flat_set lf_sz 0 (by omega) (.string (cutB 49 ll[k].p)) (cutL ll[k]) (mixR cutL ll k) k hm (by rw [hg]; rfl)
  rw [mix_set h] at this
  exact this
theorem mixC_one {ee : List Ch} {k : Nat} (h : k < ee.length) : ((mixR cutC ee k).flatMap Ch.cells).set (k * 3) (.string (cutB 49 ee[k].p)) = ((mixR cutC ee k).set k ⟨cutB 49 ee[k].p, ee[k].is, ee[k].t⟩).flatMap Ch.cells := by
  have hm : k < (mixR cutC ee k).length := by rw [mix_len]; exact h
  have hg : (mixR cutC ee k)[k] = ee[k] := by have := mix_get (g := cutC) h; rw [List.getElem?_eq_getElem hm] at this; exact Option.some.inj this
  exact flat_set ch_sz 0 (by omega) (.string (cutB 49 ee[k].p)) ⟨cutB 49 ee[k].p, ee[k].is, ee[k].t⟩ (mixR cutC ee k) k hm (by rw [hg]; rfl)
theorem mixC_two {ee : List Ch} {k : Nat} (h : k < ee.length) : (((mixR cutC ee k).set k ⟨cutB 49 ee[k].p, ee[k].is, ee[k].t⟩).flatMap Ch.cells).set (k * 3 + 2) (.string (cutB 257 ee[k].t)) = (mixR cutC ee (k + 1)).flatMap Ch.cells := by
  have hm : k < ((mixR cutC ee k).set k ⟨cutB 49 ee[k].p, ee[k].is, ee[k].t⟩).length := by rw [List.length_set, mix_len]; exact h
  have := flat_set ch_sz 2 (by omega) (.string (cutB 257 ee[k].t)) (cutC ee[k]) ((mixR cutC ee k).set k ⟨cutB 49 ee[k].p, ee[k].is, ee[k].t⟩) k hm (by rw [List.getElem_set_self]; rfl)
  rw [List.set_set, mix_set h] at this
  exact this
theorem row_at {α : Type} {f : α → List Value} {k : Nat} (hs : ∀ x, (f x).length = k) (hk : 0 < k) {W : World} {base n c g : Nat} {e : TypeId} {l : List α} (h : W.ownsRow base e k (.slice (some ⟨g, 0, none⟩) n c) n (l.flatMap f)) {i : Nat} {y : α} (hi : i < n) (hy : l[i]? = some y) : W.rangeAt g (i * k) (f y) := by
  have hq := own_sq h hs hk
  obtain ⟨b, o, e1, _, hr⟩ := hq.at_ hi
  injection e1 with e1
  injection e1 with e1 e2
  subst e1 e2
  have hl : i < l.length := by rw [hq.len]; exact hi
  rw [List.getElem?_eq_getElem hl] at hy
  injection hy with hy
  rw [Nat.zero_add, hy] at hr
  exact hr
theorem of_text (o : Of) (s : ByteArray) : ({ o with text := s } : Of).cells = o.cells.set 1 (.string s) := rfl
theorem of_lv (o : Of) (v : Value) : ({ o with lv := v } : Of).cells = o.cells.set 2 v := rfl
end Go.Proofs.YtcofkhmgmemkmaaGreatDoor
namespace Go.Proofs.YtcofkhmgmemkmaaGreatDoor
set_option linter.unusedVariables false
set_option linter.unusedSimpArgs false
open Go.RowKit Go.WideShapes Go.ChangeShapes Go.Deep Go.Shelf
attribute [local irreducible] wpQuiet

theorem Sq.cut {α : Type} {f : α → List Value} {k : Nat} {w : World} {B n c m : Nat} {A : Option Addr} {l : List α} (h : Sq f k w B A n c l) (hm : m ≤ n) : Sq f k w B A m c (l.take m) :=
  ⟨by rw [List.length_take, h.len]; omega, Nat.le_trans hm h.cap, h.max, h.non, h.sz, fun h0 => by
    obtain ⟨b, o, e, hlt, hr⟩ := h.pos (by omega)
    refine ⟨b, o, e, hlt, fun j u hu => hr j u ?_⟩
    have e2 : l.flatMap f = (l.take m).flatMap f ++ (l.drop m).flatMap f := by rw [← List.flatMap_append, List.take_append_drop]
    rw [e2, List.getElem?_append_left (List.getElem?_eq_some_iff.1 hu).1]
    exact hu⟩
/-- What is so throughout: the object, what is to be told, its rows of one's own. -/
structure Lo (w : World) (X base : Nat) (o z : Of) (ls : List Lf) (L : Sl) (ps : List Idv) (P : Sl) (es : List Ch) (E : Sl) (W : World) : Prop where
  b : Below w.heap.size w W
  t : Lies W X 73 o.cells
  y : Lies W (X + 1) 73 z.cells
  l : W.ownsRow base 68 33 (.slice L.a L.n L.c) L.n (ls.flatMap Lf.cells)
  p : W.ownsRow base 27 32 (.slice P.a P.n P.c) P.n (ps.flatMap Idv.cells)
  e : W.ownsRow base 71 3 (.slice E.a E.n E.c) E.n (es.flatMap Ch.cells)
  xb : X + 1 < base
  wx : w.heap.size = X
section
variable {w : World} {X base : Nat} {o z : Of} {ls ls' : List Lf} {L : Sl} {ps : List Idv} {P : Sl} {es es' : List Ch} {E : Sl} {W : World}
theorem Lo.drew (h : Lo w X base o z ls L ps P es E W) : Lo w X base o z ls L ps P es E W.drew := ⟨h.b.trans (Below.refl _ _).drew, h.t.below (Below.refl _ _).drew h.t.lt, h.y.below (Below.refl _ _).drew h.y.lt, h.l, h.p, h.e, h.xb, h.wx⟩
theorem Lo.setL (h : Lo w X base o z ls L ps P es E W) {g : Nat} (hL : L.a = some ⟨g, 0, none⟩) (j : Nat) (u : Value) (hu : (ls.flatMap Lf.cells).set j u = ls'.flatMap Lf.cells) : Lo w X base o z ls' L ps P es E (W.setCell ⟨g, j, none⟩ u) := by
  have h1 := h.l
  rw [hL] at h1
  obtain ⟨h2, h3⟩ := h1.stored j u
  have hg : base ≤ g := (h1.lt g rfl).1
  have hx := h.xb
  have hw := h.wx
  rw [hu, ← hL] at h2
  exact ⟨h.b.setCell (p := ⟨g, j, none⟩) (by show w.heap.size ≤ g; omega) u, h.t.far (p := ⟨g, j, none⟩) (by show X ≠ g; omega) u, h.y.far (p := ⟨g, j, none⟩) (by show X + 1 ≠ g; omega) u, h2, own_two h.p h1 (by decide) h3, own_two h.e h1 (by decide) h3, hx, hw⟩
theorem Lo.setE (h : Lo w X base o z ls L ps P es E W) {g : Nat} (hE : E.a = some ⟨g, 0, none⟩) (j : Nat) (u : Value) (hu : (es.flatMap Ch.cells).set j u = es'.flatMap Ch.cells) : Lo w X base o z ls L ps P es' E (W.setCell ⟨g, j, none⟩ u) := by
  have h1 := h.e
  rw [hE] at h1
  obtain ⟨h2, h3⟩ := h1.stored j u
  have hg : base ≤ g := (h1.lt g rfl).1
  have hx := h.xb
  have hw := h.wx
  rw [hu, ← hE] at h2
  exact ⟨h.b.setCell (p := ⟨g, j, none⟩) (by show w.heap.size ≤ g; omega) u, h.t.far (p := ⟨g, j, none⟩) (by show X ≠ g; omega) u, h.y.far (p := ⟨g, j, none⟩) (by show X + 1 ≠ g; omega) u, own_two h.l h1 (by decide) h3, own_two h.p h1 (by decide) h3, h2, hx, hw⟩
end

end Go.Proofs.YtcofkhmgmemkmaaGreatDoor
