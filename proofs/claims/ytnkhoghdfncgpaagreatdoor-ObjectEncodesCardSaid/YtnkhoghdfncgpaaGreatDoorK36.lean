/-
  OBJECTS: rows that are written one by one (pure).
  STAGE 6's STATEMENTS: an object that can be played in time.
-/
import Derived.Test.YtnkhoghdfncgpaaGreatDoorK35
namespace Go.Proofs.YtnkhoghdfncgpaaGreatDoor
set_option linter.unusedVariables false
set_option linter.unusedSimpArgs false
open Go.RowKit Go.WideShapes Go.ChangeShapes Go.Deep

theorem flat_set {α : Type} {f : α → List Value} {k : Nat} (hs : ∀ x, (f x).length = k) (i : Nat) (hi : i < k) (u : Value) (y : α) : ∀ (l : List α) (j : Nat) (hj : j < l.length), f y = (f l[j]).set i u → (l.flatMap f).set (j * k + i) u = (l.set j y).flatMap f
  | [], j, hj, _ => by simp at hj
  | x :: r, 0, _, h => by
    simp only [List.getElem_cons_zero] at h
    simp only [List.flatMap_cons, List.set_cons_zero, Nat.zero_mul, Nat.zero_add]
    rw [List.set_append_left _ _ (by rw [hs]; exact hi), h]
  | x :: r, j + 1, hj, h => by
    simp only [List.getElem_cons_succ] at h
    simp only [List.flatMap_cons, List.set_cons_succ]
    rw [List.set_append_right _ _ (by rw [hs, Nat.succ_mul]; omega), hs, show (j + 1) * k + i - k = j * k + i by rw [Nat.succ_mul]; omega, flat_set hs i hi u y r j (by simpa using hj) h]
/-- The first k of them as g has them. -/
def mixR {α : Type} (g : α → α) (l : List α) (k : Nat) : List α := (l.take k).map g ++ l.drop k
section
variable {α : Type} {g : α → α} {l : List α} {k : Nat}
theorem mix_zero : mixR g l 0 = l := by simp [mixR]
theorem mix_end (h : l.length ≤ k) : mixR g l k = l.map g := by unfold mixR; rw [List.take_of_length_le h, List.drop_eq_nil_of_le h, List.append_nil]
theorem mix_len : (mixR g l k).length = l.length := by unfold mixR; simp; omega
theorem mix_get (h : k < l.length) : (mixR g l k)[k]? = some l[k] := by
  unfold mixR
  rw [List.getElem?_append_right (by simp; omega)]
  simp [Nat.min_eq_left (Nat.le_of_lt h), h]
theorem mix_set (h : k < l.length) : (mixR g l k).set k (g l[k]) = mixR g l (k + 1) := by
  unfold mixR
  rw [List.set_append_right _ _ (by simp; omega)]
  simp only [List.length_map, List.length_take, Nat.min_eq_left (Nat.le_of_lt h), Nat.sub_self]
  rw [List.drop_eq_getElem_cons h, List.set_cons_zero, List.take_succ_eq_append_getElem h, List.map_append, List.append_assoc]
  rfl
end
theorem mixL_set {ll : List Lf} {k : Nat} (h : k < ll.length) : ((mixR cutL ll k).flatMap Lf.cells).set (k * 33) (.string (cutB 49 ll[k].p)) = (mixR cutL ll (k + 1)).flatMap Lf.cells := by
  have hm : k < (mixR cutL ll k).length := by rw [mix_len]; exact h
  have hg : (mixR cutL ll k)[k] = ll[k] := by have := mix_get (g := cutL) h; rw [List.getElem?_eq_getElem hm] at this; exact Option.some.inj this
  have := flat_set lf_sz 0 (by omega) (.string (cutB 49 ll[k].p)) (cutL ll[k]) (mixR cutL ll k) k hm (by rw [hg]; rfl)
  rw [mix_set h] at this
  exact this
theorem mixC_one {ee : List Ch} {k : Nat} (h : k < ee.length) : ((mixR cutC ee k).flatMap Ch.cells).set (k * 3) (.string (cutB 49 ee[k].p)) = ((mixR cutC ee k).set k ⟨cutB 49 ee[k].p, ee[k].is, ee[k].t⟩).flatMap Ch.cells := by
  have hm : k < (mixR cutC ee k).length := by rw [mix_len]; exact h
  have hg : (mixR cutC ee k)[k] = ee[k] := by have := mix_get (g := cutC) h; rw [List.getElem?_eq_getElem hm] at this; exact Option.some.inj this
  exact flat_set ch_sz 0 (by omega) (.string (cutB 49 ee[k].p)) ⟨cutB 49 ee[k].p, ee[k].is, ee[k].t⟩ (mixR cutC ee k) k hm (by rw [hg]; rfl)
theorem mixC_two {ee : List Ch} {k : Nat} (h : k < ee.length) : (((mixR cutC ee k).set k ⟨cutB 49 ee[k].p, ee[k].is, ee[k].t⟩).flatMap Ch.cells).set (k * 3 + 2) (.string (cutB 257 ee[k].t)) = (mixR cutC ee (k + 1)).flatMap Ch.cells := by
  have hm : k < ((mixR cutC ee k).set k ⟨cutB 49 ee[k].p, ee[k].is, ee[k].t⟩).length := by rw [List.length_set, mix_len]; exact h
  have := flat_set ch_sz 2 (by omega) (.string (cutB 257 ee[k].t)) (cutC ee[k]) ((mixR cutC ee k).set k ⟨cutB 49 ee[k].p, ee[k].is, ee[k].t⟩) k hm (by rw [List.getElem_set_self]; rfl)
  rw [List.set_set, mix_set h] at this
  exact this
theorem row_at {α : Type} {f : α → List Value} {k : Nat} (hs : ∀ x, (f x).length = k) (hk : 0 < k) {W : World} {base n c g : Nat} {e : TypeId} {l : List α} (h : W.ownsRow base e k (.slice (some ⟨g, 0, none⟩) n c) n (l.flatMap f)) {i : Nat} {y : α} (hi : i < n) (hy : l[i]? = some y) : W.rangeAt g (i * k) (f y) := by
  have hq := own_sq h hs hk
  obtain ⟨b, o, e1, _, hr⟩ := hq.at_ hi
  injection e1 with e1
  injection e1 with e1 e2
  subst e1 e2
  have hl : i < l.length := by rw [hq.len]; exact hi
  rw [List.getElem?_eq_getElem hl] at hy
  injection hy with hy
  rw [Nat.zero_add, hy] at hr
  exact hr
theorem of_text (o : Of) (s : ByteArray) : ({ o with text := s } : Of).cells = o.cells.set 1 (.string s) := rfl
theorem of_lv (o : Of) (v : Value) : ({ o with lv := v } : Of).cells = o.cells.set 2 v := rfl
end Go.Proofs.YtnkhoghdfncgpaaGreatDoor
namespace Go.Proofs.YtnkhoghdfncgpaaGreatDoor
set_option linter.unusedVariables false
set_option linter.unusedSimpArgs false
open Go.RowKit Go.WideShapes Go.ChangeShapes Go.Deep Go.Shelf
attribute [local irreducible] wpQuiet

theorem Sq.cut {α : Type} {f : α → List Value} {k : Nat} {w : World} {B n c m : Nat} {A : Option Addr} {l : List α} (h : Sq f k w B A n c l) (hm : m ≤ n) : Sq f k w B A m c (l.take m) :=
  ⟨by rw [List.length_take, h.len]; omega, Nat.le_trans hm h.cap, h.max, h.non, h.sz, fun h0 => by
    obtain ⟨b, o, e, hlt, hr⟩ := h.pos (by omega)
    refine ⟨b, o, e, hlt, fun j u hu => hr j u ?_⟩
    have e2 : l.flatMap f = (l.take m).flatMap f ++ (l.drop m).flatMap f := by rw [← List.flatMap_append, List.take_append_drop]
    rw [e2, List.getElem?_append_left (List.getElem?_eq_some_iff.1 hu).1]
    exact hu⟩
/-- What is so throughout: the object, what is to be told, its rows of one's own. -/
structure Lo (w : World) (X base : Nat) (o z : Of) (ls : List Lf) (L : Sl) (ps : List Idv) (P : Sl) (es : List Ch) (E : Sl) (W : World) : Prop where
  b : Below w.heap.size w W
  t : Lies W X 73 o.cells
  y : Lies W (X + 1) 73 z.cells
  l : W.ownsRow base 74 33 (.slice L.a L.n L.c) L.n (ls.flatMap Lf.cells)
  p : W.ownsRow base 26 32 (.slice P.a P.n P.c) P.n (ps.flatMap Idv.cells)
  e : W.ownsRow base 77 3 (.slice E.a E.n E.c) E.n (es.flatMap Ch.cells)
  xb : X + 1 < base
  wx : w.heap.size = X
section
variable {w : World} {X base : Nat} {o z : Of} {ls ls' : List Lf} {L : Sl} {ps : List Idv} {P : Sl} {es es' : List Ch} {E : Sl} {W : World}
theorem Lo.drew (h : Lo w X base o z ls L ps P es E W) : Lo w X base o z ls L ps P es E W.drew := ⟨h.b.trans (Below.refl _ _).drew, h.t.below (Below.refl _ _).drew h.t.lt, h.y.below (Below.refl _ _).drew h.y.lt, h.l, h.p, h.e, h.xb, h.wx⟩
theorem Lo.setL (h : Lo w X base o z ls L ps P es E W) {g : Nat} (hL : L.a = some ⟨g, 0, none⟩) (j : Nat) (u : Value) (hu : (ls.flatMap Lf.cells).set j u = ls'.flatMap Lf.cells) : Lo w X base o z ls' L ps P es E (W.setCell ⟨g, j, none⟩ u) := by
  have h1 := h.l
  rw [hL] at h1
  obtain ⟨h2, h3⟩ := h1.stored j u
  have hg : base ≤ g := (h1.lt g rfl).1
  have hx := h.xb
  have hw := h.wx
  rw [hu, ← hL] at h2
  exact ⟨h.b.setCell (p := ⟨g, j, none⟩) (by show w.heap.size ≤ g; omega) u, h.t.far (p := ⟨g, j, none⟩) (by show X ≠ g; omega) u, h.y.far (p := ⟨g, j, none⟩) (by show X + 1 ≠ g; omega) u, h2, own_two h.p h1 (by decide) h3, own_two h.e h1 (by decide) h3, hx, hw⟩
theorem Lo.setE (h : Lo w X base o z ls L ps P es E W) {g : Nat} (hE : E.a = some ⟨g, 0, none⟩) (j : Nat) (u : Value) (hu : (es.flatMap Ch.cells).set j u = es'.flatMap Ch.cells) : Lo w X base o z ls L ps P es' E (W.setCell ⟨g, j, none⟩ u) := by
  have h1 := h.e
  rw [hE] at h1
  obtain ⟨h2, h3⟩ := h1.stored j u
  have hg : base ≤ g := (h1.lt g rfl).1
  have hx := h.xb
  have hw := h.wx
  rw [hu, ← hE] at h2
  exact ⟨h.b.setCell (p := ⟨g, j, none⟩) (by show w.heap.size ≤ g; omega) u, h.t.far (p := ⟨g, j, none⟩) (by show X ≠ g; omega) u, h.y.far (p := ⟨g, j, none⟩) (by show X + 1 ≠ g; omega) u, own_two h.l h1 (by decide) h3, own_two h.p h1 (by decide) h3, h2, hx, hw⟩
end

set_option maxRecDepth 100000 in
set_option maxHeartbeats 8000000 in
theorem short_any {w : World} {x : Ov} {L P E : Sl} (h : Obj3 w w.heap.size x L P E) :
    Calls Tryz.prog 7 #[ofV (x.at_ L P E)] w fun e w' => (∃ L' P' E', e = .returned (ofV ((shortO x).at_ L' P' E')) ∧ Obj3 w' w'.heap.size (shortO x) L' P' E' ∧ OwnO w' w.heap.size (shortO x) L' P' E' ∧ L'.n ≤ 33 ∧ P'.n ≤ 4 ∧ E'.n ≤ 33) ∧ Below w.heap.size w w' := by
  obtain ⟨AL, nL, cL⟩ := L
  obtain ⟨AP, nP, cP⟩ := P
  obtain ⟨AE, nE, cE⟩ := E
  have HH := Lib.hid h
  have hnL := h.l.cap
  have hnP := h.p.cap
  have hnE := h.e.cap
  have hlL := h.l.max
  have hlP := h.p.max
  have hlE := h.e.max
  dsimp only at hnL hnP hnE hlL hlP hlE
  have hL0 : (0 : Int) ≤ (nL : Int) := Int.natCast_nonneg _
  have hP0 : (0 : Int) ≤ (nP : Int) := Int.natCast_nonneg _
  have hE0 : (0 : Int) ≤ (nE : Int) := Int.natCast_nonneg _
  obtain ⟨xo, hxo⟩ : ∃ o, x.at_ ⟨AL, nL, cL⟩ ⟨AP, nP, cP⟩ ⟨AE, nE, cE⟩ = o := ⟨_, rfl⟩
  obtain ⟨zz, hzz⟩ : ∃ z, zOf = z := ⟨_, rfl⟩
  have ZO : Hid (∀ w : World, (zeroValue 33).run Tryz.prog w = .ok (.agg zz.cells.toArray) w) := Lib.hid (by rw [← hzz]; exact zero_of)
  obtain ⟨w0, hw0⟩ : ∃ w0, ((w.alloc (.cells xo.cells.toArray 33)).alloc (.cells zz.cells.toArray 33)) = w0 := ⟨_, rfl⟩
  have B0 : Hid (Below w.heap.size w w0 ∧ w0.heap.size = w.heap.size + 1 + 1) := Lib.hid (by rw [← hw0]; exact ⟨((Below.refl _ _).alloc (Nat.le_refl _) _).alloc (by simp) _, by simp⟩)
  have X0 : Hid (Lies w0 w.heap.size 73 xo.cells) := Lib.hid (by
    rw [← hw0]
    have := (Lies.new w xo.cells 33).alloc (.cells zz.cells.toArray 33)
    rwa [of_sz] at this)
  have X1 : Hid (Lies w0 (w.heap.size + 1) 73 zz.cells) := Lib.hid (by
    rw [← hw0]
    have := Lies.new (w.alloc (.cells xo.cells.toArray 33)) zz.cells 33
    rwa [World.size_alloc, of_sz] at this)
  have HW := Lib.hid hw0
  have HXO := Lib.hid hxo
  rw [hxo]
  clear hw0 hzz
  go_enter Tryz.func7, Tryz.ntmps7
  go_upto_region 1 with (first
    | ((with_reducible refine alt 33 ?_ ?_ zz.cells ZO.out ?_); rfl; rfl; (try simp only [World.size_alloc, Act.put, List.setIfInBounds_toArray, List.set_cons_succ, List.set_cons_zero]))
    | fail)
  rw [HW.out]
  clear HW
  obtain ⟨X, hX⟩ : ∃ X, w.heap.size = X := ⟨_, rfl⟩
  obtain ⟨wd, hwd⟩ : ∃ wd, w0.drew = wd := ⟨_, rfl⟩
  have BD : Hid (Below w.heap.size w wd ∧ wd.heap.size = w.heap.size + 1 + 1) := Lib.hid (by rw [← hwd]; exact ⟨B0.out.1.trans ((Below.refl _ _).drew), B0.out.2⟩)
  have T0 : Hid (Lies wd X 73 xo.cells) := Lib.hid (by rw [← hwd, ← hX]; exact X0.out.below ((Below.refl _ _).drew) X0.out.lt)
  have Y0 : Hid (Lies wd (X + 1) 73 zz.cells) := Lib.hid (by rw [← hwd, ← hX]; exact X1.out.below ((Below.refl _ _).drew) X1.out.lt)
  have e1 : wd.cell? ⟨X, 1, none⟩ = some (.string x.text) := by have := (of_lies T0.out).2.1; rw [← hxo] at this; exact this
  have e72 : wd.cell? ⟨X, 72, none⟩ = some (.string x.note) := by have := (of_lies T0.out).2.2.2.2.2.2.2.2.2.2; rw [← hxo] at this; exact this
  clear X0 X1 B0
  rw [hX]
  refine wp_region_br [false, true, false, true, false, false, false, false, true, false, true, false, false, false] 14 (fun w' => w'.cell? ⟨X, 1, none⟩ = some (.string x.text) ∧ w'.cell? ⟨X, 72, none⟩ = some (.string x.note)) (by kernel_rfl) (by kernel_rfl) (by rw [hwd]; exact ⟨e1, e72⟩) ?_
  rw [hwd]
  simp only [List.take_succ_cons, List.take_zero, List.drop_succ_cons, List.drop_zero]
  refine ⟨_, .inl ⟨rfl, fun w' hw' => (by clear hw'; go_simp; rfl)⟩, ?_⟩
  (try simp only [Act.put, List.setIfInBounds_toArray, List.set_cons_succ, List.set_cons_zero])
  refine ⟨_, .inl ⟨rfl, fun w' hw' => (by obtain ⟨q0, q1⟩ := hw'; go_simp; rfl)⟩, ?_⟩
  (try simp only [Act.put, List.setIfInBounds_toArray, List.set_cons_succ, List.set_cons_zero])
  refine ⟨_, .inl ⟨rfl, fun w' hw' => (by clear hw'; go_simp; rfl)⟩, ?_⟩
  (try simp only [Act.put, List.setIfInBounds_toArray, List.set_cons_succ, List.set_cons_zero])
  refine ⟨_, .inl ⟨rfl, fun w' hw' => (by obtain ⟨q0, q1⟩ := hw'; go_simp; rfl)⟩, ?_⟩
  (try simp only [Act.put, List.setIfInBounds_toArray, List.set_cons_succ, List.set_cons_zero])
  refine ⟨_, .inl ⟨rfl, fun w' hw' => (by clear hw'; go_simp; rfl)⟩, ?_⟩
  (try simp only [Act.put, List.setIfInBounds_toArray, List.set_cons_succ, List.set_cons_zero])
  refine ⟨_, .inl ⟨rfl, fun w' hw' => (by clear hw'; go_simp; rfl)⟩, ?_⟩
  (try simp only [Act.put, List.setIfInBounds_toArray, List.set_cons_succ, List.set_cons_zero])
  refine ⟨_, .inl ⟨rfl, fun w' hw' => (by clear hw'; go_simp; rw [if_pos ⟨by omega, by omega⟩])⟩, ?_⟩
  (try simp only [Act.put, List.setIfInBounds_toArray, List.set_cons_succ, List.set_cons_zero])
  refine ⟨_, .inl ⟨rfl, fun w' hw' => (by clear hw'; go_simp; rfl)⟩, ?_⟩
  (try simp only [Act.put, List.setIfInBounds_toArray, List.set_cons_succ, List.set_cons_zero])
  refine ⟨_, .inl ⟨rfl, fun w' hw' => (by obtain ⟨q0, q1⟩ := hw'; go_simp; rfl)⟩, ?_⟩
  (try simp only [Act.put, List.setIfInBounds_toArray, List.set_cons_succ, List.set_cons_zero])
  refine ⟨_, .inl ⟨rfl, fun w' hw' => (by clear hw'; go_simp; rfl)⟩, ?_⟩
  (try simp only [Act.put, List.setIfInBounds_toArray, List.set_cons_succ, List.set_cons_zero])
  refine ⟨_, .inl ⟨rfl, fun w' hw' => (by obtain ⟨q0, q1⟩ := hw'; go_simp; rfl)⟩, ?_⟩
  (try simp only [Act.put, List.setIfInBounds_toArray, List.set_cons_succ, List.set_cons_zero])
  refine ⟨_, .inl ⟨rfl, fun w' hw' => (by clear hw'; go_simp; rfl)⟩, ?_⟩
  (try simp only [Act.put, List.setIfInBounds_toArray, List.set_cons_succ, List.set_cons_zero])
  refine ⟨_, .inl ⟨rfl, fun w' hw' => (by clear hw'; go_simp; rfl)⟩, ?_⟩
  (try simp only [Act.put, List.setIfInBounds_toArray, List.set_cons_succ, List.set_cons_zero])
  refine ⟨_, .inl ⟨rfl, fun w' hw' => (by clear hw'; go_simp; rw [if_pos ⟨by omega, by omega⟩])⟩, ?_⟩
  (try simp only [Act.put, List.setIfInBounds_toArray, List.set_cons_succ, List.set_cons_zero])
  rw [wpHd_nil]
  have c1 := (of_lies T0.out).2.1
  have f1 := T0.out.frozen (j := 1) (by omega)
  obtain ⟨o1, ho1⟩ : ∃ o, ({ xo with text := cutB 257 x.text } : Of) = o := ⟨_, rfl⟩
  have T1 : Hid (Lies (wd.setCell ⟨X, 1, none⟩ (.string (cutB 257 x.text))) X 73 o1.cells) := Lib.hid (by rw [← ho1]; exact T0.out.set1 1 _)
  have c72 := (of_lies T1.out).2.2.2.2.2.2.2.2.2.2
  have f72 := T1.out.frozen (j := 72) (by omega)
  obtain ⟨o72, ho72⟩ : ∃ o, ({ o1 with note := cutB 201 x.note } : Of) = o := ⟨_, rfl⟩
  have T72 : Hid (Lies ((wd.setCell ⟨X, 1, none⟩ (.string (cutB 257 x.text))).setCell ⟨X, 72, none⟩ (.string (cutB 201 x.note))) X 73 o72.cells) := Lib.hid (by rw [← ho72, of_note]; exact T1.out.set1 72 _)
  have Y1 : Hid (Lies ((wd.setCell ⟨X, 1, none⟩ (.string (cutB 257 x.text))).setCell ⟨X, 72, none⟩ (.string (cutB 201 x.note))) (X + 1) 73 zz.cells) := Lib.hid (((Y0.out.far (by show X + 1 ≠ X; omega) _).far (by show X + 1 ≠ X; omega) _))
  have B1 : Hid (Below w.heap.size w ((wd.setCell ⟨X, 1, none⟩ (.string (cutB 257 x.text))).setCell ⟨X, 72, none⟩ (.string (cutB 201 x.note))) ∧ (((wd.setCell ⟨X, 1, none⟩ (.string (cutB 257 x.text))).setCell ⟨X, 72, none⟩ (.string (cutB 201 x.note)))).heap.size = w.heap.size + 1 + 1) := Lib.hid ⟨((BD.out.1.setCell (p := ⟨X, 1, none⟩) (by show w.heap.size ≤ X; omega) _).setCell (p := ⟨X, 72, none⟩) (by show w.heap.size ≤ X; omega) _), by simp only [World.size_setCell]; exact BD.out.2⟩
  obtain ⟨w1, hw1⟩ : ∃ wy, ((wd.setCell ⟨X, 1, none⟩ (.string (cutB 257 x.text))).setCell ⟨X, 72, none⟩ (.string (cutB 201 x.note))) = wy := ⟨_, rfl⟩
  rw [hw1] at T72 Y1 B1
  have HW1 := Lib.hid hw1
  clear hw1
  have HT1 : (x.text.extract 0 (min (x.text.size : Int) 257).toNat) = cutB 257 x.text := rfl
  have HN1 : (x.note.extract 0 (min (x.note.size : Int) 201).toNat) = cutB 201 x.note := rfl
  rw [HT1, HN1]
  clear HT1 HN1
  go_wp2_with fail
  refine NoPanic.normal ?_
  rw [HW1.out]
  go_upto_region 2 with fail
  (try simp only [List.append])
  clear c1 c72 f1 f72 T0 T1 Y0 BD HW1 e1 e72 hwd
  have HO72 : Hid ({ xo with text := cutB 257 x.text, note := cutB 201 x.note } = o72) := Lib.hid (by rw [← ho72, ← ho1])
  clear ho1 ho72
  obtain ⟨wd, hwd⟩ : ∃ wd, w1.drew = wd := ⟨_, rfl⟩
  have BD : Hid (Below w.heap.size w wd ∧ wd.heap.size = w.heap.size + 1 + 1) := Lib.hid (by rw [← hwd]; exact ⟨B1.out.1.trans ((Below.refl _ _).drew), B1.out.2⟩)
  have T0 : Hid (Lies wd X 73 o72.cells) := Lib.hid (by rw [← hwd]; exact T72.out.below ((Below.refl _ _).drew) T72.out.lt)
  have Y0 : Hid (Lies wd (X + 1) 73 zz.cells) := Lib.hid (by rw [← hwd]; exact Y1.out.below ((Below.refl _ _).drew) Y1.out.lt)
  have e2 : wd.cell? ⟨X, 2, none⟩ = some (.slice AL nL cL) := by have := (of_lies T0.out).2.2.1; rw [← HO72.out, ← hxo] at this; exact this
  have e68 : wd.cell? ⟨X, 68, none⟩ = some (.slice AP nP cP) := by have := (of_lies T0.out).2.2.2.2.2.2.1; rw [← HO72.out, ← hxo] at this; exact this
  have e69 : wd.cell? ⟨X, 69, none⟩ = some (.slice AE nE cE) := by have := (of_lies T0.out).2.2.2.2.2.2.2.1; rw [← HO72.out, ← hxo] at this; exact this
  refine wp_region_br [false, true, false, true, false, false, false, false, true, false, true, false, false, false, false, false, true, false, false, true, false, false, false] 23 (fun w' => w'.cell? ⟨X, 2, none⟩ = some (.slice AL nL cL) ∧ w'.cell? ⟨X, 68, none⟩ = some (.slice AP nP cP) ∧ w'.cell? ⟨X, 69, none⟩ = some (.slice AE nE cE)) (by kernel_rfl) (by kernel_rfl) (by rw [hwd]; exact ⟨e2, e68, e69⟩) ?_
  rw [hwd]
  simp only [List.take_succ_cons, List.take_zero, List.drop_succ_cons, List.drop_zero]
  refine ⟨_, .inl ⟨rfl, fun w' hw' => (by clear hw'; go_simp; rfl)⟩, ?_⟩
  (try simp only [Act.put, List.setIfInBounds_toArray, List.set_cons_succ, List.set_cons_zero])
  refine ⟨_, .inl ⟨rfl, fun w' hw' => (by obtain ⟨q0, q1, q2⟩ := hw'; go_simp; rfl)⟩, ?_⟩
  (try simp only [Act.put, List.setIfInBounds_toArray, List.set_cons_succ, List.set_cons_zero])
  refine ⟨_, .inl ⟨rfl, fun w' hw' => (by clear hw'; go_simp; rfl)⟩, ?_⟩
  (try simp only [Act.put, List.setIfInBounds_toArray, List.set_cons_succ, List.set_cons_zero])
  refine ⟨_, .inl ⟨rfl, fun w' hw' => (by obtain ⟨q0, q1, q2⟩ := hw'; go_simp; rfl)⟩, ?_⟩
  (try simp only [Act.put, List.setIfInBounds_toArray, List.set_cons_succ, List.set_cons_zero])
  refine ⟨_, .inl ⟨rfl, fun w' hw' => (by clear hw'; go_simp; rfl)⟩, ?_⟩
  (try simp only [Act.put, List.setIfInBounds_toArray, List.set_cons_succ, List.set_cons_zero])
  refine ⟨_, .inl ⟨rfl, fun w' hw' => (by clear hw'; go_simp; rfl)⟩, ?_⟩
  (try simp only [Act.put, List.setIfInBounds_toArray, List.set_cons_succ, List.set_cons_zero])
  refine ⟨_, .inl ⟨rfl, fun w' hw' => (by clear hw'; go_simp; rw [if_pos ⟨by omega, by omega⟩])⟩, ?_⟩
  (try simp only [Act.put, List.setIfInBounds_toArray, List.set_cons_succ, List.set_cons_zero])
  refine ⟨_, .inl ⟨rfl, fun w' hw' => (by clear hw'; go_simp; rfl)⟩, ?_⟩
  (try simp only [Act.put, List.setIfInBounds_toArray, List.set_cons_succ, List.set_cons_zero])
  refine ⟨_, .inl ⟨rfl, fun w' hw' => (by obtain ⟨q0, q1, q2⟩ := hw'; go_simp; rfl)⟩, ?_⟩
  (try simp only [Act.put, List.setIfInBounds_toArray, List.set_cons_succ, List.set_cons_zero])
  refine ⟨_, .inl ⟨rfl, fun w' hw' => (by clear hw'; go_simp; rfl)⟩, ?_⟩
  (try simp only [Act.put, List.setIfInBounds_toArray, List.set_cons_succ, List.set_cons_zero])
  refine ⟨_, .inl ⟨rfl, fun w' hw' => (by obtain ⟨q0, q1, q2⟩ := hw'; go_simp; rfl)⟩, ?_⟩
  (try simp only [Act.put, List.setIfInBounds_toArray, List.set_cons_succ, List.set_cons_zero])
  refine ⟨_, .inl ⟨rfl, fun w' hw' => (by clear hw'; go_simp; rfl)⟩, ?_⟩
  (try simp only [Act.put, List.setIfInBounds_toArray, List.set_cons_succ, List.set_cons_zero])
  refine ⟨_, .inl ⟨rfl, fun w' hw' => (by clear hw'; go_simp; rfl)⟩, ?_⟩
  (try simp only [Act.put, List.setIfInBounds_toArray, List.set_cons_succ, List.set_cons_zero])
  refine ⟨_, .inl ⟨rfl, fun w' hw' => (by clear hw'; go_simp; rw [if_pos ⟨by omega, by omega⟩])⟩, ?_⟩
  (try simp only [Act.put, List.setIfInBounds_toArray, List.set_cons_succ, List.set_cons_zero])
  refine ⟨_, .inl ⟨rfl, fun w' hw' => (by clear hw'; go_simp; rfl)⟩, ?_⟩
  (try simp only [Act.put, List.setIfInBounds_toArray, List.set_cons_succ, List.set_cons_zero])
  refine ⟨_, .inl ⟨rfl, fun w' hw' => (by clear hw'; go_simp; rfl)⟩, ?_⟩
  (try simp only [Act.put, List.setIfInBounds_toArray, List.set_cons_succ, List.set_cons_zero])
  refine ⟨_, .inl ⟨rfl, fun w' hw' => (by obtain ⟨q0, q1, q2⟩ := hw'; go_simp; rfl)⟩, ?_⟩
  (try simp only [Act.put, List.setIfInBounds_toArray, List.set_cons_succ, List.set_cons_zero])
  refine ⟨_, .inl ⟨rfl, fun w' hw' => (by clear hw'; go_simp; rfl)⟩, ?_⟩
  (try simp only [Act.put, List.setIfInBounds_toArray, List.set_cons_succ, List.set_cons_zero])
  refine ⟨_, .inl ⟨rfl, fun w' hw' => (by clear hw'; go_simp; rfl)⟩, ?_⟩
  (try simp only [Act.put, List.setIfInBounds_toArray, List.set_cons_succ, List.set_cons_zero])
  refine ⟨_, .inl ⟨rfl, fun w' hw' => (by obtain ⟨q0, q1, q2⟩ := hw'; go_simp; rfl)⟩, ?_⟩
  (try simp only [Act.put, List.setIfInBounds_toArray, List.set_cons_succ, List.set_cons_zero])
  refine ⟨_, .inl ⟨rfl, fun w' hw' => (by clear hw'; go_simp; rfl)⟩, ?_⟩
  (try simp only [Act.put, List.setIfInBounds_toArray, List.set_cons_succ, List.set_cons_zero])
  refine ⟨_, .inl ⟨rfl, fun w' hw' => (by clear hw'; go_simp; rfl)⟩, ?_⟩
  (try simp only [Act.put, List.setIfInBounds_toArray, List.set_cons_succ, List.set_cons_zero])
  refine ⟨_, .inl ⟨rfl, fun w' hw' => (by clear hw'; go_simp; rw [if_pos ⟨by omega, by omega⟩])⟩, ?_⟩
  (try simp only [Act.put, List.setIfInBounds_toArray, List.set_cons_succ, List.set_cons_zero])
  rw [wpHd_nil]
  obtain ⟨mL, hmL⟩ : ∃ m, (min (nL : Int) 33).toNat = m := ⟨_, rfl⟩
  rw [hmL]
  have HML : Hid (mL ≤ 33 ∧ mL ≤ nL) := Lib.hid ⟨by omega, by omega⟩
  obtain ⟨mP, hmP⟩ : ∃ m, (min (nP : Int) 4).toNat = m := ⟨_, rfl⟩
  rw [hmP]
  have HMP : Hid (mP ≤ 4 ∧ mP ≤ nP) := Lib.hid ⟨by omega, by omega⟩
  obtain ⟨mE, hmE⟩ : ∃ m, (min (nE : Int) 33).toNat = m := ⟨_, rfl⟩
  rw [hmE]
  have HME : Hid (mE ≤ 33 ∧ mE ≤ nE) := Lib.hid ⟨by omega, by omega⟩
  have HSL : Hid (SqL w w.heap.size AL mL cL (x.lv.take 33)) := Lib.hid (by have h9 := HH.out.l.cut HML.out.2; have h8 := HH.out.l.len; dsimp only at h8; rwa [show x.lv.take mL = x.lv.take 33 from by by_cases h7 : nL ≤ 33; (· rw [List.take_of_length_le (by omega), List.take_of_length_le (by omega)]); (· rw [show mL = 33 by omega])] at h9)
  have HSP : Hid (SqI w w.heap.size AP mP cP (x.ps.take 4)) := Lib.hid (by have h9 := HH.out.p.cut HMP.out.2; have h8 := HH.out.p.len; dsimp only at h8; rwa [show x.ps.take mP = x.ps.take 4 from by by_cases h7 : nP ≤ 4; (· rw [List.take_of_length_le (by omega), List.take_of_length_le (by omega)]); (· rw [show mP = 4 by omega])] at h9)
  have HSE : Hid (SqC w w.heap.size AE mE cE (x.es.take 33)) := Lib.hid (by have h9 := HH.out.e.cut HME.out.2; have h8 := HH.out.e.len; dsimp only at h8; rwa [show x.es.take mE = x.es.take 33 from by by_cases h7 : nE ≤ 33; (· rw [List.take_of_length_le (by omega), List.take_of_length_le (by omega)]); (· rw [show mE = 33 by omega])] at h9)
  have HOB : Hid (Obj3 w w.heap.size (preO x) ⟨AL, mL, cL⟩ ⟨AP, mP, cP⟩ ⟨AE, mE, cE⟩) := Lib.hid ⟨HSL.out, HSP.out, HSE.out, HH.out.kb, HH.out.sb, HH.out.nb, HH.out.ab⟩
  clear hmL hmP hmE HSL HSP HSE
  have c2 := (of_lies T0.out).2.2.1
  have f2 := T0.out.frozen (j := 2) (by omega)
  obtain ⟨o2, ho2⟩ : ∃ o, ({ o72 with lv := .slice AL mL cL } : Of) = o := ⟨_, rfl⟩
  have T2 : Hid (Lies (wd.setCell ⟨X, 2, none⟩ (.slice AL mL cL)) X 73 o2.cells) := Lib.hid (by rw [← ho2]; exact T0.out.set1 2 _)
  have c68 := (of_lies T2.out).2.2.2.2.2.2.1
  have f68 := T2.out.frozen (j := 68) (by omega)
  obtain ⟨o68, ho68⟩ : ∃ o, ({ o2 with pv := .slice AP mP cP } : Of) = o := ⟨_, rfl⟩
  have T68 : Hid (Lies ((wd.setCell ⟨X, 2, none⟩ (.slice AL mL cL)).setCell ⟨X, 68, none⟩ (.slice AP mP cP)) X 73 o68.cells) := Lib.hid (by rw [← ho68, of_pv]; exact T2.out.set1 68 _)
  have c69 := (of_lies T68.out).2.2.2.2.2.2.2.1
  have f69 := T68.out.frozen (j := 69) (by omega)
  obtain ⟨o69, ho69⟩ : ∃ o, ({ o68 with ev := .slice AE mE cE } : Of) = o := ⟨_, rfl⟩
  have T69 : Hid (Lies (((wd.setCell ⟨X, 2, none⟩ (.slice AL mL cL)).setCell ⟨X, 68, none⟩ (.slice AP mP cP)).setCell ⟨X, 69, none⟩ (.slice AE mE cE)) X 73 o69.cells) := Lib.hid (by rw [← ho69, of_ev]; exact T68.out.set1 69 _)
  have Y2 : Hid (Lies (((wd.setCell ⟨X, 2, none⟩ (.slice AL mL cL)).setCell ⟨X, 68, none⟩ (.slice AP mP cP)).setCell ⟨X, 69, none⟩ (.slice AE mE cE)) (X + 1) 73 zz.cells) := Lib.hid ((((Y0.out.far (by show X + 1 ≠ X; omega) _).far (by show X + 1 ≠ X; omega) _).far (by show X + 1 ≠ X; omega) _))
  have B2 : Hid (Below w.heap.size w (((wd.setCell ⟨X, 2, none⟩ (.slice AL mL cL)).setCell ⟨X, 68, none⟩ (.slice AP mP cP)).setCell ⟨X, 69, none⟩ (.slice AE mE cE)) ∧ ((((wd.setCell ⟨X, 2, none⟩ (.slice AL mL cL)).setCell ⟨X, 68, none⟩ (.slice AP mP cP)).setCell ⟨X, 69, none⟩ (.slice AE mE cE))).heap.size = w.heap.size + 1 + 1) := Lib.hid ⟨(((BD.out.1.setCell (p := ⟨X, 2, none⟩) (by show w.heap.size ≤ X; omega) _).setCell (p := ⟨X, 68, none⟩) (by show w.heap.size ≤ X; omega) _).setCell (p := ⟨X, 69, none⟩) (by show w.heap.size ≤ X; omega) _), by simp only [World.size_setCell]; exact BD.out.2⟩
  obtain ⟨w2, hw2⟩ : ∃ wy, (((wd.setCell ⟨X, 2, none⟩ (.slice AL mL cL)).setCell ⟨X, 68, none⟩ (.slice AP mP cP)).setCell ⟨X, 69, none⟩ (.slice AE mE cE)) = wy := ⟨_, rfl⟩
  rw [hw2] at T69 Y2 B2
  have HW2 := Lib.hid hw2
  clear hw2
  have HO69 : Hid ((preO x).at_ ⟨AL, mL, cL⟩ ⟨AP, mP, cP⟩ ⟨AE, mE, cE⟩ = o69) := Lib.hid (by rw [← ho69, ← ho68, ← ho2, ← HO72.out, ← hxo]; rfl)
  clear ho2 ho68 ho69
  go_wp2_with fail
  refine NoPanic.normal ?_
  rw [HW2.out]
  clear c2 c68 c69 f2 f68 f69 T0 T2 T68 Y0 BD HW2 e2 e68 e69 hwd HO72 T72 Y1 B1
  have RG := Lib.hid T69.out.rg
  have HOC := Lib.hid ((HOB.out.below B2.out.1).more B2.out.1.size)
  go_wp2_with (first
    | ((with_reducible refine ldo (.tmp 1) ?_ ?_ X 0 o69 ?_ RG.out ?_); rfl; rfl; rfl)
    | fail)
  rw [← HO69.out]
  refine (Copy_any HOC.out (by have := HML.out; show mL ≤ _; omega) (by have := HMP.out; show mP ≤ _; omega) (by have := HME.out; show mE ≤ _; omega)).mono ?_
  rintro e w3 ⟨⟨⟨D1, n1, d1⟩, ⟨D2, n2, d2⟩, ⟨D3, n3, d3⟩, rfl, ⟨ho1, ho2, ho3⟩, en1, en2, en3⟩, hb3⟩
  dsimp only at ho1 ho2 ho3 en1 en2 en3 ⊢
  rw [HO69.out]
  obtain ⟨oc, hoc⟩ : ∃ o, (preO x).at_ ⟨D1, n1, d1⟩ ⟨D2, n2, d2⟩ ⟨D3, n3, d3⟩ = o := ⟨_, rfl⟩
  rw [hoc]
  obtain ⟨w4, hw4⟩ : ∃ w4, w3.setCells X 0 oc.cells = w4 := ⟨_, rfl⟩
  have TX := Lib.hid (T69.out.below hb3 T69.out.lt).th
  have LO : Hid (Lo w X w2.heap.size oc zz (x.lv.take 33) ⟨D1, n1, d1⟩ (x.ps.take 4) ⟨D2, n2, d2⟩ (x.es.take 33) ⟨D3, n3, d3⟩ w4) := Lib.hid (by
    have hz := B2.out.2
    rw [← hw4]
    refine ⟨below_setCells (B2.out.1.trans (hb3.mono B2.out.1.size)) (by omega) _ _, (T69.out.below hb3 T69.out.lt).set_ (of_sz _), (Y2.out.below hb3 Y2.out.lt).kp ((setCells_os _ _ 0 w3).2.2.2.2 _ (by omega)) (by rw [(setCells_os _ _ 0 w3).2.2.2.1]; exact Nat.le_refl _), ?_, ?_, ?_, by omega, hX⟩
    · exact own_keep ho1 fun g hg => (setCells_os _ _ 0 w3).2.2.2.2 g (by have := (ho1.lt g hg).1; omega)
    · exact own_keep ho2 fun g hg => (setCells_os _ _ 0 w3).2.2.2.2 g (by have := (ho2.lt g hg).1; omega)
    · exact own_keep ho3 fun g hg => (setCells_os _ _ 0 w3).2.2.2.2 g (by have := (ho3.lt g hg).1; omega))
  have OO : Hid (oc.lv.oneCell' = true ∧ oc.pv.oneCell' = true ∧ oc.ev.oneCell' = true) := Lib.hid (by rw [← hoc]; exact ⟨rfl, rfl, rfl⟩)
  have HOC2 := Lib.hid hoc
  have HW4 := Lib.hid hw4
  have EN : Hid (n1 ≤ 33 ∧ n2 ≤ 4 ∧ n3 ≤ 33) := Lib.hid ⟨by have := HML.out; omega, by have := HMP.out; omega, by have := HME.out; omega⟩
  clear hw4 hoc ho1 ho2 ho3 en1 en2 en3 hb3 RG Y2 T69 HOC B2
  go_upto_region 4 with (first
    | ((with_reducible refine sto (.tmp 1) (.tmp 51) ?_ ?_ X 0 oc ?_ ?_ TX.out OO.out.1 OO.out.2.1 OO.out.2.2 ?_); rfl; rfl; rfl; rfl; rw [HW4.out])
    | fail)
  obtain ⟨ll, hll⟩ : ∃ l, x.lv.take 33 = l := ⟨_, rfl⟩
  obtain ⟨ee, hee⟩ : ∃ l, x.es.take 33 = l := ⟨_, rfl⟩
  rw [hll, hee] at LO
  have HLL := Lib.hid hll
  have HEE := Lib.hid hee
  clear hll hee
  have LN : Hid (ll.length = n1 ∧ ee.length = n3) := Lib.hid ⟨(own_sq LO.out.l lf_sz (by omega)).len, (own_sq LO.out.e ch_sz (by omega)).len⟩
  have HQ : Hid (∀ (l : List Lf) (e : List Ch) (W : World), Lo w X w2.heap.size oc zz (l) ⟨D1, n1, d1⟩ (x.ps.take 4) ⟨D2, n2, d2⟩ (e) ⟨D3, n3, d3⟩ W → W.cell? ⟨X, 2, none⟩ = some (.slice D1 n1 d1) ∧ W.cell? ⟨X, 69, none⟩ = some (.slice D3 n3 d3)) := Lib.hid fun l e W hW => by
    have h9 := of_lies hW.t
    rw [← HOC2.out] at h9
    exact ⟨h9.2.2.1, h9.2.2.2.2.2.2.2.1⟩
  have q2 := (HQ.out _ _ _ LO.out).1
  have hn1z : (0 : Int) ≤ (n1 : Int) := Int.natCast_nonneg _
  have hn3z : (0 : Int) ≤ (n3 : Int) := Int.natCast_nonneg _
  have hb1 : n1 ≤ 33 := EN.out.1
  have hb3 : n3 ≤ 33 := EN.out.2.2
  go_wp2_with fail
  go_loopw [55] (fun i wr => ∃ k : Nat, k ≤ n1 ∧ i = .int .i64 (k : Int) ∧ Hid (Lo w X w2.heap.size oc zz (mixR cutL ll k) ⟨D1, n1, d1⟩ (x.ps.take 4) ⟨D2, n2, d2⟩ (ee) ⟨D3, n3, d3⟩ wr)) (fun i _ => n1 - (intOf i).toNat)
  case atStart => exact ⟨0, Nat.zero_le _, rfl, Lib.hid (by rw [mix_zero]; exact LO.out)⟩
  case round =>
    obtain ⟨k, hk, rfl, hlo⟩ := hrel
    clear q2
    by_cases hlt : k < n1
    · have hd : decide ((k : Int) < (n1 : Int)) = true := by simp; omega
      have hk0 : (0 : Int) ≤ (k : Int) := Int.natCast_nonneg _
      have hk1 : (k : Int) < (n1 : Int) := by omega
      obtain ⟨g, cg, hgv, hgb, hgl⟩ := hlo.out.l.form (by show 0 < n1; omega)
      obtain rfl : D1 = some ⟨g, 0, none⟩ := by injection hgv
      clear hgv
      have q2 := (HQ.out _ _ _ hlo.out).1
      go_upto_region 8 with fail
      have hkl : k < ll.length := by rw [LN.out.1]; exact hlt
      obtain ⟨r, hr⟩ : ∃ r, ll[k] = r := ⟨_, rfl⟩
      obtain ⟨wd, hwd⟩ : ∃ wd, wr.drew = wd := ⟨_, rfl⟩
      have LD : Hid (Lo w X w2.heap.size oc zz (mixR cutL ll k) ⟨some ⟨g, 0, none⟩, n1, d1⟩ (x.ps.take 4) ⟨D2, n2, d2⟩ (ee) ⟨D3, n3, d3⟩ wd) := Lib.hid (by rw [← hwd]; exact hlo.out.drew)
      have rr : wd.rangeAt g (k * 33) (Lf.cells r) := row_at lf_sz (by omega) LD.out.l hlt (by rw [mix_get hkl, hr])
      have e0 : wd.cell? ⟨g, k * 33, none⟩ = some (.string r.p) := rr 0 _ rfl
      have f0 : wd.frozen? ⟨g, k * 33, none⟩ = false := LD.out.l.frozenAt (k * 33)
      clear rr q2
      refine wp_region_br [false, false, false, false, true, false, false, false, true, false, false, false] 12 (fun w' => w'.cell? ⟨g, k * 33, none⟩ = some (.string r.p)) (by kernel_rfl) (by kernel_rfl) (by rw [hwd]; exact e0) ?_
      rw [hwd]
      simp only [List.take_succ_cons, List.take_zero, List.drop_succ_cons, List.drop_zero]
      refine ⟨_, .inl ⟨rfl, fun w' hw' => (by clear hw'; go_simp; rfl)⟩, ?_⟩
      (try simp only [Act.put, List.setIfInBounds_toArray, List.set_cons_succ, List.set_cons_zero])
      refine ⟨_, .inl ⟨rfl, fun w' hw' => (by clear hw'; go_simp; rfl)⟩, ?_⟩
      (try simp only [Act.put, List.setIfInBounds_toArray, List.set_cons_succ, List.set_cons_zero])
      refine ⟨_, .inl ⟨rfl, fun w' hw' => (by clear hw'; go_simp; rfl)⟩, ?_⟩
      (try simp only [Act.put, List.setIfInBounds_toArray, List.set_cons_succ, List.set_cons_zero])
      refine ⟨_, .inl ⟨rfl, fun w' hw' => (by clear hw'; go_simp; rfl)⟩, ?_⟩
      (try simp only [Act.put, List.setIfInBounds_toArray, List.set_cons_succ, List.set_cons_zero])
      refine ⟨_, .inl ⟨rfl, fun w' hw' => (by have q0 : w'.cell? ⟨g, k * 33, none⟩ = some (.string r.p) := hw'; go_simp; rfl)⟩, ?_⟩
      (try simp only [Act.put, List.setIfInBounds_toArray, List.set_cons_succ, List.set_cons_zero])
      refine ⟨_, .inl ⟨rfl, fun w' hw' => (by clear hw'; go_simp; rfl)⟩, ?_⟩
      (try simp only [Act.put, List.setIfInBounds_toArray, List.set_cons_succ, List.set_cons_zero])
      refine ⟨_, .inl ⟨rfl, fun w' hw' => (by clear hw'; go_simp; rfl)⟩, ?_⟩
      (try simp only [Act.put, List.setIfInBounds_toArray, List.set_cons_succ, List.set_cons_zero])
      refine ⟨_, .inl ⟨rfl, fun w' hw' => (by clear hw'; go_simp; rfl)⟩, ?_⟩
      (try simp only [Act.put, List.setIfInBounds_toArray, List.set_cons_succ, List.set_cons_zero])
      refine ⟨_, .inl ⟨rfl, fun w' hw' => (by have q0 : w'.cell? ⟨g, k * 33, none⟩ = some (.string r.p) := hw'; go_simp; rfl)⟩, ?_⟩
      (try simp only [Act.put, List.setIfInBounds_toArray, List.set_cons_succ, List.set_cons_zero])
      refine ⟨_, .inl ⟨rfl, fun w' hw' => (by clear hw'; go_simp; rfl)⟩, ?_⟩
      (try simp only [Act.put, List.setIfInBounds_toArray, List.set_cons_succ, List.set_cons_zero])
      refine ⟨_, .inl ⟨rfl, fun w' hw' => (by clear hw'; go_simp; rfl)⟩, ?_⟩
      (try simp only [Act.put, List.setIfInBounds_toArray, List.set_cons_succ, List.set_cons_zero])
      refine ⟨_, .inl ⟨rfl, fun w' hw' => (by clear hw'; go_simp; rw [if_pos ⟨by omega, by omega⟩])⟩, ?_⟩
      (try simp only [Act.put, List.setIfInBounds_toArray, List.set_cons_succ, List.set_cons_zero])
      rw [wpHd_nil]
      have HT1 : (r.p.extract 0 (min (r.p.size : Int) 49).toNat) = cutB 49 r.p := rfl
      rw [HT1]
      clear HT1
      have LS : Hid (Lo w X w2.heap.size oc zz (mixR cutL ll (k + 1)) ⟨some ⟨g, 0, none⟩, n1, d1⟩ (x.ps.take 4) ⟨D2, n2, d2⟩ (ee) ⟨D3, n3, d3⟩ (wd.setCell ⟨g, k * 33, none⟩ (.string (cutB 49 r.p)))) := Lib.hid (LD.out.setL rfl (k * 33) (.string (cutB 49 r.p)) (by rw [← hr]; exact mixL_set hkl))
      go_wp2_with fail
      refine NoPanic.normal ?_
      go_wp2_with fail
      go_roundw
      case rel => exact ⟨k + 1, by omega, by go_num, LS⟩
      case measure => simp [intOf]; omega
    · have hd : decide ((k : Int) < (n1 : Int)) = false := by simp; omega
      obtain rfl : k = n1 := by omega
      rw [mix_end (by rw [LN.out.1]; exact Nat.le_refl _)] at hlo
      obtain ⟨lm, hlm⟩ : ∃ l, ll.map cutL = l := ⟨_, rfl⟩
      rw [hlm] at hlo
      have HLM := Lib.hid hlm
      clear hlm
      have q69 := (HQ.out _ _ _ hlo.out).2
      go_wp2_with fail
      obtain ⟨wo, hwo⟩ : ∃ wo : World, wo = wr := ⟨_, rfl⟩
      have LW : Hid (Lo w X w2.heap.size oc zz (lm) ⟨D1, k, d1⟩ (x.ps.take 4) ⟨D2, n2, d2⟩ (ee) ⟨D3, n3, d3⟩ wo) := Lib.hid (by rw [hwo]; exact hlo.out)
      rw [← hwo]
      clear hwo hlo q69
      go_loopw [81] (fun i wr => ∃ j : Nat, j ≤ n3 ∧ i = .int .i64 (j : Int) ∧ Hid (Lo w X w2.heap.size oc zz (lm) ⟨D1, k, d1⟩ (x.ps.take 4) ⟨D2, n2, d2⟩ (mixR cutC ee j) ⟨D3, n3, d3⟩ wr)) (fun i _ => n3 - (intOf i).toNat)
      case atStart => exact ⟨0, Nat.zero_le _, rfl, Lib.hid (by rw [mix_zero]; exact LW.out)⟩
      case round =>
        obtain ⟨j, hj, rfl, hlo⟩ := hrel
        by_cases hlt : j < n3
        · have hd : decide ((j : Int) < (n3 : Int)) = true := by simp; omega
          have hj0 : (0 : Int) ≤ (j : Int) := Int.natCast_nonneg _
          have hj1 : (j : Int) < (n3 : Int) := by omega
          obtain ⟨g, cg, hgv, hgb, hgl⟩ := hlo.out.e.form (by show 0 < n3; omega)
          obtain rfl : D3 = some ⟨g, 0, none⟩ := by injection hgv
          clear hgv
          have q69 := (HQ.out _ _ _ hlo.out).2
          go_upto_region 14 with fail
          have hkl : j < ee.length := by rw [LN.out.2]; exact hlt
          obtain ⟨r, hr⟩ : ∃ r, ee[j] = r := ⟨_, rfl⟩
          obtain ⟨wd, hwd⟩ : ∃ wd, wr.drew = wd := ⟨_, rfl⟩
          have LD : Hid (Lo w X w2.heap.size oc zz (lm) ⟨D1, k, d1⟩ (x.ps.take 4) ⟨D2, n2, d2⟩ (mixR cutC ee j) ⟨some ⟨g, 0, none⟩, n3, d3⟩ wd) := Lib.hid (by rw [← hwd]; exact hlo.out.drew)
          have rr : wd.rangeAt g (j * 3) (Ch.cells r) := row_at ch_sz (by omega) LD.out.e hlt (by rw [mix_get hkl, hr])
          have e0 : wd.cell? ⟨g, j * 3, none⟩ = some (.string r.p) := rr 0 _ rfl
          have e2 : wd.cell? ⟨g, j * 3 + 2, none⟩ = some (.string r.t) := rr 2 _ rfl
          have f0 : wd.frozen? ⟨g, j * 3, none⟩ = false := LD.out.e.frozenAt (j * 3)
          clear rr q69
          refine wp_region_br [false, false, false, false, false, true, false, false, false, true, false, false, false, false, false, false, true, false, false, false, true, false, false, false] 24 (fun w' => w'.cell? ⟨g, j * 3, none⟩ = some (.string r.p) ∧ w'.cell? ⟨g, j * 3 + 2, none⟩ = some (.string r.t)) (by kernel_rfl) (by kernel_rfl) (by rw [hwd]; exact ⟨e0, e2⟩) ?_
          rw [hwd]
          simp only [List.take_succ_cons, List.take_zero, List.drop_succ_cons, List.drop_zero]
          refine ⟨_, .inl ⟨rfl, fun w' hw' => (by clear hw'; go_simp; rfl)⟩, ?_⟩
          (try simp only [Act.put, List.setIfInBounds_toArray, List.set_cons_succ, List.set_cons_zero])
          refine ⟨_, .inl ⟨rfl, fun w' hw' => (by clear hw'; go_simp; rfl)⟩, ?_⟩
          (try simp only [Act.put, List.setIfInBounds_toArray, List.set_cons_succ, List.set_cons_zero])
          refine ⟨_, .inl ⟨rfl, fun w' hw' => (by clear hw'; go_simp; rfl)⟩, ?_⟩
          (try simp only [Act.put, List.setIfInBounds_toArray, List.set_cons_succ, List.set_cons_zero])
          refine ⟨_, .inl ⟨rfl, fun w' hw' => (by clear hw'; go_simp; rfl)⟩, ?_⟩
          (try simp only [Act.put, List.setIfInBounds_toArray, List.set_cons_succ, List.set_cons_zero])
          refine ⟨_, .inl ⟨rfl, fun w' hw' => (by clear hw'; go_simp; rfl)⟩, ?_⟩
          (try simp only [Act.put, List.setIfInBounds_toArray, List.set_cons_succ, List.set_cons_zero])
          refine ⟨_, .inl ⟨rfl, fun w' hw' => (by obtain ⟨q0, q1⟩ := hw'; go_simp; rfl)⟩, ?_⟩
          (try simp only [Act.put, List.setIfInBounds_toArray, List.set_cons_succ, List.set_cons_zero])
          refine ⟨_, .inl ⟨rfl, fun w' hw' => (by clear hw'; go_simp; rfl)⟩, ?_⟩
          (try simp only [Act.put, List.setIfInBounds_toArray, List.set_cons_succ, List.set_cons_zero])
          refine ⟨_, .inl ⟨rfl, fun w' hw' => (by clear hw'; go_simp; rfl)⟩, ?_⟩
          (try simp only [Act.put, List.setIfInBounds_toArray, List.set_cons_succ, List.set_cons_zero])
          refine ⟨_, .inl ⟨rfl, fun w' hw' => (by clear hw'; go_simp; rfl)⟩, ?_⟩
          (try simp only [Act.put, List.setIfInBounds_toArray, List.set_cons_succ, List.set_cons_zero])
          refine ⟨_, .inl ⟨rfl, fun w' hw' => (by obtain ⟨q0, q1⟩ := hw'; go_simp; rfl)⟩, ?_⟩
          (try simp only [Act.put, List.setIfInBounds_toArray, List.set_cons_succ, List.set_cons_zero])
          refine ⟨_, .inl ⟨rfl, fun w' hw' => (by clear hw'; go_simp; rfl)⟩, ?_⟩
          (try simp only [Act.put, List.setIfInBounds_toArray, List.set_cons_succ, List.set_cons_zero])
          refine ⟨_, .inl ⟨rfl, fun w' hw' => (by clear hw'; go_simp; rfl)⟩, ?_⟩
          (try simp only [Act.put, List.setIfInBounds_toArray, List.set_cons_succ, List.set_cons_zero])
          refine ⟨_, .inl ⟨rfl, fun w' hw' => (by clear hw'; go_simp; rw [if_pos ⟨by omega, by omega⟩])⟩, ?_⟩
          (try simp only [Act.put, List.setIfInBounds_toArray, List.set_cons_succ, List.set_cons_zero])
          refine ⟨_, .inl ⟨rfl, fun w' hw' => (by clear hw'; go_simp; rfl)⟩, ?_⟩
          (try simp only [Act.put, List.setIfInBounds_toArray, List.set_cons_succ, List.set_cons_zero])
          refine ⟨_, .inl ⟨rfl, fun w' hw' => (by clear hw'; go_simp; rfl)⟩, ?_⟩
          (try simp only [Act.put, List.setIfInBounds_toArray, List.set_cons_succ, List.set_cons_zero])
          refine ⟨_, .inl ⟨rfl, fun w' hw' => (by clear hw'; go_simp; rfl)⟩, ?_⟩
          (try simp only [Act.put, List.setIfInBounds_toArray, List.set_cons_succ, List.set_cons_zero])
          refine ⟨_, .inl ⟨rfl, fun w' hw' => (by obtain ⟨q0, q1⟩ := hw'; go_simp; rfl)⟩, ?_⟩
          (try simp only [Act.put, List.setIfInBounds_toArray, List.set_cons_succ, List.set_cons_zero])
          refine ⟨_, .inl ⟨rfl, fun w' hw' => (by clear hw'; go_simp; rfl)⟩, ?_⟩
          (try simp only [Act.put, List.setIfInBounds_toArray, List.set_cons_succ, List.set_cons_zero])
          refine ⟨_, .inl ⟨rfl, fun w' hw' => (by clear hw'; go_simp; rfl)⟩, ?_⟩
          (try simp only [Act.put, List.setIfInBounds_toArray, List.set_cons_succ, List.set_cons_zero])
          refine ⟨_, .inl ⟨rfl, fun w' hw' => (by clear hw'; go_simp; rfl)⟩, ?_⟩
          (try simp only [Act.put, List.setIfInBounds_toArray, List.set_cons_succ, List.set_cons_zero])
          refine ⟨_, .inl ⟨rfl, fun w' hw' => (by obtain ⟨q0, q1⟩ := hw'; go_simp; rfl)⟩, ?_⟩
          (try simp only [Act.put, List.setIfInBounds_toArray, List.set_cons_succ, List.set_cons_zero])
          refine ⟨_, .inl ⟨rfl, fun w' hw' => (by clear hw'; go_simp; rfl)⟩, ?_⟩
          (try simp only [Act.put, List.setIfInBounds_toArray, List.set_cons_succ, List.set_cons_zero])
          refine ⟨_, .inl ⟨rfl, fun w' hw' => (by clear hw'; go_simp; rfl)⟩, ?_⟩
          (try simp only [Act.put, List.setIfInBounds_toArray, List.set_cons_succ, List.set_cons_zero])
          refine ⟨_, .inl ⟨rfl, fun w' hw' => (by clear hw'; go_simp; rw [if_pos ⟨by omega, by omega⟩])⟩, ?_⟩
          (try simp only [Act.put, List.setIfInBounds_toArray, List.set_cons_succ, List.set_cons_zero])
          rw [wpHd_nil]
          have HT1 : (r.p.extract 0 (min (r.p.size : Int) 49).toNat) = cutB 49 r.p := rfl
          have HT2 : (r.t.extract 0 (min (r.t.size : Int) 257).toNat) = cutB 257 r.t := rfl
          rw [HT1, HT2]
          clear HT1 HT2
          have LS1 : Hid (Lo w X w2.heap.size oc zz (lm) ⟨D1, k, d1⟩ (x.ps.take 4) ⟨D2, n2, d2⟩ ((mixR cutC ee j).set j ⟨cutB 49 ee[j].p, ee[j].is, ee[j].t⟩) ⟨some ⟨g, 0, none⟩, n3, d3⟩ (wd.setCell ⟨g, j * 3, none⟩ (.string (cutB 49 r.p)))) := Lib.hid (LD.out.setE rfl (j * 3) (.string (cutB 49 r.p)) (by rw [← hr]; exact mixC_one hkl))
          have c2 : (wd.setCell ⟨g, j * 3, none⟩ (.string (cutB 49 r.p))).cell? ⟨g, j * 3 + 2, none⟩ = some (.string r.t) := by
            have h9 := row_at ch_sz (by omega) LS1.out.e hlt (y := ⟨cutB 49 ee[j].p, ee[j].is, ee[j].t⟩) (by rw [List.getElem?_set_self (by rw [mix_len]; exact hkl)]) 2 _ rfl
            rw [hr] at h9
            exact h9
          have f2 : (wd.setCell ⟨g, j * 3, none⟩ (.string (cutB 49 r.p))).frozen? ⟨g, j * 3 + 2, none⟩ = false := LS1.out.e.frozenAt (j * 3 + 2)
          have LS : Hid (Lo w X w2.heap.size oc zz (lm) ⟨D1, k, d1⟩ (x.ps.take 4) ⟨D2, n2, d2⟩ (mixR cutC ee (j + 1)) ⟨some ⟨g, 0, none⟩, n3, d3⟩ ((wd.setCell ⟨g, j * 3, none⟩ (.string (cutB 49 r.p))).setCell ⟨g, j * 3 + 2, none⟩ (.string (cutB 257 r.t)))) := Lib.hid (LS1.out.setE rfl (j * 3 + 2) (.string (cutB 257 r.t)) (by rw [← hr]; exact mixC_two hkl))
          go_wp2_with fail
          refine NoPanic.normal ?_
          go_wp2_with fail
          go_roundw
          case rel => exact ⟨j + 1, by omega, by go_num, LS⟩
          case measure => simp [intOf]; omega
        · have hd : decide ((j : Int) < (n3 : Int)) = false := by simp; omega
          obtain rfl : j = n3 := by omega
          rw [mix_end (by rw [LN.out.2]; exact Nat.le_refl _)] at hlo
          obtain ⟨wo2, hwo2⟩ : ∃ wo2, wr.setCells (X + 1) 0 oc.cells = wo2 := ⟨_, rfl⟩
          have RG := Lib.hid hlo.out.t.rg
          have TY := Lib.hid hlo.out.y.th
          have NZ : Hid (wo2.rangeAt (X + 1) 0 oc.cells) := Lib.hid (by rw [← hwo2]; exact (hlo.out.y.set_ (of_sz _)).rg)
          have BB : Hid (Below w.heap.size w wo2) := Lib.hid (by rw [← hwo2]; exact below_setCells hlo.out.b (by have := hlo.out.wx; omega) _ _)
          have Rl : Hid (wo2.ownsRow w2.heap.size 74 33 (.slice D1 k d1) k ((lm).flatMap Lf.cells)) := Lib.hid (by rw [← hwo2]; exact own_keep hlo.out.l fun g hg => (setCells_os _ _ 0 wr).2.2.2.2 g (by have := (hlo.out.l.lt g hg).1; have := hlo.out.xb; omega))
          have Rp : Hid (wo2.ownsRow w2.heap.size 26 32 (.slice D2 n2 d2) n2 ((x.ps.take 4).flatMap Idv.cells)) := Lib.hid (by rw [← hwo2]; exact own_keep hlo.out.p fun g hg => (setCells_os _ _ 0 wr).2.2.2.2 g (by have := (hlo.out.p.lt g hg).1; have := hlo.out.xb; omega))
          have Re : Hid (wo2.ownsRow w2.heap.size 77 3 (.slice D3 j d3) j ((ee.map cutC).flatMap Ch.cells)) := Lib.hid (by rw [← hwo2]; exact own_keep hlo.out.e fun g hg => (setCells_os _ _ 0 wr).2.2.2.2 g (by have := (hlo.out.e.lt g hg).1; have := hlo.out.xb; omega))
          have WB : Hid (w.heap.size ≤ w2.heap.size) := Lib.hid (by have h8 := hlo.out.xb; have h9 := hlo.out.wx; omega)
          have HWO := Lib.hid hwo2
          clear hwo2 hlo
          go_wp2_with (first
            | ((with_reducible refine ldo (.tmp 1) ?_ ?_ X 0 oc ?_ RG.out ?_); rfl; rfl; rfl)
            | ((with_reducible refine sto (.tmp 2) (.tmp 118) ?_ ?_ (X + 1) 0 oc ?_ ?_ TY.out OO.out.1 OO.out.2.1 OO.out.2.2 ?_); rfl; rfl; rfl; rfl; rw [HWO.out])
            | fail)
          refine bodyPost_ret (res_ob1 rfl _ _ (X + 1) oc rfl NZ.out) rfl ⟨⟨⟨D1, k, d1⟩, ⟨D2, n2, d2⟩, ⟨D3, j, d3⟩, by rw [← HOC2.out]; rfl, ⟨?_, ?_, ?_, HH.out.kb, HH.out.sb, HH.out.nb, HH.out.ab⟩, ⟨?_, ?_, ?_⟩, EN.out⟩, BB.out⟩
          · have h9 := own_sq Rl.out lf_sz (by omega)
            rw [← HLM.out, ← HLL.out] at h9
            exact h9
          · exact own_sq Rp.out id_sz (by omega)
          · have h9 := own_sq Re.out ch_sz (by omega)
            rw [← HEE.out] at h9
            exact h9
          · have h9 := own_base Rl.out WB.out
            rw [← HLM.out, ← HLL.out] at h9
            exact h9
          · exact own_base Rp.out WB.out
          · have h9 := own_base Re.out WB.out
            rw [← HEE.out] at h9
            exact h9
end Go.Proofs.YtnkhoghdfncgpaaGreatDoor
