/-
  OBJECTS: parts, gathered.
-/
import Derived.Test.YtcofkhmgmemkmaaGreatDoorK25
import Derived.Maps.AppendAt
namespace Go.Proofs.YtcofkhmgmemkmaaGreatDoor
set_option linter.unusedVariables false
set_option linter.unusedSimpArgs false
open Go.RowKit Go.WideShapes Go.ChangeShapes Go.Deep Go.Shelf
attribute [local irreducible] wpQuiet

theorem parts_any {w : World} {A : Option Addr} {m c : Nat} :
    Calls Tryz.prog 26 #[.agg #[.slice A m c]] w fun e w' => e = .returned (.func (.func 53) #[] #[.pointer (some ⟨w.heap.size, 0, none⟩)]) ∧ Boxed w' w.heap.size 51 (.slice A m c) ∧ Below w.heap.size w w' := by
  obtain ⟨w1, hw1⟩ : ∃ w1, w.alloc (.cells #[.slice A m c] 51) = w1 := ⟨_, rfl⟩
  have B1 : Hid (Below w.heap.size w w1) := Lib.hid (by rw [← hw1]; exact (Below.refl _ _).alloc (Nat.le_refl _) _)
  have X1 : Hid (Boxed w1 w.heap.size 51 (.slice A m c)) := Lib.hid (by rw [← hw1]; exact Boxed.new w _ _)
  have HW1 := Lib.hid hw1
  clear hw1
  go_enter Tryz.func26, Tryz.ntmps26
  go_wp2_with fail
  rw [HW1.out]
  go_ret
  exact ⟨rfl, X1.out, B1.out⟩

/-- Which of them are made, and whether two differ that have one Id. -/
def fndE (l : List El) (x : El) : Option El := l.find? fun h => (idW h.1).b == (idW x.1).b
noncomputable def gAdd (s : List El × Bool) (x : El) : List El × Bool := match fndE s.1 x with
  | none => (s.1 ++ [x], s.2)
  | some y => if sameO y.1 x.1 then s else (s.1, true)
noncomputable def gE (pre : List El) : List El × Bool := pre.foldl gAdd ([], false)
theorem gE_snoc (pre : List El) (x : El) : gE (pre ++ [x]) = gAdd (gE pre) x := by
  unfold gE
  rw [List.foldl_append]
  rfl
theorem gAdd_sub (s : List El × Bool) (x : El) : ∀ y ∈ (gAdd s x).1, y ∈ s.1 ∨ y = x := fun y hy => by
  unfold gAdd at hy
  split at hy
  · rcases List.mem_append.1 hy with h | h
    · exact .inl h
    · exact .inr (by simpa using h)
  · split at hy
    · exact .inl hy
    · exact .inl hy
theorem gF_sub : ∀ (pre : List El) (s : List El × Bool), ∀ y ∈ (pre.foldl gAdd s).1, y ∈ s.1 ∨ y ∈ pre
  | [], s, y, hy => .inl hy
  | x :: r, s, y, hy => by
    rcases gF_sub r (gAdd s x) y hy with h | h
    · rcases gAdd_sub s x y h with h | rfl
      · exact .inl h
      · exact .inr (by simp)
    · exact .inr (List.mem_cons_of_mem _ h)
theorem gE_sub (pre : List El) : ∀ y ∈ (gE pre).1, y ∈ pre := fun y hy => (gF_sub pre ([], false) y hy).elim (fun h => by cases h) id
theorem gAdd_len (s : List El × Bool) (x : El) : (gAdd s x).1.length ≤ s.1.length + 1 := by
  unfold gAdd
  split
  · simp
  · split <;> simp
theorem gF_len : ∀ (pre : List El) (s : List El × Bool), (pre.foldl gAdd s).1.length ≤ s.1.length + pre.length
  | [], s => by simp
  | x :: r, s => by
    have h1 := gF_len r (gAdd s x)
    have h2 := gAdd_len s x
    simp only [List.foldl_cons, List.length_cons]
    omega
theorem gE_len (pre : List El) : (gE pre).1.length ≤ pre.length := by
  have := gF_len pre ([], false)
  simpa [gE] using this
theorem find_hd (l : List El) (x : El) : findH (l.map El.hd) (idW x.1) = (fndE l x).map El.hd := by
  unfold findH fndE
  rw [List.find?_map]
  rfl
/-- Blocks of cells that no iterator turns are kept. -/
def Kn (A B : World) : Prop := ∀ (k : Nat) (cs : Array Value) (t : TypeId) (f : Nat × Nat), tT t = false → A.heap[k]? = some (.cells cs t f) → B.heap[k]? = some (.cells cs t f)
theorem Kn.tr {n0 : Nat} {A B : World} (h : Tr tT n0 A B) : Kn A B := fun k cs t f ht hk => h.kp k _ hk fun cs' t' f' e => by injection e with _ e _; subst e; exact ht
theorem Kn.below {A B : World} (h : Below A.heap.size A B) : Kn A B := fun k cs t f _ hk => (h.block k (Array.getElem?_eq_some_iff.1 hk).1).trans hk
theorem Kn.grown {A B : World} {row : Option Nat} (hg : A.grownBy B row) (hr : ∀ r, row = some r → ∃ o : Obj, A.heap[r]? = some o ∧ o.isCells = false) : ∀ (k : Nat) (cs : Array Value) (t : TypeId) (f : Nat × Nat), A.heap[k]? = some (.cells cs t f) → B.heap[k]? = some (.cells cs t f) := fun k cs t f hk => (hg.block k (Array.getElem?_eq_some_iff.1 hk).1 fun e => by
  obtain ⟨o, ho, hc⟩ := hr k e.symm
  rw [hk] at ho
  cases ho
  cases hc).trans hk
theorem cell_kc {A B : World} (h : ∀ (k : Nat) (cs : Array Value) (t : TypeId) (f : Nat × Nat), A.heap[k]? = some (.cells cs t f) → B.heap[k]? = some (.cells cs t f)) {p : Addr} {v : Value} (hp : A.cell? p = some v) : B.cell? p = some v := by
  unfold World.cell? at hp ⊢
  cases hq : A.heap[p.block]? with
  | none => rw [hq] at hp; simp at hp
  | some o =>
    cases o with
    | cells cs t f => rw [h _ _ _ _ hq]; rw [hq] at hp; exact hp
    | _ => rw [hq] at hp; simp at hp
theorem sq_kc {α : Type} {f : α → List Value} {k : Nat} {W W' : World} {B B' n c : Nat} {A : Option Addr} {l : List α} (h : Sq f k W B A n c l) (hB : B ≤ B') (hk : ∀ (k : Nat) (cs : Array Value) (t : TypeId) (f : Nat × Nat), W.heap[k]? = some (.cells cs t f) → W'.heap[k]? = some (.cells cs t f)) : Sq f k W' B' A n c l :=
  ⟨h.len, h.cap, h.max, h.non, h.sz, fun h0 => by
    obtain ⟨b, o, e, hb, hr⟩ := h.pos h0
    exact ⟨b, o, e, by omega, fun i v hv => cell_kc hk (hr i v hv)⟩⟩
theorem sq_nil {α : Type} {f : α → List Value} {k : Nat} {W W' : World} {B B' n c : Nat} {A : Option Addr} (h : Sq f k W B A n c ([] : List α)) : Sq f k W' B' A n c ([] : List α) :=
  ⟨h.len, h.cap, h.max, h.non, h.sz, fun h0 => absurd h0 (by have := h.len; simp at this; omega)⟩
/-- One element as it lies. -/
structure ElIn (W : World) (x : El) : Prop where
  o : Obj3 W W.heap.size x.1 x.2 nSl nSl
  n : x.2.n ≤ 100
  ps : x.1.ps = []
  es : x.1.es = []
  ty : Ty W x
theorem ElIn.lf {W W' : World} {x : El} (h : ElIn W x) (hs : W.heap.size ≤ W'.heap.size) (hk : ∀ (k : Nat) (cs : Array Value) (f : Nat × Nat), W.heap[k]? = some (.cells cs 68 f) → W'.heap[k]? = some (.cells cs 68 f)) : ElIn W' x := by
  obtain ⟨h1, h2, h3, h4, h5⟩ := h
  refine ⟨⟨?_, ?_, ?_, h1.kb, h1.sb, h1.nb, h1.ab⟩, h2, h3, h4, fun ad e => ?_⟩
  · have hl := h1.l
    refine ⟨hl.len, hl.cap, hl.max, hl.non, hl.sz, fun h0 => ?_⟩
    obtain ⟨b, o, e, hb, hr⟩ := hl.pos h0
    obtain ⟨cs, f, hc⟩ := h5 _ e
    exact ⟨b, o, e, by omega, fun i v hv => (World.cell?_of_block (a := ⟨b, o + i, none⟩) ((hk _ _ _ hc).trans hc.symm)).trans (hr i v hv)⟩
  · have := h1.p; rw [h3] at this ⊢; exact sq_nil this
  · have := h1.e; rw [h4] at this ⊢; exact sq_nil this
  · obtain ⟨cs, f, hc⟩ := h5 ad e
    exact ⟨cs, f, hk _ _ _ hc⟩
theorem ElIn.below {W W' : World} {x : El} (h : ElIn W x) (hb : Below W.heap.size W W') : ElIn W' x := h.lf hb.size fun k cs f hk => (hb.block k (Array.getElem?_eq_some_iff.1 hk).1).trans hk
theorem ElIn.nil {W W' : World} {x : El} (h : ElIn W x) (hx : x.2 = nSl) : ElIn W' x := by
  obtain ⟨h1, h2, h3, h4, h5⟩ := h
  refine ⟨⟨?_, ?_, ?_, h1.kb, h1.sb, h1.nb, h1.ab⟩, h2, h3, h4, fun ad e => ?_⟩
  · have hl := h1.l
    have e : x.1.lv = [] := List.eq_nil_of_length_eq_zero (by rw [hl.len, hx])
    rw [e] at hl ⊢
    exact sq_nil hl
  · have := h1.p; rw [h3] at this ⊢; exact sq_nil this
  · have := h1.e; rw [h4] at this ⊢; exact sq_nil this
  · rw [hx] at e; cases e
/-- What holds between two rounds: n₀ is where the call began; M, R, E, T are the list, the two results and the mark of twins. -/
structure Gs (w V : World) (R E M T : Nat) (rs : List Rw) (pre : List El) (W : World) : Prop where
  bel : Below w.heap.size w W
  sz : V.heap.size ≤ W.heap.size
  ls : ∃ A c, Boxed W M 44 (.slice A (gE pre).1.length c) ∧ W.ownsRow w.heap.size 54 105 (.slice A (gE pre).1.length c) (gE pre).1.length (((gE pre).1.map El.hd).flatMap Hd.cells)
  r : Boxed W R 44 (.slice none 0 0)
  e : Boxed W E 35 (.int .i64 0)
  t : Boxed W T 4 (.bool (gE pre).2)
  ok : ∀ x ∈ pre, okW x.1 = true
  el : ∀ x ∈ (gE pre).1, ElIn W x
  nl : ∀ i y, pre[i]? = some y → i < rs.length → y.2 = nSl
section
variable {w V : World} {R E M T : Nat} {rs : List Rw} {pre : List El} {W W' : World}
theorem Gs.step (h : Gs w V R E M T rs pre W) (hk : Kn W W') (hb : Below w.heap.size W W') (he : ∀ x ∈ (gE pre).1, ElIn W' x) : Gs w V R E M T rs pre W' := by
  obtain ⟨A, c, h1, h2⟩ := h.ls
  refine ⟨h.bel.trans hb, Nat.le_trans h.sz hb.size, ⟨A, c, hk _ _ _ _ rfl h1, own_keep h2 fun g e => ?_⟩, hk _ _ _ _ rfl h.r, hk _ _ _ _ rfl h.e, hk _ _ _ _ rfl h.t, h.ok, he, h.nl⟩
  obtain ⟨_, _, cs, f, hc⟩ := own_ty h2 g e
  rw [hk _ _ _ _ rfl hc, hc]
theorem Gs.below (h : Gs w V R E M T rs pre W) (hb : Below W.heap.size W W') : Gs w V R E M T rs pre W' :=
  h.step (Kn.below hb) (hb.mono h.bel.size) fun x hx => (h.el x hx).below hb
theorem Gs.own (h : Gs w V R E M T rs pre W) (hwV : w.heap.size ≤ V.heap.size) {row : Option Nat} (hg : W.grownBy W' row) (hr : ∀ r, row = some r → V.heap.size ≤ r ∧ ∃ o : Obj, W.heap[r]? = some o ∧ o.isCells = false) : Gs w V R E M T rs pre W' := by
  have hk := Kn.grown hg fun r e => (hr r e).2
  refine h.step (fun k cs t f _ => hk k cs t f) ⟨hg.os, hg.tape, hg.output, hg.size, fun i hi => hg.block i (Nat.lt_of_lt_of_le hi h.bel.size) fun e => ?_⟩ fun x hx => (h.el x hx).lf hg.size fun k cs f h => hk k cs _ f h
  have := (hr i e.symm).1
  omega
theorem Gs.blob (h : Gs w V R E M T rs pre W) (hp : pre.length < rs.length + 1) : ∀ x ∈ pre, x.2 = nSl := fun x hx => by
  obtain ⟨i, hi, rfl⟩ := List.getElem_of_mem hx
  exact h.nl i _ (List.getElem?_eq_getElem hi) (by omega)
theorem Gs.turn (h : Gs w V R E M T rs pre W) (hp : pre.length < rs.length + 1) (ht : Tr tT w.heap.size W W') : Gs w V R E M T rs pre W' :=
  h.step (Kn.tr ht) ht.bel fun x hx => (h.el x hx).nil (h.blob hp x (gE_sub _ _ hx))
theorem Gs.fm (h : Gs w V R E M T rs pre W) : Fm M W := fun ad n c hc => by
  obtain ⟨A, c', h1, h2⟩ := h.ls
  rw [h1.cell] at hc
  injection hc with hc
  injection hc with e1 e2 e3
  subst e1
  rcases h2.2 with ⟨e, _⟩ | ⟨g, cap, cur, e, _, hb, _⟩
  · cases e
  · injection e with e4 _ _
    cases e4
    exact ⟨_, _, hb⟩
/-- What is the same of an element that comes. -/
theorem nl_snoc (h : Gs w V R E M T rs pre W) {x : El} (hx : pre.length < rs.length → x.2 = nSl) : ∀ i y, (pre ++ [x])[i]? = some y → i < rs.length → y.2 = nSl := fun i y hy hi => by
  rcases Nat.lt_trichotomy i pre.length with hl | hl | hl
  · rw [List.getElem?_append_left hl] at hy; exact h.nl i y hy hi
  · subst hl; simp at hy; subst hy; exact hx hi
  · rw [List.getElem?_eq_none (by simp <;> omega)] at hy; cases hy
theorem ok_snoc (h : Gs w V R E M T rs pre W) {x : El} (hx : okW x.1 = true) : ∀ y ∈ pre ++ [x], okW y.1 = true := fun y hy => by
  rcases List.mem_append.1 hy with hy | hy
  · exact h.ok y hy
  · obtain rfl : y = x := by simpa using hy
    exact hx
/-- Where an element comes that is there, or one that differs. -/
theorem Gs.more (h : Gs w V R E M T rs pre W) {x : El} (hok : okW x.1 = true) (hx : pre.length < rs.length → x.2 = nSl) (hf : gE (pre ++ [x]) = gE pre) : Gs w V R E M T rs (pre ++ [x]) W :=
  ⟨h.bel, h.sz, by rw [hf]; exact h.ls, h.r, h.e, by rw [hf]; exact h.t, ok_snoc h hok, by rw [hf]; exact h.el, nl_snoc h hx⟩
theorem Gs.twin (h : Gs w V R E M T rs pre W) {x : El} (hok : okW x.1 = true) (hx : pre.length < rs.length → x.2 = nSl) (hf : gE (pre ++ [x]) = ((gE pre).1, true)) (hT : w.heap.size ≤ T) (hV : T < V.heap.size) (hTM : T ≠ M) (hTR : T ≠ R) (hTE : T ≠ E) :
    Gs w V R E M T rs (pre ++ [x]) (W.setCell ⟨T, 0, none⟩ (.bool true)) ∧ KeepsFrom V.heap.size W (W.setCell ⟨T, 0, none⟩ (.bool true)) ∧ Kq w.heap.size V.heap.size M W (W.setCell ⟨T, 0, none⟩ (.bool true)) := by
  have hg := grownBy_setCell' W T (.bool true)
  obtain ⟨A, c, h1, h2⟩ := h.ls
  have hne : ∀ j, j ≠ T → (W.setCell ⟨T, 0, none⟩ (.bool true)).heap[j]? = W.heap[j]? := fun j hj => Below.heap_setCell W ⟨T, 0, none⟩ _ j (fun e => hj e)
  have hb : Below w.heap.size W (W.setCell ⟨T, 0, none⟩ (.bool true)) := below_cell hT h.bel.size
  refine ⟨⟨h.bel.trans hb, Nat.le_trans h.sz hb.size, ?_, h.r.kept hg (by simp <;> omega), h.e.kept hg (by simp <;> omega), ?_, ok_snoc h hok, ?_, nl_snoc h hx⟩, ((KeepsOthers.setCell _ _ _).from _), hb, ?_, ?_⟩
  · rw [hf]
    refine ⟨A, c, h1.kept hg (by simp <;> omega), own_keep h2 fun g e => hne g ?_⟩
    rintro rfl
    obtain ⟨_, _, cs, f, hc⟩ := own_ty h2 g e
    rw [show W.heap[g]? = _ from h.t] at hc
    injection hc with hc
    injection hc with _ h2
    exact absurd h2 (by decide)
  · rw [hf]; exact h.t.set _
  · rw [hf]
    refine fun y hy => (h.el y hy).lf hb.size fun k cs f hk => (hne k ?_).trans hk
    rintro rfl
    rw [show W.heap[k]? = _ from h.t] at hk
    injection hk with hk
    injection hk with _ h2
    exact absurd h2 (by decide)
  · intro k cs t f hv _ hk
    exact (hne k (by omega)).trans hk
  · intro k _ hn
    exact np_same hn (hne M (by omega))
/-- Where one comes that is new. -/
theorem Gs.app (h : Gs w V R E M T rs pre W) {x : El} (hok : okW x.1 = true) (hx : pre.length < rs.length → x.2 = nSl) (hel : ElIn W x) (hf : gE (pre ++ [x]) = ((gE pre).1 ++ [x], (gE pre).2)) (hM : w.heap.size ≤ M) (hV : M < V.heap.size) (hMR : R ≠ M) (hME : E ≠ M) (hMT : T ≠ M)
    {A : Option Addr} {c : Nat} (hm : Boxed W M 44 (.slice A (gE pre).1.length c)) (ho : W.ownsRow w.heap.size 54 105 (.slice A (gE pre).1.length c) (gE pre).1.length (((gE pre).1.map El.hd).flatMap Hd.cells))
    {tmp : Obj} {w1 : World} {v' : Value} (ho' : w1.ownsRow w.heap.size 54 105 v' ((gE pre).1.length + 1) (((gE pre).1.map El.hd).flatMap Hd.cells ++ (El.hd x).cells)) (hg : (W.alloc tmp).grownBy w1 (Value.slice A (gE pre).1.length c).ownBlock)
    (hat : v'.ownBlock = (Value.slice A (gE pre).1.length c).ownBlock ∨ v'.ownBlock = some (W.alloc tmp).heap.size) :
    Boxed w1 M 44 (.slice A (gE pre).1.length c) ∧ Gs w V R E M T rs (pre ++ [x]) (w1.setCell ⟨M, 0, none⟩ v') ∧ KeepsFrom V.heap.size W (w1.setCell ⟨M, 0, none⟩ v') ∧ Kq w.heap.size V.heap.size M W (w1.setCell ⟨M, 0, none⟩ v') := by
  obtain ⟨a1, a2, a3, a4, a5⟩ := Boxed.appended hm (by decide) ho h.bel.size hM ho' hg
  have hs := grownBy_setCell' w1 M v'
  have bx : ∀ {B : Nat} {t : TypeId} {u : Value}, Boxed W B t u → t ≠ 54 → B ≠ M → Boxed (w1.setCell ⟨M, 0, none⟩ v') B t u := fun hb ht hne => ((hb.alloc tmp).kept hg (hb.not_row ht ho)).kept hs (by simp <;> omega)
  have bk : ∀ (k : Nat) (cs : Array Value) (t : TypeId) (f : Nat × Nat), W.heap[k]? = some (.cells cs t f) → (Value.slice A (gE pre).1.length c).ownBlock ≠ some k → k ≠ M → (w1.setCell ⟨M, 0, none⟩ v').heap[k]? = some (.cells cs t f) := fun k cs t f hk hn hne => by
    have hl := (Array.getElem?_eq_some_iff.1 hk).1
    have e1 := Below.heap_alloc W tmp k hl
    have e2 := hg.block k (by simp <;> omega) (fun e => hn e.symm)
    have e3 : (w1.setCell ⟨M, 0, none⟩ v').heap[k]? = w1.heap[k]? := Below.heap_setCell w1 ⟨M, 0, none⟩ v' k (fun e => hne e)
    rw [e3, e2, e1, hk]
  have el : ∀ y, ElIn W y → ElIn (w1.setCell ⟨M, 0, none⟩ v') y := fun y hy => hy.lf a5.size fun k cs f hk => bk k cs _ f hk (fun e => by
    obtain ⟨_, _, cs', f', hc⟩ := own_ty ho k e
    rw [hk] at hc
    injection hc with hc
    injection hc with _ h2
    exact absurd h2 (by decide)) (fun e => by
    rw [e, show W.heap[M]? = _ from hm] at hk
    injection hk with hk
    injection hk with _ h2
    exact absurd h2 (by decide))
  obtain ⟨A', c', hv'⟩ := own_shape ho'
  subst hv'
  refine ⟨a1, ⟨h.bel.trans a5, Nat.le_trans h.sz a5.size, ?_, bx h.r (by decide) hMR, bx h.e (by decide) hME, by rw [hf]; exact bx h.t (by decide) hMT, ok_snoc h hok, ?_, nl_snoc h hx⟩, a4.from _, a5, ?_, ?_⟩
  · rw [hf]
    refine ⟨A', c', ?_, ?_⟩
    · simpa using a2
    · simpa using a3
  · rw [hf]
    intro y hy
    rcases List.mem_append.1 hy with hy | hy
    · exact el y (h.el y hy)
    · obtain rfl : y = x := by simpa using hy
      exact el y hel
  · intro k cs t f hv hn hk
    refine bk k cs t f hk (fun e => ?_) (by omega)
    rcases ho.2 with ⟨e2, _⟩ | ⟨g', cap, cur, e2, _⟩
    · rw [e2] at e; simp [Value.ownBlock] at e
    · have hc := hm.cell
      rw [e2] at e hc
      obtain rfl : g' = k := by simpa [Value.ownBlock] using e
      exact hn _ _ _ rfl hc
  · intro k hk hn ad n c2 ha
    rw [a2.cell]
    intro e
    injection e with e
    have e4 : A' = some ad := by injection e
    have hob : (Value.slice A' ((gE pre).1.length + 1) c').ownBlock = some k := by rw [e4, ← ha]; rfl
    rcases hat with h1 | h1
    · rw [hob] at h1
      rcases ho.2 with ⟨e2, _⟩ | ⟨g', cap, cur, e2, _⟩
      · rw [e2] at h1; simp [Value.ownBlock] at h1
      · have hc := hm.cell
        rw [e2] at h1 hc
        obtain rfl : k = g' := by simpa [Value.ownBlock] using h1
        exact hn _ _ _ rfl hc
    · rw [hob] at h1
      injection h1 with h1
      simp at h1
      omega
end
end Go.Proofs.YtcofkhmgmemkmaaGreatDoor
