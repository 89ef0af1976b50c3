/-
  OBJECTS: gathered.
-/
import Derived.Test.YtcofkhmgmemkmaaGreatDoorK26
import Derived.Sort.CutIn
import Derived.TacticsInMore
import Derived.OwnWalkIn
namespace Go.Proofs.YtcofkhmgmemkmaaGreatDoor
set_option linter.unusedVariables false
set_option linter.unusedSimpArgs false
open Go.RowKit Go.WideShapes Go.ChangeShapes Go.Deep Go.Shelf
attribute [local irreducible] wpQuiet
attribute [local go_sem] Oper.semAt_some

noncomputable def gAddO (s : List Ov × Bool) (x : Ov) : List Ov × Bool := match s.1.find? (fun h => (idW h).b == (idW x).b) with
  | none => (s.1 ++ [x], s.2)
  | some y => if sameO y x then s else (s.1, true)
noncomputable def gO (l : List Ov) : List Ov × Bool := l.foldl gAddO ([], false)
theorem gAdd_map (s : List El × Bool) (x : El) : (((gAdd s x).1.map (·.1) : List Ov), (gAdd s x).2) = gAddO (s.1.map (·.1), s.2) x.1 := by
  unfold gAdd gAddO fndE
  simp only [List.find?_map]
  rw [show ((fun h : Ov => (idW h).b == (idW x.1).b) ∘ fun y : El => y.1) = (fun h : El => (idW h.1).b == (idW x.1).b) from rfl]
  cases List.find? (fun h : El => (idW h.1).b == (idW x.1).b) s.1 with
  | none => simp
  | some y => 
    simp only [Option.map_some]
    cases sameO y.1 x.1 <;> simp
theorem gF_map : ∀ (pre : List El) (s : List El × Bool), (((pre.foldl gAdd s).1.map (·.1) : List Ov), (pre.foldl gAdd s).2) = (pre.map (·.1)).foldl gAddO (s.1.map (·.1), s.2)
  | [], s => rfl
  | x :: r, s => by
    rw [List.foldl_cons, gF_map r (gAdd s x), List.map_cons, List.foldl_cons, ← gAdd_map]
theorem gE_map (pre : List El) : ((gE pre).1.map (·.1) : List Ov) = (gO (pre.map (·.1))).1 ∧ (gE pre).2 = (gO (pre.map (·.1))).2 := by
  have h := gF_map pre ([], false)
  exact ⟨congrArg Prod.fst h, congrArg Prod.snd h⟩
noncomputable def gErr (rs : List Rw) : Int := if (allO rs).all okW then (if (gO (allO rs)).2 then 161 else 0) else 6
theorem gErr_bad {rs : List Rw} {x : Ov} (hx : x ∈ allO rs) (hb : okW x = false) : gErr rs = 6 := by
  unfold gErr
  rw [if_neg]
  intro h
  rw [List.all_eq_true] at h
  rw [h x hx] at hb
  cases hb
theorem gErr_ok {rs : List Rw} {ys : List El} (hy : ys.map (·.1) = allO rs) (ho : ∀ x ∈ ys, okW x.1 = true) : gErr rs = if (gE ys).2 then 161 else 0 := by
  unfold gErr
  rw [if_pos, (gE_map ys).2, hy]
  rw [List.all_eq_true]
  intro x hx
  rw [← hy] at hx
  obtain ⟨y, hm, rfl⟩ := List.mem_map.1 hx
  exact ho y hm
/-- What is laid ahead of the loop. -/
structure FvG (w V : World) : Prop where
  r : Boxed V w.heap.size 44 (.slice none 0 0)
  e : Boxed V (w.heap.size + 1) 35 (.int .i64 0)
  m : Boxed V (w.heap.size + 1 + 1) 44 (.slice none 0 0)
  t : Boxed V (w.heap.size + 1 + 1 + 1) 4 (.bool false)
  bel : Below w.heap.size w V
  sz : V.heap.size = w.heap.size + 4
theorem FvG.mk_ (w : World) : FvG w ((((w.alloc (.cells #[.slice none 0 0] 44)).alloc (.cells #[.int .i64 0] 35)).alloc (.cells #[.slice none 0 0] 44)).alloc (.cells #[.bool false] 4)) := by
  have h0 := ((((Boxed.new w 44 (.slice none 0 0)).alloc (.cells #[.int .i64 0] 35)).alloc (.cells #[.slice none 0 0] 44)).alloc (.cells #[.bool false] 4))
  have h1 := ((Boxed.new (w.alloc (.cells #[.slice none 0 0] 44)) 35 (.int .i64 0)).alloc (.cells #[.slice none 0 0] 44)).alloc (.cells #[.bool false] 4)
  have h2 := (Boxed.new ((w.alloc (.cells #[.slice none 0 0] 44)).alloc (.cells #[.int .i64 0] 35)) 44 (.slice none 0 0)).alloc (.cells #[.bool false] 4)
  have h3 := Boxed.new (((w.alloc (.cells #[.slice none 0 0] 44)).alloc (.cells #[.int .i64 0] 35)).alloc (.cells #[.slice none 0 0] 44)) 4 (.bool false)
  simp only [World.size_alloc] at h1 h2 h3
  exact ⟨h0, h1, h2, h3, ((((Below.refl _ w).alloc (Nat.le_refl _) _).alloc (by simp) _).alloc (by simp; omega) _).alloc (by simp; omega) _, by simp⟩
theorem Lt.kc {W W' : World} {b k : Nat} {t : TypeId} {l : List Value} (h : Lt W b t k l) (hs : W.heap.size ≤ W'.heap.size) (hk : ∀ (k : Nat) (cs : Array Value) (t : TypeId) (f : Nat × Nat), W.heap[k]? = some (.cells cs t f) → W'.heap[k]? = some (.cells cs t f)) : Lt W' b t k l := by
  obtain ⟨cs, f, hb⟩ := h.ty
  have e := hk _ _ _ _ hb
  exact ⟨h.ls.kp (e.trans hb.symm) hs, cs, f, e⟩
theorem Lt.bl {W W' : World} {b k : Nat} {t : TypeId} {l : List Value} (h : Lt W b t k l) (hb : Below W.heap.size W W') : Lt W' b t k l := by
  obtain ⟨cs, f, hc⟩ := h.ty
  have e := hb.block b (Array.getElem?_eq_some_iff.1 hc).1
  exact ⟨h.ls.kp e hb.size, cs, f, e.trans hc⟩
theorem all_bare {rs : List Rw} {x : Ov} (h : x ∈ allO rs) : x.ps = [] ∧ x.es = [] := by
  unfold allO at h
  rcases List.mem_append.1 h with h | h
  · obtain ⟨r, _, rfl⟩ := List.mem_map.1 h
    exact ⟨rfl, rfl⟩
  · obtain rfl : x = treeO rs := by simpa using h
    exact ⟨rfl, rfl⟩
theorem info_hd : (Tryz.prog.info? 54).map (fun i => (i.zero, i.size, i.bytes)) = some (some (.agg (hdC Idv.zero zOf).toArray), 105, 224) := by kernel_rfl
theorem hdz_sz : (Value.agg (hdC Idv.zero zOf).toArray).cells.size = 105 := by rfl
theorem hdl_one {i : Idv} {x : Of} (h : x.lv.oneCell' = true) (h' : x.pv.oneCell' = true) (h'' : x.ev.oneCell' = true) : ∀ u ∈ hdC i x, u.oneCell' = true := by
  have e := hd_one (i := i) h h' h''
  rw [List.all_toArray, List.all_eq_true] at e
  exact e
theorem gE_new {pre : List El} {x : El} {fe : Option El} (h : fndE (gE pre).1 x = fe) (hf : fe.isSome = false) : gE (pre ++ [x]) = ((gE pre).1 ++ [x], (gE pre).2) := by
  cases fe with
  | some y => cases hf
  | none => rw [gE_snoc]; unfold gAdd; rw [h]
theorem gE_old {pre : List El} {x y : El} (h : fndE (gE pre).1 x = some y) : gE (pre ++ [x]) = if sameO y.1 x.1 then gE pre else ((gE pre).1, true) := by
  rw [gE_snoc]; unfold gAdd; rw [h]
theorem keeps_below {B : Nat} {W W' : World} (h : Below W.heap.size W W') : KeepsFrom B W W' := ⟨h.size, fun k o _ hk _ => (h.block k (Array.getElem?_eq_some_iff.1 hk).1).trans hk⟩
theorem zip1 (p : Tmp) (v : Value) (a : Array Value) : (#[p].zip #[v]).foldl (fun t (x : Tmp × Value) => t.setIfInBounds x.1 x.2) a = a.setIfInBounds p v := by simp
/-- One element that is told, in the loop's body. -/
structure Ae (V : World) (rs : List Rw) (n : Nat) (x : El) (B : Nat) (W : World) : Prop where
  ge : V.heap.size ≤ B
  lt : Lt W B 54 105 (El.hd x).cells
  el : ElIn W x
  al : (allO rs)[n]? = some x.1
  nl : n < rs.length → x.2 = nSl
theorem results_G (tmps : Array Value) (W : World) (b4 b5 : Nat) (v : Value) (k : Int) (h4 : tmps.getD 2 undef = .pointer (some ⟨b4, 0, none⟩)) (h5 : tmps.getD 3 undef = .pointer (some ⟨b5, 0, none⟩)) (x4 : W.cell? ⟨b4, 0, none⟩ = some v) (x5 : W.cell? ⟨b5, 0, none⟩ = some (.int .i64 k)) :
    (results Tryz.f25 tmps).run Tryz.prog W = .ok (.tuple #[v, .int .i64 k]) W := by
  have h4' : tmps[2]?.getD undef = .pointer (some ⟨b4, 0, none⟩) := by simpa using h4
  have h5' : tmps[3]?.getD undef = .pointer (some ⟨b5, 0, none⟩) := by simpa using h5
  simp [results, Tryz.f25, go_sem, h4', h5', x4, x5]
theorem ends2_G {W : World} {R : Ending → World → Prop} (tmps : Array Value) (D b4 b5 : Nat) (v : Value) (k : Int) {t4 t5 : TypeId} (h4 : tmps.getD 2 undef = .pointer (some ⟨b4, 0, none⟩)) (h5 : tmps.getD 3 undef = .pointer (some ⟨b5, 0, none⟩)) (hK : W.heap[D]? = some (.deferred (some []))) (x4 : Boxed W b4 t4 v) (x5 : Boxed W b5 t5 (.int .i64 k))
    (h : R (.returned (.tuple #[v, .int .i64 k])) (W.putObj D (.deferred none))) : bodyPostM Fence.wide 8 Tryz.prog Tryz.f25 R Exit.ret { tmps := tmps, defers := [{ target := Target.collected D, args := #[] }] } W := by
  have y4 : Boxed (W.putObj D (.deferred none)) b4 t4 v := x4.kept (grownBy_putObj' W D _) (fun e => by injection e with e; subst e; rw [show W.heap[b4]? = _ from x4] at hK; cases hK)
  have y5 : Boxed (W.putObj D (.deferred none)) b5 t5 (.int .i64 k) := x5.kept (grownBy_putObj' W D _) (fun e => by injection e with e; subst e; rw [show W.heap[b5]? = _ from x5] at hK; cases hK)
  exact ⟨by simp, .inl ⟨D, _, rfl, run_takeDeferred hK, _, results_G tmps _ b4 b5 v k h4 h5 y4.cell y5.cell, h⟩⟩
/-- What stands behind the results' stores. -/
theorem two_set {W : World} {b4 b5 D : Nat} {t4 t5 : TypeId} {u4 u5 v4 v5 : Value} (x4 : Boxed W b4 t4 u4) (x5 : Boxed W b5 t5 u5) (hne : b4 ≠ b5) (hK : W.heap[D]? = some (.deferred (some []))) {n₀ : Nat} (h4 : n₀ ≤ b4) (h5 : n₀ ≤ b5) (hD : n₀ ≤ D) :
    Boxed ((W.setCell ⟨b4, 0, none⟩ v4).setCell ⟨b5, 0, none⟩ v5) b4 t4 v4 ∧ Boxed ((W.setCell ⟨b4, 0, none⟩ v4).setCell ⟨b5, 0, none⟩ v5) b5 t5 v5 ∧ ((W.setCell ⟨b4, 0, none⟩ v4).setCell ⟨b5, 0, none⟩ v5).heap[D]? = some (.deferred (some [])) ∧
    Below n₀ W (((W.setCell ⟨b4, 0, none⟩ v4).setCell ⟨b5, 0, none⟩ v5).putObj D (.deferred none)) ∧ (∀ (k : Nat) (cs : Array Value) (t : TypeId) (f : Nat × Nat), t ≠ t4 → t ≠ t5 → W.heap[k]? = some (.cells cs t f) → (((W.setCell ⟨b4, 0, none⟩ v4).setCell ⟨b5, 0, none⟩ v5).putObj D (.deferred none)).heap[k]? = some (.cells cs t f)) := by
  have l4 := x4.lt
  have g1 := grownBy_setCell' W b4 v4
  have g2 := grownBy_setCell' (W.setCell ⟨b4, 0, none⟩ v4) b5 v5
  have g3 := grownBy_putObj' ((W.setCell ⟨b4, 0, none⟩ v4).setCell ⟨b5, 0, none⟩ v5) D (.deferred none)
  have d4 : D ≠ b4 := fun e => by rw [e, show W.heap[b4]? = _ from x4] at hK; cases hK
  have d5 : D ≠ b5 := fun e => by rw [e, show W.heap[b5]? = _ from x5] at hK; cases hK
  have s1 := g1.size
  have s2 := g2.size
  refine ⟨(x4.set v4).kept g2 (by simp <;> omega), (x5.kept g1 (by simp <;> omega)).set v5, ?_, ?_, ?_⟩
  · exact (Below.heap_setCell _ ⟨b5, 0, none⟩ _ D (fun e => d5 e)).trans ((Below.heap_setCell W ⟨b4, 0, none⟩ _ D (fun e => d4 e)).trans hK)
  · exact (below_of_only g1 h4 (by omega)).trans ((below_of_only g2 h5 (by omega)).trans (below_of_only g3 hD (by omega)))
  · intro k cs t f h1 h2 hk
    have hl := (Array.getElem?_eq_some_iff.1 hk).1
    have n4 : k ≠ b4 := fun e => by
      rw [e, show W.heap[b4]? = _ from x4] at hk
      injection hk with hk
      injection hk with _ e2
      exact h1 e2.symm
    have n5 : k ≠ b5 := fun e => by
      rw [e, show W.heap[b5]? = _ from x5] at hk
      injection hk with hk
      injection hk with _ e2
      exact h2 e2.symm
    have nD : k ≠ D := fun e => by rw [e, hK] at hk; cases hk
    exact (g3.block k (by omega) (by simp <;> omega)).trans ((g2.block k (by omega) (by simp <;> omega)).trans ((g1.block k hl (by simp <;> omega)).trans hk))
/-- What is made, in memory. -/
structure GOut (w : World) (A : Option Addr) (n c : Nat) (L : List Ov) : Prop where
  ex : ∃ ys : List El, SqH w w.heap.size A n c (ys.map El.hd) ∧ (∀ y ∈ ys, ElIn w y) ∧ ys.map (·.1) = L
theorem GOut.nil (w : World) : GOut w none 0 0 [] := ⟨[], Sq.nil_ hdl_sz, fun y hy => (by cases hy), rfl⟩
noncomputable def gL (rs : List Rw) : List Ov := if gErr rs = 0 then (gO (allO rs)).1 else []
theorem gL_bad {rs : List Rw} (h : gErr rs ≠ 0) : gL rs = [] := if_neg h
theorem gL_ok {rs : List Rw} (h : gErr rs = 0) : gL rs = (gO (allO rs)).1 := if_pos h
set_option maxRecDepth 100000 in
set_option maxHeartbeats 8000000 in
theorem gathered_any {w : World} {Bm m c : Nat} {A : Option Addr} {rs : List Rw} (hb : Boxed w Bm 51 (.slice A m c)) (hr : SqR w w.heap.size A m c rs) (hg : S3.GK w) (hfit : rightR rs = true) :
    Calls Tryz.prog 25 #[.func (.func 53) #[] #[.pointer (some ⟨Bm, 0, none⟩)]] w fun en w' => (∃ A9 n9 c9, en = .returned (.tuple #[.slice A9 n9 c9, .int .i64 (gErr rs)]) ∧ GOut w' A9 n9 c9 (gL rs)) ∧ Below w.heap.size w w' := by
  obtain ⟨er, her⟩ : ∃ er, gErr rs = er := ⟨_, rfl⟩
  have HER := Lib.hid her
  obtain ⟨gl, hgl⟩ : ∃ l, gL rs = l := ⟨_, rfl⟩
  have HGL := Lib.hid hgl
  rw [her, hgl]
  clear her hgl
  obtain ⟨V, hV⟩ : ∃ V, ((((w.alloc (.cells #[.slice none 0 0] 44)).alloc (.cells #[.int .i64 0] 35)).alloc (.cells #[.slice none 0 0] 44)).alloc (.cells #[.bool false] 4)) = V := ⟨_, rfl⟩
  have FV : Hid (FvG w V) := Lib.hid (by rw [← hV]; exact FvG.mk_ w)
  have hbl := hb.lt
  have h00 := hg.lt
  have BV : Boxed V Bm 51 (.slice A m c) := (FV.out.bel.block _ hbl).trans hb
  have HT : Hid (∀ n, 1 ≤ n → SeqTurns Fence.wide n Tryz.prog 53 #[.pointer (some ⟨Bm, 0, none⟩)] (fun x => #[elV x]) tT w.heap.size (Vx rs) (Fm (w.heap.size + 1 + 1)) (Kq w.heap.size V.heap.size (w.heap.size + 1 + 1)) (fun ys => ys.map (·.1) = allO rs) (fun _ => True) (rs.length + 1) V) := Lib.hid fun n hn =>
    parts_turns n hn BV hbl (hr.below FV.out.bel) FV.out.bel.size (by omega) (gk_keep hg FV.out.bel (by omega)) hfit (by have := FV.out.sz; omega)
  have HV := Lib.hid hV
  clear hV hb hr hg
  have HFIT := Lib.hid (show rs.length ≤ 32 from (rows_sizes hfit).1)
  clear hfit
  refine (callsIn_wide (n := 8)).1 ?_
  refine callsIn_of_wp_marks Tryz.func25 rfl trivial ?_ rfl
  simp only [Tryz.ntmps25, List.size_toArray, List.length_cons, List.length_nil, Nat.reduceAdd, Nat.reduceSub, Array.replicate_succ, Array.replicate_zero, List.push_toArray, List.append_toArray, List.nil_append, List.cons_append]
  refine wpIn_wide.2 ?_
  go_wp2_with fail
  rw [HV.out]
  clear HV
  refine wpIn_wide.1 (wpIn_rangeFunc_turn (n := 8) (gf := 53) (lb := #[.pointer (some ⟨Bm, 0, none⟩)]) rfl (by omega) rfl trivial (enters_of Tryz.func53 (by kernel_rfl) rfl)
    (HT.out 7 (by omega)) (fun h k => h.trans k) ?keep (Below.refl _ _) (fun _ => rfl)
    (fun pre W => Gs w V w.heap.size (w.heap.size + 1) (w.heap.size + 1 + 1) (w.heap.size + 1 + 1 + 1) rs pre W)
    (fun c pre W => c = .ret ∧ er = 6 ∧ Boxed W w.heap.size 44 (.slice none 0 0) ∧ Boxed W (w.heap.size + 1) 35 (.int .i64 6) ∧ Below w.heap.size w W ∧ V.heap.size ≤ W.heap.size)
    (fun s W W' row hs hg hr => hs.own FV.out.bel.size hg hr)
    (fun s A B hs h ht => h.turn hs ht) (fun s A h => h.fm)
    (fun c s W W' row hs hg hr => ?ownx) ?h0
    (fun pre x a' W => ∃ B, Ae V rs pre.length x B W ∧ a' = { tmps := #[.func (.func 53) #[] #[.pointer (some ⟨Bm, 0, none⟩)], undef, .pointer (some ⟨w.heap.size, 0, none⟩), .pointer (some ⟨w.heap.size + 1, 0, none⟩), .pointer (some ⟨w.heap.size + 1 + 1, 0, none⟩), .pointer (some ⟨w.heap.size + 1 + 1 + 1, 0, none⟩), .pointer (some ⟨B, 0, none⟩), undef, undef, .func (.func 53) #[] #[.pointer (some ⟨Bm, 0, none⟩)], elV x, undef, undef, undef, undef, undef, undef, undef, undef, undef, undef, undef, undef, undef, undef, undef, undef, undef, undef, undef, undef, undef, undef, undef, undef, undef, undef], defers := [] })
    ?hax ?assign ?body ?done ?stop)
  case keep =>
    intro W k o o' hk ho hc hw
    have g4 := FV.out.sz
    have hB : Below w.heap.size W (W.putObj k o') := below_of_only (grownBy_putObj' W k o') (by omega) (by have := (Array.getElem?_eq_some_iff.1 ho).1; omega)
    have hne : ∀ (j : Nat) (cs : Array Value) (t : TypeId) (f : Nat × Nat), W.heap[j]? = some (Obj.cells cs t f) → (W.putObj k o').heap[j]? = some (Obj.cells cs t f) := fun j cs t f hj => ((grownBy_putObj' W k o').block j (Array.getElem?_eq_some_iff.1 hj).1 (fun e => by
      injection e with e
      subst e
      rw [ho] at hj
      cases hj
      cases hc)).trans hj
    refine ⟨hB, fun j cs t f _ _ hj => hne j cs t f hj, fun j hj hn => np_same hn ?_⟩
    exact World.putObj_heap_other (by omega)
  case ownx =>
    have g4 := FV.out.sz
    exact ⟨hs.1, hs.2.1, hs.2.2.1.kept hg (fun e => by have := (hr _ e.symm).1; omega), hs.2.2.2.1.kept hg (fun e => by have := (hr _ e.symm).1; omega), hs.2.2.2.2.1.trans ⟨hg.os, hg.tape, hg.output, hg.size, fun i hi => hg.block i (by have := hs.2.2.2.2.1.size; omega) (fun e => by have := (hr _ e.symm).1; omega)⟩, Nat.le_trans hs.2.2.2.2.2 hg.size⟩
  case h0 =>
    exact ⟨FV.out.bel, Nat.le_refl _, ⟨none, 0, FV.out.m, World.ownsRow_nil _ _ _ _⟩, FV.out.r, FV.out.e, FV.out.t, fun x hx => by simp at hx, fun x hx => by simp [gE] at hx, fun i y hy => by simp at hy⟩
  case hax =>
    intro pre x a' _ W W' row hs hg hr
    obtain ⟨B, hB, ha⟩ := hs
    have hk := Kn.grown hg fun r e => (hr r e).2
    exact ⟨B, ⟨hB.ge, hB.lt.kc hg.size hk, hB.el.lf hg.size fun k cs f h => hk k cs _ f h, hB.al, hB.nl⟩, ha⟩
  case assign =>
    rintro lp pre x W K hi ⟨hv1, hv2, hv3, hv4, hv5, hv6⟩ hK
    have HI := Lib.hid hi
    have hsz := hi.sz
    obtain ⟨xi, hxi⟩ : ∃ i, idW x.1 = i := ⟨_, rfl⟩
    obtain ⟨xo, hxo⟩ : ∃ o, x.1.at_ x.2 nSl nSl = o := ⟨_, rfl⟩
    have hXO : xo.lv.oneCell' = true ∧ xo.pv.oneCell' = true ∧ xo.ev.oneCell' = true := by rw [← hxo]; exact ⟨rfl, rfl, rfl⟩
    have HCL : (El.hd x).cells = hdC xi xo := by rw [← hxi, ← hxo]; rfl
    have HEV : elV x = .agg (hdC xi xo).toArray := by unfold elV; rw [HCL]
    have hm := List.mem_of_getElem? hv1
    have HE : Hid (ElIn W x) := Lib.hid ⟨hv2, hv3, (all_bare hm).1, (all_bare hm).2, hv6⟩
    have HNL := Lib.hid hv5
    have HAL := Lib.hid hv1
    obtain ⟨wA, hwA⟩ : ∃ wA, W.alloc (.cells (hdC Idv.zero zOf).toArray 54) = wA := ⟨_, rfl⟩
    have YA : Lies wA W.heap.size 105 (hdC Idv.zero zOf) := by
      rw [← hwA]
      have := Lies.new W (hdC Idv.zero zOf) 54
      rwa [hd_sz] at this
    obtain ⟨w5, hw5⟩ : ∃ w5, wA.setCells W.heap.size 0 (hdC xi xo) = w5 := ⟨_, rfl⟩
    have Y5 : Hid (Lt w5 W.heap.size 54 105 (El.hd x).cells) := Lib.hid (by rw [HCL, ← hw5, ← hwA]; exact Lt.made W _ (hd_sz _ _) (hd_sz _ _))
    have C5 : Hid (Below W.heap.size W w5) := Lib.hid (by rw [← hw5, ← hwA]; exact below_setCells ((Below.refl _ _).alloc (Nat.le_refl _) _) (Nat.le_refl _) _ _)
    have HWA := Lib.hid hwA
    have HW5 := Lib.hid hw5
    have TA := Lib.hid YA.th
    have HHEV := Lib.hid HEV
    have KK := Lib.hid hK
    clear hi hK hv1 hv2 hv3 hv4 hv5 hv6 hm hwA hw5 YA hxi hxo HCL HEV
    simp only [HHEV.out, zip1, List.setIfInBounds_toArray, List.set_cons_succ, List.set_cons_zero]
    refine reg_in (by kernel_rfl) ?_
    go_wp2_with (first
      | ((with_reducible refine alt 54 ?_ ?_ (hdC Idv.zero zOf) zero_hd ?_); rfl; rfl; rw [HWA.out]; (try simp only [Act.put, List.setIfInBounds_toArray, List.set_cons_succ, List.set_cons_zero]))
      | ((with_reducible refine sth (.tmp 6) (.tmp 10) ?_ ?_ W.heap.size 0 xi xo ?_ ?_ TA.out hXO.1 hXO.2.1 hXO.2.2 ?_); rfl; rfl; rfl; rfl; rw [HW5.out])
      | fail)
    refine Calm.normal ?_
    have g4 := FV.out.sz
    exact KK.out _ _ (keeps_below C5.out) (Kq.below C5.out (by omega) (by omega)) (HI.out.below C5.out) ⟨W.heap.size, ⟨hsz, Y5.out, HE.out.below C5.out, HAL.out, HNL.out⟩, by rw [HHEV.out]⟩
  case body =>
    rintro lp pre x a' W hlp hrec hgs ⟨B, hae, rfl⟩ hlen
    obtain ⟨xi, hxi⟩ : ∃ i, idW x.1 = i := ⟨_, rfl⟩
    obtain ⟨xo, hxo⟩ : ∃ o, x.1.at_ x.2 nSl nSl = o := ⟨_, rfl⟩
    have HCL : Hid ((El.hd x).cells = hdC xi xo) := Lib.hid (by rw [← hxi, ← hxo]; rfl)
    have HXO : Hid (xo.lv.oneCell' = true ∧ xo.pv.oneCell' = true ∧ xo.ev.oneCell' = true) := Lib.hid (by rw [← hxo]; exact ⟨rfl, rfl, rfl⟩)
    obtain ⟨ev, hev⟩ : ∃ v, elV x = v := ⟨_, rfl⟩
    rw [hev]
    clear hev
    have HGS := Lib.hid hgs
    have HAE := Lib.hid hae
    have hsz := hgs.sz
    have hge := hae.ge
    have g4 := FV.out.sz
    have hpl : pre.length ≤ rs.length := by omega
    have hfl := HFIT.out
    have hkl := gE_len pre
    have LX := hae.lt
    rw [HCL.out] at LX
    have RG := Lib.hid (hd_rg.1 LX.ls.rg)
    obtain ⟨q, hq⟩ : ∃ q, okW x.1 = q := ⟨_, rfl⟩
    have HC : Hid (Calls Tryz.prog 22 #[ofV xo] W fun e w' => e = .returned (.int .i64 (if q then 0 else 160)) ∧ Below W.heap.size W w') := Lib.hid (by
      rw [← hxo, ← hq]
      exact OCheck_any hae.el.o ⟨by have := hae.el.n; omega, by decide, by decide⟩)
    have HQ := Lib.hid hq
    have HXI := Lib.hid hxi
    have HXE := Lib.hid hxo
    clear hgs hae LX hq hxi hxo
    dsimp only
    gi_upto_region 5 with fail
    refine reg_in (by kernel_rfl) ?_
    cases q
    · go_wp2_with (first
        | ((with_reducible refine ldo (.tmp 11) ?_ ?_ B 32 xo ?_ RG.out.2 ?_); rfl; rfl; (first | rfl | go_simp))
        | fail)
      refine HC.out.mono ?_
      rintro e w5 ⟨rfl, hb5⟩
      dsimp only
      have HB5 := Lib.hid hb5
      clear hb5
      go_wp2_with fail
      refine Calm.normal ?_
      have gs5 := HGS.out.below HB5.out
      have H2 := Lib.hid gs5.r
      have H3 := Lib.hid gs5.e
      have z2 := H2.out.cell
      have u2 := H2.out.frozen
      have z3 := H3.out.cell
      have u3 := H3.out.frozen
      clear gs5
      gi_wp2
      have E2 := (H2.out.set (.slice none 0 0)).kept (grownBy_setCell' _ (w.heap.size + 1) (.int .i64 6)) (by simp)
      have E3 := (H3.out.kept (grownBy_setCell' _ w.heap.size (.slice none 0 0)) (by simp)).set (.int .i64 6)
      have s5 := HB5.out.size
      have B5w : Below w.heap.size w w5 := HGS.out.bel.trans (HB5.out.mono HGS.out.bel.size)
      have b1 : Below w.heap.size w5 (w5.setCell ⟨w.heap.size, 0, none⟩ (.slice none 0 0)) := below_cell (Nat.le_refl _) B5w.size
      have b2 : Below w.heap.size (w5.setCell ⟨w.heap.size, 0, none⟩ (.slice none 0 0)) ((w5.setCell ⟨w.heap.size, 0, none⟩ (.slice none 0 0)).setCell ⟨w.heap.size + 1, 0, none⟩ (.int .i64 6)) := below_cell (by omega) (Nat.le_trans B5w.size b1.size)
      refine ⟨(keeps_below (B := V.heap.size) HB5.out).trans (((KeepsOthers.setCell _ _ _).from _).trans ((KeepsOthers.setCell _ _ _).from _)), rfl, by rw [← HER.out]; exact gErr_bad (List.mem_of_getElem? HAE.out.al) HQ.out, E2, E3, B5w.trans (b1.trans b2), ?_⟩
      have := b1.size
      have := b2.size
      omega
    · go_wp2_with (first
        | ((with_reducible refine ldo (.tmp 11) ?_ ?_ B 32 xo ?_ RG.out.2 ?_); rfl; rfl; (first | rfl | go_simp))
        | fail)
      refine HC.out.mono ?_
      rintro e w5 ⟨rfl, hb5⟩
      dsimp only
      have HB5 := Lib.hid hb5
      clear hb5
      go_wp2_with fail
      refine Calm.normal ?_
      have GS5 := Lib.hid (HGS.out.below HB5.out)
      have EL5 := Lib.hid (HAE.out.el.below HB5.out)
      have LX5 : Hid (Lt w5 B 54 105 (hdC xi xo)) := Lib.hid (by have h := HAE.out.lt.bl HB5.out; rw [HCL.out] at h; exact h)
      have RG5 := Lib.hid (hd_rg.1 LX5.out.ls.rg)
      obtain ⟨Av, cv, hm5, hown5⟩ := GS5.out.ls
      obtain ⟨kn, hkn⟩ : ∃ k, (gE pre).1.length = k := ⟨_, rfl⟩
      obtain ⟨fe, hfe⟩ : ∃ f, fndE (gE pre).1 x = f := ⟨_, rfl⟩
      have HM5 := Lib.hid hm5
      have HOW5 := Lib.hid hown5
      have HKN := Lib.hid hkn
      have z4 : w5.cell? ⟨w.heap.size + 1 + 1, 0, none⟩ = some (.slice Av kn cv) := by rw [← hkn]; exact hm5.cell
      obtain ⟨zz, hzz⟩ : ∃ o, zOf = o := ⟨_, rfl⟩
      have ZO : Hid (∀ w : World, (zeroValue 34).run Tryz.prog w = .ok (.agg zz.cells.toArray) w) := Lib.hid (by rw [← hzz]; exact zero_of)
      obtain ⟨fo, hfo⟩ : ∃ o, (match fe with | some y => (El.hd y).o | none => zOf) = o := ⟨_, rfl⟩
      obtain ⟨fb, hfb⟩ : ∃ o, fe.isSome = o := ⟨_, rfl⟩
      have FOK : Hid (fo.lv.oneCell' = true ∧ fo.pv.oneCell' = true ∧ fo.ev.oneCell' = true) := Lib.hid (by rw [← hfo]; cases fe <;> exact ⟨rfl, rfl, rfl⟩)
      have HCF : Hid (Calls Tryz.prog 51 #[.slice Av kn cv, idV xi] w5 fun e w' => e = .returned (.tuple #[ofV fo, .bool fb]) ∧ Below w5.heap.size w5 w') := Lib.hid (by
        have h := found_any (own_sq hown5 hdl_sz (by omega)) xi (by omega)
        rw [← HXI.out, find_hd, hfe] at h
        rw [← hkn, ← HXI.out, ← hfo, ← hfb]
        cases fe <;> exact h)
      have HFO := Lib.hid hfo
      have HFB := Lib.hid hfb
      have HFE := Lib.hid hfe
      have HZZ := Lib.hid hzz
      have s5 := HB5.out.size
      clear hm5 hown5 hkn hfe hfo hfb hzz
      gi_upto_region 7 with fail
      refine reg_in (by kernel_rfl) ?_
      go_wp2_with (first
        | ((with_reducible refine ldi (.tmp 17) ?_ ?_ B 0 xi ?_ RG5.out.1 ?_); rfl; rfl; (first | rfl | go_simp))
        | fail)
      refine HCF.out.mono ?_
      rintro e w6 ⟨rfl, hb6⟩
      dsimp only
      have HB6 := Lib.hid hb6
      clear hb6 z4
      obtain ⟨wA, hwA⟩ : ∃ wA, w6.alloc (.cells zz.cells.toArray 34) = wA := ⟨_, rfl⟩
      have YA : Lies wA w6.heap.size 73 zz.cells := by
        rw [← hwA]
        have := Lies.new w6 zz.cells 34
        rwa [of_sz] at this
      obtain ⟨w7, hw7⟩ : ∃ w7, wA.setCells w6.heap.size 0 fo.cells = w7 := ⟨_, rfl⟩
      have Y7 : Hid (Lies w7 w6.heap.size 73 fo.cells) := Lib.hid (by rw [← hw7]; exact YA.set_ (of_sz _))
      have C7 : Below w6.heap.size w6 w7 := by rw [← hw7, ← hwA]; exact below_setCells ((Below.refl _ _).alloc (Nat.le_refl _) _) (Nat.le_refl _) _ _
      have B57 : Hid (Below w5.heap.size w5 w7) := Lib.hid (HB6.out.trans (C7.mono HB6.out.size))
      have HWA := Lib.hid hwA
      have HW7 := Lib.hid hw7
      have TA := Lib.hid YA.th
      clear hwA hw7 YA C7
      go_wp2_with (first
        | ((with_reducible refine alt 34 ?_ ?_ zz.cells ZO.out ?_); rfl; rfl; rw [HWA.out]; (try simp only [Act.put, List.setIfInBounds_toArray, List.set_cons_succ, List.set_cons_zero]))
        | ((with_reducible refine sto (.tmp 7) (.tmp 20) ?_ ?_ w6.heap.size 0 fo ?_ ?_ TA.out FOK.out.1 FOK.out.2.1 FOK.out.2.2 ?_); rfl; rfl; rfl; rfl; rw [HW7.out])
        | fail)
      refine Calm.normal ?_
      have BW7 := Lib.hid (HB5.out.trans (B57.out.mono HB5.out.size))
      have GS7 := Lib.hid (HGS.out.below BW7.out)
      have EL7 := Lib.hid (HAE.out.el.below BW7.out)
      have KF := Lib.hid (keeps_below (B := V.heap.size) BW7.out)
      have KP : Hid (Kq w.heap.size V.heap.size (w.heap.size + 1 + 1) W w7) := Lib.hid (Kq.below BW7.out (by omega) (by omega))
      have LX7 : Hid (Lt w7 B 54 105 (hdC xi xo)) := Lib.hid (by have h := HAE.out.lt.bl BW7.out; rw [HCL.out] at h; exact h)
      have RG7 := Lib.hid (hd_rg.1 LX7.out.ls.rg)
      cases fb
      · have HF : Hid (gE (pre ++ [x]) = ((gE pre).1 ++ [x], (gE pre).2)) := Lib.hid (gE_new HFE.out HFB.out)
        obtain ⟨A7, c7, hm7, hown7⟩ := GS7.out.ls
        have HM7 := Lib.hid hm7
        have HO7 := Lib.hid hown7
        have z4 := hm7.cell
        have HOK : Hid (okW x.1 = true) := Lib.hid HQ.out
        have HNL : Hid (pre.length < rs.length → x.2 = nSl) := Lib.hid HAE.out.nl
        obtain ⟨i0, hi, hz, hz1, hz2⟩ := info_parts info_hd
        have AP : Hid (∀ v8 w8, w8.ownsRow w.heap.size 54 105 v8 ((gE pre).1.length + 1) (((gE pre).1.map El.hd).flatMap Hd.cells ++ hdC xi xo) → (w7.alloc (.cells (hdC xi xo).toArray 54)).grownBy w8 (Value.slice A7 (gE pre).1.length c7).ownBlock → (v8.ownBlock = (Value.slice A7 (gE pre).1.length c7).ownBlock ∨ v8.ownBlock = some (w7.alloc (.cells (hdC xi xo).toArray 54)).heap.size) →
            Boxed w8 (w.heap.size + 1 + 1) 44 (.slice A7 (gE pre).1.length c7) ∧ Gs w V w.heap.size (w.heap.size + 1) (w.heap.size + 1 + 1) (w.heap.size + 1 + 1 + 1) rs (pre ++ [x]) (w8.setCell ⟨w.heap.size + 1 + 1, 0, none⟩ v8) ∧ KeepsFrom V.heap.size w7 (w8.setCell ⟨w.heap.size + 1 + 1, 0, none⟩ v8) ∧ Kq w.heap.size V.heap.size (w.heap.size + 1 + 1) w7 (w8.setCell ⟨w.heap.size + 1 + 1, 0, none⟩ v8)) := Lib.hid fun v8 w8 h1 h2 h3 => by
          rw [← HCL.out] at h1
          exact GS7.out.app HOK.out HNL.out EL7.out HF.out (by omega) (by omega) (by omega) (by omega) (by omega) HM7.out HO7.out h1 h2 h3
        have hs7 : w.heap.size ≤ w7.heap.size := GS7.out.bel.size
        clear hm7 hown7
        gi_upto_region 9 with fail
        refine reg_in (by kernel_rfl) ?_
        go_wp2_with (first
          | ((with_reducible refine ldh (.tmp 6) ?_ ?_ B 0 xi xo ?_ LX7.out.ls.rg ?_); rfl; rfl; (first | rfl | go_simp))
          | ((with_reducible refine oneL Tryz.underlying44 hi hz (k := 105) (by omega) (by omega) hz1 hdz_sz (.tmp 26) ?_ ?_ (hdC xi xo) (hd_sz _ _) ?_ ?_); rfl; rfl; rfl; (try simp only [Act.put, List.setIfInBounds_toArray, List.set_cons_succ, List.set_cons_zero]))
          | (at_builtin; refine wpList_append_own_at (w7.alloc (.cells (hdC xi xo).toArray 54)) ?_ (.tmp 25) (.tmp 27) 44 ?_ w.heap.size 54 i0 (.agg (hdC Idv.zero zOf).toArray) 105 224 Tryz.underlying44 hi hz hz1 hz2 hdz_sz (by omega) (.slice A7 (gE pre).1.length c7) (gE pre).1.length (((gE pre).1.map El.hd).flatMap Hd.cells) ?_ (HO7.out.alloc _) ⟨w7.heap.size, 0, none⟩ 1 1 (hdC xi xo) ?_ (hd_sz _ _) (World.news_of_block (heap_alloc_new w7 _)) (hdl_one HXO.out.1 HXO.out.2.1 HXO.out.2.2) (by unfold maxLen; omega) (by omega) (by simp; omega) ?_; rfl; rfl; rfl; rfl; intro v8 w8 own8 hg8 _ hat8; obtain ⟨A8, c8, hv8⟩ := own_shape own8; subst hv8; have HAP := Lib.hid (AP.out _ w8 own8 hg8 hat8); have x1 := HAP.out.1.cell; have u1 := HAP.out.1.frozen; clear own8 hg8 hat8)
          | fail)
        refine Calm.normal ?_
        exact ⟨KF.out.trans HAP.out.2.2.1, KP.out.trans HAP.out.2.2.2, HAP.out.2.1⟩
      · obtain ⟨y, hy⟩ : ∃ y, fe = some y := Option.isSome_iff_exists.1 HFB.out
        subst hy
        have hym : y ∈ (gE pre).1 := List.mem_of_find?_eq_some HFE.out
        have ELY := GS7.out.el y hym
        obtain ⟨sm, hsm⟩ : ∃ b, sameO y.1 x.1 = b := ⟨_, rfl⟩
        have HF : Hid (gE (pre ++ [x]) = if sm then gE pre else ((gE pre).1, true)) := Lib.hid (by rw [← hsm]; exact gE_old HFE.out)
        have HCS : Hid (Calls Tryz.prog 52 #[ofV fo, ofV xo] w7 fun e w' => e = .returned (.bool sm) ∧ Below w7.heap.size w7 w') := Lib.hid (by
          rw [← hsm, ← HFO.out, ← HXE.out]
          exact Same_any ELY.o EL7.out.o (by have := ELY.n; omega) (by decide) (by decide))
        have HOK : Hid (okW x.1 = true) := Lib.hid HQ.out
        have HNL : Hid (pre.length < rs.length → x.2 = nSl) := Lib.hid HAE.out.nl
        clear hsm ELY hym
        gi_upto_region 10 with fail
        refine reg_in (by kernel_rfl) ?_
        go_wp2_with (first
          | ((with_reducible refine ldo (.tmp 7) ?_ ?_ w6.heap.size 0 fo ?_ Y7.out.rg ?_); rfl; rfl; (first | rfl | go_simp))
          | ((with_reducible refine ldo (.tmp 31) ?_ ?_ B 32 xo ?_ RG7.out.2 ?_); rfl; rfl; (first | rfl | go_simp))
          | fail)
        refine HCS.out.mono ?_
        rintro e w8 ⟨rfl, hb8⟩
        dsimp only
        have HB8 := Lib.hid hb8
        clear hb8
        have KF8 := Lib.hid (KF.out.trans (keeps_below (B := V.heap.size) HB8.out))
        have s7 := BW7.out.size
        have KP8 : Hid (Kq w.heap.size V.heap.size (w.heap.size + 1 + 1) W w8) := Lib.hid (KP.out.trans (Kq.below HB8.out (by omega) (by omega)))
        have GS8 := Lib.hid (GS7.out.below HB8.out)
        cases sm
        · go_wp2_with fail
          refine Calm.normal ?_
          have HT8 := Lib.hid GS8.out.t
          have z5 := HT8.out.cell
          have u5 := HT8.out.frozen
          gi_wp2
          obtain ⟨t1, t2, t3⟩ := GS8.out.twin HOK.out HNL.out HF.out (by omega) (by omega) (by omega) (by omega) (by omega)
          exact ⟨KF8.out.trans t2, KP8.out.trans t3, t1⟩
        · go_wp2_with fail
          refine Calm.normal ?_
          gi_wp2
          exact ⟨KF8.out, KP8.out, GS8.out.more HOK.out HNL.out HF.out⟩
  case done =>
    rintro D ys W hD hS hgs hK
    have HE0 := Lib.hid (gErr_ok hS hgs.ok)
    have HMP := Lib.hid (gE_map ys)
    have HS := Lib.hid hS
    have HGS := Lib.hid hgs
    have HK := Lib.hid hK
    have H2 := Lib.hid hgs.r
    have H3 := Lib.hid hgs.e
    have H5 := Lib.hid hgs.t
    obtain ⟨A7, c7, hm7, hown7⟩ := hgs.ls
    have HM7 := Lib.hid hm7
    have HO7 := Lib.hid hown7
    have z2 := H2.out.cell
    have u2 := H2.out.frozen
    have z3 := H3.out.cell
    have u3 := H3.out.frozen
    have z4 := hm7.cell
    have z5 := H5.out.cell
    have g4 := FV.out.sz
    have hbel := Lib.hid hgs.bel
    obtain ⟨tw, htw⟩ : ∃ b, (gE ys).2 = b := ⟨_, rfl⟩
    rw [htw] at z5
    have HTW := Lib.hid htw
    obtain ⟨kn, hkn⟩ : ∃ k, (gE ys).1.length = k := ⟨_, rfl⟩
    rw [hkn] at z4
    have HKN := Lib.hid hkn
    clear hS hgs hK hm7 hown7 htw hkn
    cases tw
    · have e0 : er = 0 := by rw [← HER.out, HE0.out, HTW.out]; rfl
      subst e0
      go_wp2
      obtain ⟨E2, E3, hK2, hbl2, hkp2⟩ := two_set (v4 := .slice A7 kn c7) (v5 := .int .i64 0) H2.out H3.out (by omega) HK.out (n₀ := w.heap.size) (Nat.le_refl _) (by omega) (by omega)
      have o3 := own_keep HO7.out fun g e => by
        obtain ⟨_, _, cs, f, hc⟩ := own_ty HO7.out g e
        exact (hkp2 _ _ _ _ (by decide) (by decide) hc).trans hc.symm
      refine ends2_G _ D _ _ _ _ rfl rfl hK2 E2 E3 ⟨⟨A7, kn, c7, rfl, ⟨(gE ys).1, ?_, fun y hy => (HGS.out.el y hy).lf hbl2.size fun k cs f hk => hkp2 k cs _ f (by decide) (by decide) hk, ?_⟩⟩, hbel.out.trans hbl2⟩
      · have := own_sq o3 hdl_sz (by omega)
        rw [HKN.out] at this
        exact this
      · rw [← HGL.out, gL_ok HER.out, HMP.out.1, HS.out]
    · have e0 : er = 161 := by rw [← HER.out, HE0.out, HTW.out]; rfl
      subst e0
      go_wp2
      obtain ⟨E2, E3, hK2, hbl2, hkp2⟩ := two_set (v4 := .slice none 0 0) (v5 := .int .i64 161) H2.out H3.out (by omega) HK.out (n₀ := w.heap.size) (Nat.le_refl _) (by omega) (by omega)
      exact ends2_G _ D _ _ _ _ rfl rfl hK2 E2 E3 ⟨⟨none, 0, 0, rfl, by rw [← HGL.out, gL_bad (by rw [HER.out]; decide)]; exact GOut.nil _⟩, hbel.out.trans hbl2⟩
  case stop =>
    rintro D c pre W hD hSp ⟨rfl, rfl, hb4, hb5, hbl, hsz⟩ hK
    have HK := Lib.hid hK
    have H4 := Lib.hid hb4
    have H5 := Lib.hid hb5
    have HB := Lib.hid hbl
    clear hK hb4 hb5 hbl
    refine wpIn_wide.2 ?_
    go_wp2
    have g4 := FV.out.sz
    exact ends2_G _ D _ _ _ _ rfl rfl HK.out H4.out H5.out ⟨⟨none, 0, 0, rfl, by rw [← HGL.out, gL_bad (by rw [HER.out]; decide)]; exact GOut.nil _⟩, HB.out.trans (below_of_only (grownBy_putObj' W D _) (by omega) (by omega))⟩
end Go.Proofs.YtcofkhmgmemkmaaGreatDoor
