/-
  MERGE: merged.
-/
import Derived.RangeFuncNested
import Derived.RangeFuncBound
import Derived.RangeFuncCalls
import Derived.RangeFuncLeaves
import Derived.RangeFuncBox
import Derived.Shelf.Abstract
import Derived.Shelf.RegionOpen
import Derived.WalkKit
import Derived.OwnWalkIn
import Derived.TacticsInMore
import Derived.LoopNIn
import Derived.LoopIn
import Derived.Deep.Cut
import Derived.Great.BuildSlice
import Derived.Great.FillDense
import Derived.Test.YtgpakahmccafdaaMc
import Derived.Test.YtgpakahmccafdaaMf
import Derived.Test.YtgpakahmccafdaaPo
namespace Go.Proofs.Ytgpakahmccafdaa
set_option linter.unusedVariables false
set_option linter.unusedSimpArgs false
set_option pp.deepTerms true
set_option pp.maxSteps 200000
open Go.RowKit Go.WideShapes Go.ChangeShapes Go.Deep Go.Shelf
attribute [local go_sem] Oper.semAt_some
attribute [local irreducible] wpQuiet

/-- What one place adds; what is made. -/
def hasM (by' : List Ch) (x : Pl) : Sd := if conflW x then ⟨isC (findW Ch.p by' x.p), textC (findW Ch.p by' x.p)⟩ else agreedW x
def pieceM (by' : List Ch) (x : Pl) : List Rw := if (hasM by' x).is then [⟨x.p, (hasM by' x).t⟩] else []
def madeM (by' : List Ch) (pre : List Pl) : List Rw := pre.flatMap (pieceM by')
theorem madeM_snoc (by' : List Ch) (pre : List Pl) (x : Pl) : madeM by' (pre ++ [x]) = madeM by' pre ++ pieceM by' x := by
  unfold madeM
  rw [List.flatMap_append]
  simp
theorem madeM_le {by' : List Ch} {pre all : List Pl} (h : pre <+: all) : (madeM by' pre).length ≤ (madeM by' all).length := by
  obtain ⟨t, rfl⟩ := h
  unfold madeM
  rw [List.flatMap_append, List.length_append]
  omega
def mergedW (lb lo lt : List Rw) (by' : List Ch) : List Rw := madeM by' (plsW lb lo lt)
def mergedE (lb lo lt : List Rw) (by' : List Ch) : Int := if 32 < (mergedW lb lo lt by').length then 6 else 0
theorem cfs_snoc (pre : List Pl) (x : Pl) : cfs (pre ++ [x]) = cfs pre ++ (if conflW x then [x] else []) := by
  unfold cfs
  rw [List.filter_append]
  cases h : conflW x <;> simp [h]
theorem said_next {by' : List Ch} {L pre : List Pl} {x : Pl} (hp : pre ++ [x] <+: L) (hx : conflW x = true) (hf : by'.map Ch.p = (cfs L).map Pl.p) :
    ∃ c r, by'.drop (cfs pre).length = c :: r ∧ by'.drop ((cfs pre).length + 1) = r ∧ c.p = x.p ∧ c ∈ by' := by
  obtain ⟨t, rfl⟩ := hp
  have h1 : cfs (pre ++ [x] ++ t) = cfs pre ++ x :: cfs t := by
    unfold cfs
    rw [List.filter_append, List.filter_append]
    simp [hx]
  rw [h1, List.map_append, List.map_cons] at hf
  have hl : by'.length = (cfs pre).length + ((cfs t).length + 1) := by
    have := congrArg List.length hf
    simpa using this
  have hk : (cfs pre).length < by'.length := by omega
  refine ⟨by'[(cfs pre).length], by'.drop ((cfs pre).length + 1), List.drop_eq_getElem_cons hk, rfl, ?_, List.getElem_mem hk⟩
  have h2 : (by'.map Ch.p)[(cfs pre).length]? = some x.p := by
    rw [hf, List.getElem?_append_right (by simp)]
    simp
  rw [List.getElem?_map, List.getElem?_eq_getElem hk] at h2
  simpa using h2

theorem hb_cell {W : World} {B : Nat} {c : Array Value} {t : TypeId} {fr : Nat × Nat} (h : W.heap[B]? = some (Obj.cells c t fr)) {j : Nat} {v : Value} (hv : c[j]? = some v) : W.cell? ⟨B, j, none⟩ = some v := by
  unfold World.cell?
  rw [show (⟨B, j, none⟩ : Addr).block = B from rfl, h]
  simpa using hv
theorem hb_free {W : World} {B : Nat} {c : Array Value} {t : TypeId} {j : Nat} (h : W.heap[B]? = some (Obj.cells c t (0, 0))) : W.frozen? ⟨B, j, none⟩ = false := by
  unfold World.frozen?
  rw [show (⟨B, j, none⟩ : Addr).block = B from rfl, h]
  simp
theorem hb_set1 {W : World} {B : Nat} {u0 u1 : Value} {t : TypeId} (h : W.heap[B]? = some (Obj.cells #[u0, u1] t (0, 0))) (v0 : Value) : (W.setCell ⟨B, 0, none⟩ v0).heap[B]? = some (Obj.cells #[v0, u1] t (0, 0)) := by
  simp [World.setCell, Array.getElem?_modify, h]
theorem hb_set {W : World} {B : Nat} {u0 u1 : Value} {t : TypeId} (h : W.heap[B]? = some (Obj.cells #[u0, u1] t (0, 0))) (v0 v1 : Value) : ((W.setCell ⟨B, 0, none⟩ v0).setCell ⟨B, 1, none⟩ v1).drew.heap[B]? = some (Obj.cells #[v0, v1] t (0, 0)) := by
  have h1 := hb_set1 h v0
  show ((W.setCell ⟨B, 0, none⟩ v0).setCell ⟨B, 1, none⟩ v1).heap[B]? = _
  generalize W.setCell ⟨B, 0, none⟩ v0 = W1 at h1 ⊢
  simp [World.setCell, Array.getElem?_modify, h1]
theorem Mg.own_ne {V W : World} {T : Nat → Prop} {b : Nat} {tm e : TypeId} {k n : Nat} {v : Value} {xs : List Value} (h : Mg V T b tm e k v n xs W) {s : Nat} {c0 : Array Value} {t0 : TypeId} {fr0 : Nat × Nat} (hs : W.heap[s]? = some (Obj.cells c0 t0 fr0)) (ht : t0 ≠ e) : v.ownBlock ≠ some s := by
  rcases h.own.2 with ⟨rfl, _⟩ | ⟨g, cap, cur, rfl, _, hgb, _⟩
  · simp [Value.ownBlock]
  · intro e'
    obtain rfl : s = g := by simpa [Value.ownBlock] using e'.symm
    rw [hgb] at hs
    injection hs with hs
    injection hs with _ h2
    exact ht h2.symm

theorem results_Mgd (tmps : Array Value) (W : World) (b4 b5 : Nat) (v : Value) (k : Int) (h4 : tmps.getD 4 undef = .pointer (some ⟨b4, 0, none⟩)) (h5 : tmps.getD 5 undef = .pointer (some ⟨b5, 0, none⟩)) (x4 : W.cell? ⟨b4, 0, none⟩ = some v) (x5 : W.cell? ⟨b5, 0, none⟩ = some (.int .i64 k)) :
    (results Try.f45 tmps).run Try.prog W = .ok (.tuple #[.agg #[v], .int .i64 k]) W := by
  have h4' : tmps[4]?.getD undef = .pointer (some ⟨b4, 0, none⟩) := by simpa using h4
  have h5' : tmps[5]?.getD undef = .pointer (some ⟨b5, 0, none⟩) := by simpa using h5
  simp [results, Try.f45, go_sem, h4', h5', x4, x5]
theorem ends2_Mgd {W : World} {R : Ending → World → Prop} (tmps : Array Value) (D b4 b5 : Nat) (v : Value) (k : Int) {t4 t5 : TypeId} (h4 : tmps.getD 4 undef = .pointer (some ⟨b4, 0, none⟩)) (h5 : tmps.getD 5 undef = .pointer (some ⟨b5, 0, none⟩)) (hK : W.heap[D]? = some (.deferred (some []))) (x4 : Boxed W b4 t4 v) (x5 : Boxed W b5 t5 (.int .i64 k))
    (h : R (.returned (.tuple #[.agg #[v], .int .i64 k])) (W.putObj D (.deferred none))) : bodyPostM Fence.wide 8 Try.prog Try.f45 R Exit.ret { tmps := tmps, defers := [{ target := Target.collected D, args := #[] }] } W := by
  have y4 : Boxed (W.putObj D (.deferred none)) b4 t4 v := x4.kept (grownBy_putObj' W D _) (fun e => by injection e with e; subst e; rw [show W.heap[b4]? = _ from x4] at hK; cases hK)
  have y5 : Boxed (W.putObj D (.deferred none)) b5 t5 (.int .i64 k) := x5.kept (grownBy_putObj' W D _) (fun e => by injection e with e; subst e; rw [show W.heap[b5]? = _ from x5] at hK; cases hK)
  exact ⟨by simp, .inl ⟨D, _, rfl, run_takeDeferred hK, _, results_Mgd tmps _ b4 b5 v k h4 h5 y4.cell y5.cell, h⟩⟩
/-- What is laid ahead of the loop. -/
structure FvM (w : World) (A : Option Addr) (n c : Nat) (V : World) : Prop where
  s : Boxed V w.heap.size 34 (.slice A n c)
  r4 : Boxed V (w.heap.size + 1) 24 (.slice none 0 0)
  r5 : Boxed V (w.heap.size + 1 + 1) 31 (.int .i64 0)
  m : Boxed V (w.heap.size + 1 + 1 + 1) 24 (.slice none 0 0)
  bel : Below w.heap.size w V
  sz : V.heap.size = w.heap.size + 4

set_option maxRecDepth 100000 in
set_option maxHeartbeats 8000000 in
theorem merged_any {w : World} {n₀ Ba Bb Bc : Nat} {A1 : Option Addr} {n1 c1 : Nat} {l1 : List Rw} {A2 : Option Addr} {n2 c2 : Nat} {l2 : List Rw} {A3 : Option Addr} {n3 c3 : Nat} {l3 : List Rw} (hT : T3 w n₀ Ba Bb Bc A1 n1 c1 l1 A2 n2 c2 l2 A3 n3 c3 l3) (hm1 : n1 ≤ 1000) (hm2 : n2 ≤ 1000) (hm3 : n3 ≤ 1000)
    {A : Option Addr} {n c : Nat} {by' : List Ch} (hs : SqC w w.heap.size A n c by') (hn : n ≤ 1000) (hfit : by'.map Ch.p = (cfs (plsW l1 l2 l3)).map Pl.p) (hup : Up Ch.p by') :
    Calls Try.prog 45 #[.func (.func 60) #[] #[.pointer (some ⟨Ba, 0, none⟩), .pointer (some ⟨Bb, 0, none⟩), .pointer (some ⟨Bc, 0, none⟩)], .slice A n c] w fun en w' => (∃ A9 n9 c9, en = .returned (.tuple #[.agg #[.slice A9 n9 c9], .int .i64 (mergedE l1 l2 l3 by')]) ∧ SqR w' w'.heap.size A9 n9 c9 (if mergedE l1 l2 l3 by' = 0 then mergedW l1 l2 l3 by' else [])) ∧ Below w.heap.size w w' := by
  obtain ⟨Lr, hLr⟩ : ∃ Lr, (if mergedE l1 l2 l3 by' = 0 then mergedW l1 l2 l3 by' else []) = Lr := ⟨_, rfl⟩
  obtain ⟨er, her⟩ : ∃ er, mergedE l1 l2 l3 by' = er := ⟨_, rfl⟩
  have HLR := Lib.hid hLr
  have HER := Lib.hid her
  rw [hLr, her]
  clear hLr her
  refine (callsIn_wide (n := 8)).1 ?_
  refine callsIn_of_wp_marks Try.func45 rfl trivial ?_ rfl
  simp only [Try.ntmps45, List.size_toArray, List.length_cons, List.length_nil, Nat.reduceAdd, Nat.reduceSub, Array.replicate_succ, Array.replicate_zero, List.push_toArray, List.append_toArray, List.nil_append, List.cons_append]
  refine wpIn_wide.2 ?_
  obtain ⟨V, hV⟩ : ∃ V, (((w.alloc (.cells #[.slice A n c] 34)).alloc (.cells #[.slice none 0 0] 24)).alloc (.cells #[.int .i64 0] 31)).alloc (.cells #[.slice none 0 0] 24) = V := ⟨_, rfl⟩
  have FV : Hid (FvM w A n c V) := Lib.hid (by
    rw [← hV]
    refine ⟨?_, ?_, ?_, ?_, ?_, by simp⟩
    · exact (((Boxed.new w _ _).alloc _).alloc _).alloc _
    · have h := ((Boxed.new (w.alloc (.cells #[.slice A n c] 34)) 24 (.slice none 0 0)).alloc (.cells #[.int .i64 0] 31)).alloc (.cells #[.slice none 0 0] 24)
      simpa only [World.size_alloc] using h
    · have h := (Boxed.new ((w.alloc (.cells #[.slice A n c] 34)).alloc (.cells #[.slice none 0 0] 24)) 31 (.int .i64 0)).alloc (.cells #[.slice none 0 0] 24)
      simpa only [World.size_alloc] using h
    · have h := Boxed.new (((w.alloc (.cells #[.slice A n c] 34)).alloc (.cells #[.slice none 0 0] 24)).alloc (.cells #[.int .i64 0] 31)) 24 (.slice none 0 0)
      simpa only [World.size_alloc] using h
    · exact ((((Below.refl _ _).alloc (Nat.le_refl _) _).alloc (by simp) _).alloc (by simp; omega) _).alloc (by simp; omega) _)
  have TV := Lib.hid (hT.kp (Kp3.below FV.out.bel))
  have SV := Lib.hid (hs.below FV.out.bel)
  have HF := Lib.hid hfit
  have HU := Lib.hid hup
  have HBL : Hid (n₀ ≤ w.heap.size ∧ Ba < w.heap.size ∧ Bb < w.heap.size ∧ Bc < w.heap.size) := Lib.hid ⟨hT.n0, hT.xa.lt, hT.xb.lt, hT.xc.lt⟩
  have hbl := hs.len
  have HV := Lib.hid hV
  clear hV hT hs hfit hup
  go_wp2_with fail
  rw [HV.out]
  clear HV
  refine wpIn_wide.1 (wpIn_rangeFunc_foll (n := 8) (gf := 60) (lb := #[.pointer (some ⟨Ba, 0, none⟩), .pointer (some ⟨Bb, 0, none⟩), .pointer (some ⟨Bc, 0, none⟩)]) rfl (enters_of Try.func60 (by kernel_rfl) rfl)
    (places_foll 7 (by omega) TV.out hm1 hm2 hm3) (fun h k => h.trans k) ?keep (Below.refl _ _) (fun _ => rfl)
    (fun pre W => (∃ v, Mg V (fun b => b = w.heap.size + 1 + 1 + 1 ∨ b = w.heap.size) (w.heap.size + 1 + 1 + 1) 24 70 2 v (madeM by' pre).length ((madeM by' pre).flatMap Rw.cells) W) ∧ (madeM by' pre).length ≤ 32 ∧ ∃ As cs, Boxed W w.heap.size 34 (.slice As (n - (cfs pre).length) cs) ∧ SqC V w.heap.size As (n - (cfs pre).length) cs (by'.drop (cfs pre).length))
    (fun c pre W => c = .ret ∧ 32 < (madeM by' pre).length ∧ Boxed W (w.heap.size + 1) 24 (.slice none 0 0) ∧ Boxed W (w.heap.size + 1 + 1) 31 (.int .i64 6) ∧ Mv (fun x => w.heap.size ≤ x) V W)
    (fun s W W' row hs hg hr => ⟨hs.1.imp fun v h => h.turn hg hr, hs.2.1, hs.2.2.imp fun As h => h.imp fun cs h => ⟨h.1.kept hg (fun e => by have := (hr _ e.symm).1; have := FV.out.sz; omega), h.2⟩⟩)
    (fun c s W W' row hs hg hr => ?ownx) ?h0
    (fun x a' W => ∃ B, Bx V B x W ∧ a' = { tmps := #[.func (.func 60) #[] #[.pointer (some ⟨Ba, 0, none⟩), .pointer (some ⟨Bb, 0, none⟩), .pointer (some ⟨Bc, 0, none⟩)], .slice A n c, undef, .pointer (some ⟨w.heap.size, 0, none⟩), .pointer (some ⟨w.heap.size + 1, 0, none⟩), .pointer (some ⟨w.heap.size + 1 + 1, 0, none⟩), .pointer (some ⟨w.heap.size + 1 + 1 + 1, 0, none⟩), .pointer (some ⟨B, 0, none⟩), undef, .func (.func 60) #[] #[.pointer (some ⟨Ba, 0, none⟩), .pointer (some ⟨Bb, 0, none⟩), .pointer (some ⟨Bc, 0, none⟩)], plV x, undef, undef, undef, undef, undef, undef, undef, undef, undef, undef, undef, undef, undef, undef, undef, undef, undef, undef, undef, undef, undef, undef, undef, undef, undef, undef, undef, undef, undef, undef, undef, undef, undef, undef], defers := [] })
    ?hax ?assign ?body ?done ?stop)
  case keep =>
    intro W k o o' hk ho hc hw
    obtain ⟨g0, g1, g2, g3⟩ := HBL.out
    have g4 := FV.out.sz
    refine ⟨Mv.of_grown (grownBy_putObj' W k o') (fun g e => by cases e; exact .inl ⟨by omega, by omega, by omega, by omega⟩), fun j cs fr hj => ?_⟩
    refine ((grownBy_putObj' W k o').block j (Array.getElem?_eq_some_iff.1 hj).1 (fun e => ?_)).trans hj
    injection e with e
    subst e
    rw [ho] at hj
    cases hj
    cases hc
  case ownx =>
    have g4 := FV.out.sz
    exact ⟨hs.1, hs.2.1, hs.2.2.1.kept hg (fun e => by have := (hr _ e.symm).1; omega), hs.2.2.2.1.kept hg (fun e => by have := (hr _ e.symm).1; omega), hs.2.2.2.2.then (S' := fun x => V.heap.size ≤ x) (Mv.of_grown hg fun g e => .inl (hr g e).1) (fun x hx => .inr hx)⟩
  case h0 =>
    have g4 := FV.out.sz
    exact ⟨⟨.slice none 0 0, FV.out.m, World.ownsRow_nil _ _ _ _, Mv.refl _ _, .inl rfl, fun x hx => by rcases hx with rfl | rfl <;> omega⟩, Nat.zero_le _, A, c, FV.out.s, SV.out⟩
  case hax =>
    intro x a' _ W W' row hs hg hr
    obtain ⟨B, hB, ha⟩ := hs
    exact ⟨B, Bx.own V B x () W W' row hB hg hr, ha⟩
  case assign =>
    rintro lp pre x W K hi hK
    have HI := Lib.hid hi
    have hsz := hi.1.elim fun v h => h.mv.size
    clear hi
    gi_wp2
    have hb : Below W.heap.size W (W.alloc (.cells x.cells.toArray 77)) := (Below.refl _ _).alloc (Nat.le_refl _) _
    refine hK _ _ (keeps_below hb) (Kp3.below hb) ⟨HI.out.1.imp fun v h => h.below hb, HI.out.2.1, HI.out.2.2.imp fun As h => h.imp fun cs h => ⟨h.1.alloc _, h.2⟩⟩ ⟨W.heap.size, ⟨heap_alloc_new W _, hsz⟩, rfl⟩
  case body =>
    rintro lp pre x a' W ⟨⟨v, hmg⟩, hlen, As, cs, hsb, hsq⟩ ⟨B, hbx, rfl⟩ hpr
    obtain ⟨Av, cv, hv⟩ := own_shape hmg.own
    subst v
    have HMG := Lib.hid hmg
    have HBX := Lib.hid hbx
    have HSB := Lib.hid hsb
    have HSQ := Lib.hid hsq
    have HPR := Lib.hid hpr
    have hfn1 : Fence.wide.fn 38 := trivial
    have hfn2 : Fence.wide.fn 69 := trivial
    have q0 := hbx.cell (j := 0) rfl
    have q1 := hbx.cell (j := 1) rfl
    have q2 := hbx.cell (j := 2) rfl
    have q3 := hbx.cell (j := 3) rfl
    have q4 := hbx.cell (j := 4) rfl
    have q5 := hbx.cell (j := 5) rfl
    have q6 := hbx.cell (j := 6) rfl
    obtain ⟨r, hr⟩ : ∃ r, agreedW x = r := ⟨_, rfl⟩
    obtain ⟨cx, hcx⟩ : ∃ cx, conflW x = cx := ⟨_, rfl⟩
    have hag := agreed_any x W
    rw [hr] at hag
    have HAG := Lib.hid hag
    have HR := Lib.hid hr
    have HCX := Lib.hid hcx
    clear hmg hbx hsb hsq hpr hag hr hcx
    gi_upto_region 5 with (first | (gi_at_call 69; with_reducible refine CallsIn.mono (CallsIn.inRound lp (callsIn_wide.2 HAG.out)) ?_; rintro e w5 ⟨rfl, hb5⟩; have BW5 := Lib.hid hb5; clear hb5) | fail)
    obtain ⟨w6, hw6⟩ : ∃ w6, w5.alloc (.cells #[.bool r.is, .string r.t] 41) = w6 := ⟨_, rfl⟩
    have BW6 := Lib.hid (show Below W.heap.size W w6 by rw [← hw6]; exact BW5.out.alloc BW5.out.size _)
    have HC6 : Hid (w6.heap[w5.heap.size]? = some (Obj.cells #[.bool r.is, .string r.t] 41 (0, 0))) := Lib.hid (by rw [← hw6]; exact heap_alloc_new w5 _)
    have HGE : Hid (V.heap.size ≤ w5.heap.size) := Lib.hid (Nat.le_trans HMG.out.mv.size BW5.out.size)
    rw [hw6]
    clear hw6
    obtain ⟨Hb, hHb⟩ : ∃ Hb, w5.heap.size = Hb := ⟨_, rfl⟩
    rw [hHb] at HC6 HGE ⊢
    clear hHb q0 q1 q2 q3 q4 q5 q6
    have BX6 := Lib.hid (HBX.out.below BW6.out)
    have z0 := BX6.out.cell (j := 0) rfl
    have z1 := BX6.out.cell (j := 1) rfl
    have z2 := BX6.out.cell (j := 2) rfl
    have z3 := BX6.out.cell (j := 3) rfl
    have z4 := BX6.out.cell (j := 4) rfl
    have z5 := BX6.out.cell (j := 5) rfl
    have z6 := BX6.out.cell (j := 6) rfl
    have hct := conflicts_any x w6
    rw [HCX.out] at hct
    have HCT := Lib.hid hct
    clear hct
    cases cx
    · have HPI := Lib.hid (show pieceM by' x = if r.is then [⟨x.p, r.t⟩] else [] by unfold pieceM hasM; rw [HCX.out, HR.out]; rfl)
      have hcf : cfs (pre ++ [x]) = cfs pre := by rw [cfs_snoc, HCX.out]; simp
      have HCF := Lib.hid hcf
      clear hcf
      gi_upto_region 8 with (first | (gi_at_call 38; with_reducible refine CallsIn.mono (CallsIn.inRound lp (callsIn_wide.2 HCT.out)) ?_; rintro e wz ⟨rfl, hb7⟩; have B67 := Lib.hid hb7; clear hb7) | fail)
      have BWZ := Lib.hid (BW6.out.trans (B67.out.mono BW6.out.size))
      have KF := Lib.hid (keeps_below (B := V.heap.size) BWZ.out)
      have KP := Lib.hid (Kp3.below (n₀ := n₀) (Ba := Ba) (Bb := Bb) (Bc := Bc) BWZ.out)
      have MG := Lib.hid (HMG.out.below BWZ.out)
      have BX := Lib.hid (HBX.out.below BWZ.out)
      have HC : Hid (wz.heap[Hb]? = some (Obj.cells #[.bool r.is, .string r.t] 41 (0, 0))) := Lib.hid (by rw [B67.out.block _ (Array.getElem?_eq_some_iff.1 HC6.out).1]; exact HC6.out)
      have SB : Hid (∃ As' cs', Boxed wz w.heap.size 34 (.slice As' (n - (cfs (pre ++ [x])).length) cs') ∧ SqC V w.heap.size As' (n - (cfs (pre ++ [x])).length) cs' (by'.drop (cfs (pre ++ [x])).length)) := Lib.hid (by rw [HCF.out]; exact ⟨As, cs, (BWZ.out.block _ HSB.out.lt).trans HSB.out, HSQ.out⟩)
      obtain ⟨ri, rt⟩ := r
      simp only at HPI HC
      clear z0 z1 z2 z3 z4 z5 z6
      cases ri
      · have HPN := Lib.hid (show madeM by' (pre ++ [x]) = madeM by' pre by rw [madeM_snoc, HPI.out]; simp)
        have h0 : wz.cell? ⟨Hb, 0, none⟩ = some (.bool false) := hb_cell HC.out (j := 0) rfl
        gi_wp2
        exact ⟨KF.out, KP.out, ⟨.slice Av (madeM by' pre).length cv, by rw [HPN.out]; exact MG.out⟩, by rw [HPN.out]; exact hlen, SB.out⟩
      · obtain ⟨rr, hrr⟩ : ∃ rr : Rw, rr = ⟨x.p, rt⟩ := ⟨_, rfl⟩
        have HPN := Lib.hid (show madeM by' (pre ++ [x]) = madeM by' pre ++ [rr] by rw [madeM_snoc, HPI.out, hrr]; simp)
        have h0 : wz.cell? ⟨Hb, 0, none⟩ = some (.bool true) := hb_cell HC.out (j := 0) rfl
        have h1 : wz.cell? ⟨Hb, 1, none⟩ = some (.string rt) := hb_cell HC.out (j := 1) rfl
        have p0 : wz.cell? ⟨B, 0, none⟩ = some (.string x.p) := BX.out.cell (j := 0) rfl
        have m0 := MG.out.bx.cell
        have m1 := MG.out.bx.frozen
        have B4 : Hid (Boxed wz (w.heap.size + 1) 24 (.slice none 0 0)) := Lib.hid ((MG.out.mv.block _ FV.out.r4.lt (fun e => by rcases e with e | e <;> omega)).trans FV.out.r4)
        have B5 : Hid (Boxed wz (w.heap.size + 1 + 1) 31 (.int .i64 0)) := Lib.hid ((MG.out.mv.block _ FV.out.r5.lt (fun e => by rcases e with e | e <;> omega)).trans FV.out.r5)
        by_cases h32 : (madeM by' pre).length = 32
        · have d32 : (((madeM by' pre).length : Int) == 32) = true := by simp; omega
          have z4 := B4.out.cell
          have u4 := B4.out.frozen
          have z5 := B5.out.cell
          have u5 := B5.out.frozen
          gi_wp2
          have E4 := (B4.out.set (.slice none 0 0)).kept (grownBy_setCell' _ (w.heap.size + 1 + 1) (.int .i64 6)) (by simp)
          have E5 := (B5.out.kept (grownBy_setCell' _ (w.heap.size + 1) (.slice none 0 0)) (by simp)).set (.int .i64 6)
          refine ⟨KF.out.trans (((KeepsOthers.setCell _ _ _).from _).trans ((KeepsOthers.setCell _ _ _).from _)), rfl, by rw [HPN.out, List.length_append]; simp; omega, E4, E5, ?_⟩
          exact ((MG.out.mv.mono (S' := fun x => w.heap.size ≤ x) fun b hb => .inl (by rcases hb with e | e <;> omega)).set_ (p := ⟨w.heap.size + 1, 0, none⟩) (.inl (by show w.heap.size ≤ w.heap.size + 1; omega)) _).set_ (p := ⟨w.heap.size + 1 + 1, 0, none⟩) (.inl (by show w.heap.size ≤ w.heap.size + 1 + 1; omega)) _
        · have d32 : (((madeM by' pre).length : Int) == 32) = false := by simp; omega
          obtain ⟨i0, hi, hz, hz1, hz2⟩ := info_parts info_row
          subst rr
          have hone := fun w' => one_row ⟨x.p, rt⟩ w'
          gi_wp2_with (first
            | (gi_at_builtin; refine wpListIn_append_own (wz.alloc (.cells (Rw.cells ⟨x.p, rt⟩).toArray 70)) rfl _ _ 22 rfl V.heap.size 70 i0 _ 2 32 Try.underlying22 hi hz hz1 hz2 rfl (by omega) (.slice Av (madeM by' pre).length cv) (madeM by' pre).length ((madeM by' pre).flatMap Rw.cells) rfl (MG.out.own.alloc _) ⟨wz.heap.size, 0, none⟩ 1 1 (Rw.cells ⟨x.p, rt⟩) rfl rfl (World.news_of_block (heap_alloc_new wz _)) (by intro u hu; exact rw_one [⟨x.p, rt⟩] u (by simpa using hu)) (by unfold maxLen; omega) (by omega) (by have := MG.out.mv.size; simp; omega) ?_; intro v' w1 hown5 hg5 hni5; obtain ⟨A5, c5, hv5⟩ := own_shape hown5; subst v'; have APP := Lib.hid (MG.out.app (W := wz) (tmp := .cells (Rw.cells ⟨x.p, rt⟩).toArray 70) hown5 hg5); have STR := Lib.hid (MG.out.app_str (by decide) (by decide) hg5 (.slice A5 ((madeM by' pre).length + 1) c5)); have SBK := Lib.hid (fun As' m' cs' (hq : Boxed wz w.heap.size 34 (.slice As' m' cs')) => (show Boxed (w1.setCell ⟨w.heap.size + 1 + 1 + 1, 0, none⟩ (.slice A5 ((madeM by' pre).length + 1) c5)) w.heap.size 34 (.slice As' m' cs') from (((hq.alloc _).kept hg5 (fun e => by have := MG.out.own_ge e.symm; have := FV.out.sz; omega)).kept (grownBy_setCell' _ (w.heap.size + 1 + 1 + 1) _) (by simp; omega)))); have x0 := APP.out.1.cell; have x1 := APP.out.1.frozen; clear hown5 hg5 hni5)
            | fail)
          refine ⟨KF.out.trans APP.out.2.2.1, KP.out.trans ⟨APP.out.2.2.2.mono fun b hb => .inl ?_, STR.out⟩, ⟨.slice A5 ((madeM by' pre).length + 1) c5, ?_⟩, by rw [HPN.out, List.length_append]; simp; omega, ?_⟩
          · obtain ⟨g0, g1, g2, g3⟩ := HBL.out
            have g4 := FV.out.sz
            rcases hb with rfl | hb
            · exact ⟨by omega, by omega, by omega, by omega⟩
            · exact ⟨by omega, by omega, by omega, by omega⟩
          · rw [HPN.out, List.length_append, List.flatMap_append]
            simpa using APP.out.2.1
          · obtain ⟨As', cs', hq1, hq2⟩ := SB.out
            exact ⟨As', cs', SBK.out _ _ _ hq1, hq2⟩
    · obtain ⟨ch, rest, hd1, hd2, hcp, hcm⟩ := said_next HPR.out HCX.out HF.out
      have hfd : findW Ch.p by' x.p = some ch := by rw [← hcp]; exact findW_self HU.out hcm
      have HPI := Lib.hid (show pieceM by' x = if ch.is then [⟨x.p, ch.t⟩] else [] by unfold pieceM hasM; rw [HCX.out, hfd]; rfl)
      have hcf : (cfs (pre ++ [x])).length = (cfs pre).length + 1 := by rw [cfs_snoc, HCX.out]; simp
      have HCF := Lib.hid hcf
      have hsq := HSQ.out
      rw [hd1] at hsq
      obtain ⟨m1, hm1'⟩ : ∃ m1, n - (cfs pre).length = m1 + 1 := ⟨rest.length, by have := hsq.len; simpa using this.symm⟩
      rw [hm1'] at hsq
      have hsb := HSB.out
      rw [hm1'] at hsb
      have HSQ1 := Lib.hid hsq
      have HSB1 := Lib.hid hsb
      have HD2 := Lib.hid hd2
      have HM1 := Lib.hid hm1'
      obtain ⟨b, o, hAs, hbl, hrg⟩ := hsq.pos (by omega)
      subst As
      rw [List.flatMap_cons, rangeAt_app] at hrg
      obtain ⟨cp, ci, ct⟩ := ch
      have HRG := Lib.hid hrg.1
      clear hd1 hd2 hcp hcm hfd hcf hsq hsb hm1' hrg
      simp only at HPI
      gi_upto_region 6 with (first | (gi_at_call 38; with_reducible refine CallsIn.mono (CallsIn.inRound lp (callsIn_wide.2 HCT.out)) ?_; rintro e w7 ⟨rfl, hb7⟩; have B67 := Lib.hid hb7; clear hb7) | fail)
      clear z0 z1 z2 z3 z4 z5 z6
      have BW7 := Lib.hid (BW6.out.trans (B67.out.mono BW6.out.size))
      have MG7 := Lib.hid (HMG.out.below BW7.out)
      have BX7 := Lib.hid (HBX.out.below BW7.out)
      have HC7 : Hid (w7.heap[Hb]? = some (Obj.cells #[.bool r.is, .string r.t] 41 (0, 0))) := Lib.hid (by rw [B67.out.block _ (Array.getElem?_eq_some_iff.1 HC6.out).1]; exact HC6.out)
      have SB7 : Hid (Boxed w7 w.heap.size 34 (.slice (some ⟨b, o, none⟩) (m1 + 1) cs)) := Lib.hid ((BW7.out.block _ HSB1.out.lt).trans HSB1.out)
      have hbT : ¬ (b = w.heap.size + 1 + 1 + 1 ∨ b = w.heap.size) := by omega
      have s0 := SB7.out.cell
      have e1 : w7.cell? ⟨b, o + 1, none⟩ = some (.bool ci) := MG7.out.mv.cell (HRG.out 1 _ rfl) hbT
      have e2 : w7.cell? ⟨b, o + 2, none⟩ = some (.string ct) := MG7.out.mv.cell (HRG.out 2 _ rfl) hbT
      have hp1 : (0 : Int) < (m1 : Int) + 1 := by omega
      refine wpIn_region_bar 9 9 (fun w' => w'.cell? ⟨w.heap.size, 0, none⟩ = some (.slice (some ⟨b, o, none⟩) (m1 + 1) cs) ∧ w'.cell? ⟨b, o + 1, none⟩ = some (.bool ci) ∧ w'.cell? ⟨b, o + 2, none⟩ = some (.string ct)) (by kernel_rfl) (by kernel_rfl) (by kernel_rfl) ⟨s0, e1, e2⟩ ?_
      simp only [List.take_succ_cons, List.take_zero, List.drop_succ_cons, List.drop_zero, List.take_nil, List.drop_nil]
      refine ⟨_, .inl ⟨rfl, fun w' hw' => (by obtain ⟨h1, h2, h3⟩ := hw'; go_simp; (try rfl))⟩, ?_⟩
      refine ⟨_, .inl ⟨rfl, fun w' hw' => (by obtain ⟨h1, h2, h3⟩ := hw'; go_simp; (try rfl))⟩, ?_⟩
      refine ⟨_, .inl ⟨rfl, fun w' hw' => (by obtain ⟨h1, h2, h3⟩ := hw'; go_simp; (try rfl))⟩, ?_⟩
      refine ⟨_, .inl ⟨rfl, fun w' hw' => (by obtain ⟨h1, h2, h3⟩ := hw'; go_simp; (try rfl))⟩, ?_⟩
      refine ⟨_, .inl ⟨rfl, fun w' hw' => (by obtain ⟨h1, h2, h3⟩ := hw'; go_simp; (try rfl))⟩, ?_⟩
      refine ⟨_, .inl ⟨rfl, fun w' hw' => (by obtain ⟨h1, h2, h3⟩ := hw'; go_simp; (try rfl))⟩, ?_⟩
      refine ⟨_, .inl ⟨rfl, fun w' hw' => (by obtain ⟨h1, h2, h3⟩ := hw'; go_simp; (try rfl))⟩, ?_⟩
      refine ⟨_, .inl ⟨rfl, fun w' hw' => (by obtain ⟨h1, h2, h3⟩ := hw'; go_simp; (try rfl))⟩, ?_⟩
      refine ⟨_, .inl ⟨rfl, fun w' hw' => (by obtain ⟨h1, h2, h3⟩ := hw'; go_simp; (try rfl))⟩, ?_⟩
      rw [wpHead_nil, wpMid_nil]
      simp only [Act.put, List.setIfInBounds_toArray, List.set_cons_succ, List.set_cons_zero]
      have y0 : w7.cell? ⟨Hb, 0, none⟩ = some (.bool r.is) := hb_cell HC7.out (j := 0) rfl
      have y1 : w7.cell? ⟨Hb, 1, none⟩ = some (.string r.t) := hb_cell HC7.out (j := 1) rfl
      have f0 := hb_free (j := 0) HC7.out
      have f1 := hb_free (j := 1) HC7.out
      go_wp2
      refine Calm.normal ?_
      obtain ⟨w8, hw8⟩ : ∃ w8, ((w7.setCell ⟨Hb, 0, none⟩ (.bool ci)).setCell ⟨Hb, 1, none⟩ (.string ct)).drew = w8 := ⟨_, rfl⟩
      have ge := HGE.out
      have g4 := FV.out.sz
      have hne := MG7.out.own_ne HC7.out (by decide)
      have MG8 : Hid (Mg V (fun b => b = w.heap.size + 1 + 1 + 1 ∨ b = w.heap.size) (w.heap.size + 1 + 1 + 1) 24 70 2 (.slice Av (madeM by' pre).length cv) (madeM by' pre).length ((madeM by' pre).flatMap Rw.cells) w8) := Lib.hid (by
        rw [← hw8]
        exact ((MG7.out.other (.inr ⟨ge, hne⟩) (by omega) 0 (.bool ci)).other (.inr ⟨ge, hne⟩) (by omega) 1 (.string ct)).below ((Below.refl _ _).drew))
      have SB8 : Hid (Boxed w8 w.heap.size 34 (.slice (some ⟨b, o, none⟩) (m1 + 1) cs)) := Lib.hid (by
        rw [← hw8]
        exact ((Below.heap_setCell _ ⟨Hb, 1, none⟩ _ _ (by show w.heap.size ≠ Hb; omega)).trans ((Below.heap_setCell w7 ⟨Hb, 0, none⟩ _ _ (by show w.heap.size ≠ Hb; omega)).trans SB7.out)))
      have HC8 : Hid (w8.heap[Hb]? = some (Obj.cells #[.bool ci, .string ct] 41 (0, 0))) := Lib.hid (by rw [← hw8]; exact hb_set HC7.out _ _)
      have BX8 : Hid (Bx V B x w8) := Lib.hid (by
        rw [← hw8]
        refine ⟨(Below.heap_setCell _ ⟨Hb, 1, none⟩ _ _ ?_).trans ((Below.heap_setCell w7 ⟨Hb, 0, none⟩ _ _ ?_).trans BX7.out.blk), BX7.out.ge⟩ <;>
        · show B ≠ Hb
          intro e
          have h1 := BX7.out.blk
          rw [e, HC7.out] at h1
          injection h1 with h1
          injection h1 with _ h2
          cases h2)
      have KF8 : Hid (KeepsFrom V.heap.size W w8) := Lib.hid (by
        rw [← hw8]
        exact (keeps_below BW7.out).trans ((((KeepsOthers.setCell _ _ _).from _).trans ((KeepsOthers.setCell _ _ _).from _)).trans (keeps_below (Below.refl _ _).drew)))
      have KP8 : Hid (Kp3 n₀ Ba Bb Bc W w8) := Lib.hid (by
        obtain ⟨g0, g1, g2, g3⟩ := HBL.out
        rw [← hw8]
        refine (Kp3.below BW7.out).trans (Kp3.trans (W' := (w7.setCell ⟨Hb, 0, none⟩ (.bool ci)).setCell ⟨Hb, 1, none⟩ (.string ct)) ⟨((Mv.refl _ _).set_ (p := ⟨Hb, 0, none⟩) (.inl ⟨by show n₀ ≤ Hb; omega, by show Hb ≠ Ba; omega, by show Hb ≠ Bb; omega, by show Hb ≠ Bc; omega⟩) _).set_ (p := ⟨Hb, 1, none⟩) (.inl ⟨by show n₀ ≤ Hb; omega, by show Hb ≠ Ba; omega, by show Hb ≠ Bb; omega, by show Hb ≠ Bc; omega⟩) _, ?_⟩ (Kp3.below (Below.refl _ _).drew))
        intro j c fr hj
        exact set_str (hb_set1 HC7.out _) (by decide) 1 (.string ct) j c fr (set_str HC7.out (by decide) 0 (.bool ci) j c fr hj))
      rw [hw8]
      clear hw8 s0 e1 e2 y0 y1 f0 f1 hne
      have s0 := SB8.out.cell
      have s1 := SB8.out.frozen
      have hsl := fun w' => slice_one (some ⟨b, o, none⟩) m1 cs (by have := HSQ1.out.cap; omega) w'
      obtain ⟨At, hAt⟩ : ∃ At, tlA (some ⟨b, o, none⟩) cs = At := ⟨_, rfl⟩
      obtain ⟨ct', hct'⟩ : ∃ ct', cs - 1 = ct' := ⟨_, rfl⟩
      have HTL := Lib.hid (by have T := sq_tail HSQ1.out; rw [hAt, hct'] at T; exact T : SqC V w.heap.size At m1 ct' rest)
      rw [hAt, hct'] at hsl
      clear hAt hct'
      gi_upto_region 8 with fail
      obtain ⟨wz, hwz⟩ : ∃ wz, w8.setCell ⟨w.heap.size, 0, none⟩ (.slice At m1 ct') = wz := ⟨_, rfl⟩
      have MG : Hid (Mg V (fun b => b = w.heap.size + 1 + 1 + 1 ∨ b = w.heap.size) (w.heap.size + 1 + 1 + 1) 24 70 2 (.slice Av (madeM by' pre).length cv) (madeM by' pre).length ((madeM by' pre).flatMap Rw.cells) wz) := Lib.hid (by
        rw [← hwz]
        exact MG8.out.other (.inl (.inr rfl)) (by omega) 0 _)
      have HC : Hid (wz.heap[Hb]? = some (Obj.cells #[.bool ci, .string ct] 41 (0, 0))) := Lib.hid (by rw [← hwz]; exact (Below.heap_setCell w8 ⟨w.heap.size, 0, none⟩ _ _ (by show Hb ≠ w.heap.size; omega)).trans HC8.out)
      have BX : Hid (Bx V B x wz) := Lib.hid (by rw [← hwz]; exact ⟨(Below.heap_setCell w8 ⟨w.heap.size, 0, none⟩ _ _ (by show B ≠ w.heap.size; have := BX8.out.ge; omega)).trans BX8.out.blk, BX8.out.ge⟩)
      have KF : Hid (KeepsFrom V.heap.size W wz) := Lib.hid (by rw [← hwz]; exact KF8.out.trans ((KeepsOthers.setCell _ _ _).from _))
      have KP : Hid (Kp3 n₀ Ba Bb Bc W wz) := Lib.hid (by
        obtain ⟨g0, g1, g2, g3⟩ := HBL.out
        rw [← hwz]
        exact KP8.out.trans ⟨(Mv.refl _ _).set_ (p := ⟨w.heap.size, 0, none⟩) (.inl ⟨by show n₀ ≤ w.heap.size; omega, by show w.heap.size ≠ Ba; omega, by show w.heap.size ≠ Bb; omega, by show w.heap.size ≠ Bc; omega⟩) _, set_str SB8.out (by decide) 0 _⟩)
      have SB : Hid (∃ As' cs', Boxed wz w.heap.size 34 (.slice As' (n - (cfs (pre ++ [x])).length) cs') ∧ SqC V w.heap.size As' (n - (cfs (pre ++ [x])).length) cs' (by'.drop (cfs (pre ++ [x])).length)) := Lib.hid (by
        have hh := HM1.out
        rw [HCF.out, HD2.out, show n - ((cfs pre).length + 1) = m1 by omega, ← hwz]
        exact ⟨At, ct', SB8.out.set _, HTL.out⟩)
      rw [hwz]
      clear hwz s0 s1 hsl hp1 hbT ge g4
      obtain ⟨ri, hri⟩ : ∃ ri, ri = ci := ⟨_, rfl⟩
      subst hri
      obtain ⟨rt, hrt⟩ : ∃ rt, rt = ct := ⟨_, rfl⟩
      subst hrt
      cases ri
      · have HPN := Lib.hid (show madeM by' (pre ++ [x]) = madeM by' pre by rw [madeM_snoc, HPI.out]; simp)
        have h0 : wz.cell? ⟨Hb, 0, none⟩ = some (.bool false) := hb_cell HC.out (j := 0) rfl
        gi_wp2
        exact ⟨KF.out, KP.out, ⟨.slice Av (madeM by' pre).length cv, by rw [HPN.out]; exact MG.out⟩, by rw [HPN.out]; exact hlen, SB.out⟩
      · obtain ⟨rr, hrr⟩ : ∃ rr : Rw, rr = ⟨x.p, rt⟩ := ⟨_, rfl⟩
        have HPN := Lib.hid (show madeM by' (pre ++ [x]) = madeM by' pre ++ [rr] by rw [madeM_snoc, HPI.out, hrr]; simp)
        have h0 : wz.cell? ⟨Hb, 0, none⟩ = some (.bool true) := hb_cell HC.out (j := 0) rfl
        have h1 : wz.cell? ⟨Hb, 1, none⟩ = some (.string rt) := hb_cell HC.out (j := 1) rfl
        have p0 : wz.cell? ⟨B, 0, none⟩ = some (.string x.p) := BX.out.cell (j := 0) rfl
        have m0 := MG.out.bx.cell
        have m1 := MG.out.bx.frozen
        have B4 : Hid (Boxed wz (w.heap.size + 1) 24 (.slice none 0 0)) := Lib.hid ((MG.out.mv.block _ FV.out.r4.lt (fun e => by rcases e with e | e <;> omega)).trans FV.out.r4)
        have B5 : Hid (Boxed wz (w.heap.size + 1 + 1) 31 (.int .i64 0)) := Lib.hid ((MG.out.mv.block _ FV.out.r5.lt (fun e => by rcases e with e | e <;> omega)).trans FV.out.r5)
        by_cases h32 : (madeM by' pre).length = 32
        · have d32 : (((madeM by' pre).length : Int) == 32) = true := by simp; omega
          have z4 := B4.out.cell
          have u4 := B4.out.frozen
          have z5 := B5.out.cell
          have u5 := B5.out.frozen
          gi_wp2
          have E4 := (B4.out.set (.slice none 0 0)).kept (grownBy_setCell' _ (w.heap.size + 1 + 1) (.int .i64 6)) (by simp)
          have E5 := (B5.out.kept (grownBy_setCell' _ (w.heap.size + 1) (.slice none 0 0)) (by simp)).set (.int .i64 6)
          refine ⟨KF.out.trans (((KeepsOthers.setCell _ _ _).from _).trans ((KeepsOthers.setCell _ _ _).from _)), rfl, by rw [HPN.out, List.length_append]; simp; omega, E4, E5, ?_⟩
          exact ((MG.out.mv.mono (S' := fun x => w.heap.size ≤ x) fun b hb => .inl (by rcases hb with e | e <;> omega)).set_ (p := ⟨w.heap.size + 1, 0, none⟩) (.inl (by show w.heap.size ≤ w.heap.size + 1; omega)) _).set_ (p := ⟨w.heap.size + 1 + 1, 0, none⟩) (.inl (by show w.heap.size ≤ w.heap.size + 1 + 1; omega)) _
        · have d32 : (((madeM by' pre).length : Int) == 32) = false := by simp; omega
          obtain ⟨i0, hi, hz, hz1, hz2⟩ := info_parts info_row
          subst rr
          have hone := fun w' => one_row ⟨x.p, rt⟩ w'
          gi_wp2_with (first
            | (gi_at_builtin; refine wpListIn_append_own (wz.alloc (.cells (Rw.cells ⟨x.p, rt⟩).toArray 70)) rfl _ _ 22 rfl V.heap.size 70 i0 _ 2 32 Try.underlying22 hi hz hz1 hz2 rfl (by omega) (.slice Av (madeM by' pre).length cv) (madeM by' pre).length ((madeM by' pre).flatMap Rw.cells) rfl (MG.out.own.alloc _) ⟨wz.heap.size, 0, none⟩ 1 1 (Rw.cells ⟨x.p, rt⟩) rfl rfl (World.news_of_block (heap_alloc_new wz _)) (by intro u hu; exact rw_one [⟨x.p, rt⟩] u (by simpa using hu)) (by unfold maxLen; omega) (by omega) (by have := MG.out.mv.size; simp; omega) ?_; intro v' w1 hown5 hg5 hni5; obtain ⟨A5, c5, hv5⟩ := own_shape hown5; subst v'; have APP := Lib.hid (MG.out.app (W := wz) (tmp := .cells (Rw.cells ⟨x.p, rt⟩).toArray 70) hown5 hg5); have STR := Lib.hid (MG.out.app_str (by decide) (by decide) hg5 (.slice A5 ((madeM by' pre).length + 1) c5)); have SBK := Lib.hid (fun As' m' cs' (hq : Boxed wz w.heap.size 34 (.slice As' m' cs')) => (show Boxed (w1.setCell ⟨w.heap.size + 1 + 1 + 1, 0, none⟩ (.slice A5 ((madeM by' pre).length + 1) c5)) w.heap.size 34 (.slice As' m' cs') from (((hq.alloc _).kept hg5 (fun e => by have := MG.out.own_ge e.symm; have := FV.out.sz; omega)).kept (grownBy_setCell' _ (w.heap.size + 1 + 1 + 1) _) (by simp; omega)))); have x0 := APP.out.1.cell; have x1 := APP.out.1.frozen; clear hown5 hg5 hni5)
            | fail)
          refine ⟨KF.out.trans APP.out.2.2.1, KP.out.trans ⟨APP.out.2.2.2.mono fun b hb => .inl ?_, STR.out⟩, ⟨.slice A5 ((madeM by' pre).length + 1) c5, ?_⟩, by rw [HPN.out, List.length_append]; simp; omega, ?_⟩
          · obtain ⟨g0, g1, g2, g3⟩ := HBL.out
            have g4 := FV.out.sz
            rcases hb with rfl | hb
            · exact ⟨by omega, by omega, by omega, by omega⟩
            · exact ⟨by omega, by omega, by omega, by omega⟩
          · rw [HPN.out, List.length_append, List.flatMap_append]
            simpa using APP.out.2.1
          · obtain ⟨As', cs', hq1, hq2⟩ := SB.out
            exact ⟨As', cs', SBK.out _ _ _ hq1, hq2⟩
  case done =>
    rintro D ys W hD rfl ⟨⟨v, hmg⟩, hlen, As, cs, hsb, hsq⟩ hK
    obtain ⟨Av, cv, hv⟩ := own_shape hmg.own
    subst v
    have e0 : er = 0 := by rw [← HER.out]; unfold mergedE; rw [if_neg]; unfold mergedW; omega
    subst e0
    have e1 : Lr = madeM by' (plsW l1 l2 l3) := by rw [← HLR.out, HER.out]; rfl
    obtain ⟨L, hL⟩ : ∃ L, madeM by' (plsW l1 l2 l3) = L := ⟨_, rfl⟩
    rw [hL] at hmg hlen e1
    subst e1
    clear hL hsb hsq
    have Y4 : Hid (Boxed W (w.heap.size + 1) 24 (.slice none 0 0)) := Lib.hid ((hmg.mv.block _ FV.out.r4.lt (fun e => by rcases e with e | e <;> omega)).trans FV.out.r4)
    have Y5 : Hid (Boxed W (w.heap.size + 1 + 1) 31 (.int .i64 0)) := Lib.hid ((hmg.mv.block _ FV.out.r5.lt (fun e => by rcases e with e | e <;> omega)).trans FV.out.r5)
    have y0 := hmg.bx.cell
    have z4 := Y4.out.cell
    have z5 := Y5.out.cell
    have u4 := Y4.out.frozen
    have u5 := Y5.out.frozen
    have HMG := Lib.hid hmg
    have HK := Lib.hid hK
    clear hmg hK
    go_wp2
    have g4 := FV.out.sz
    have hne : ∀ b, b < V.heap.size → (Value.slice Av Lr.length cv).ownBlock = none ∨ (Value.slice Av Lr.length cv).ownBlock ≠ some b := fun b hb => by
      rcases hq : (Value.slice Av Lr.length cv).ownBlock with _ | g
      · exact .inl rfl
      · exact .inr fun e => by injection e with e; have := (HMG.out.own.lt g hq).1; omega
    have o1 := HMG.out.own.kept (grownBy_setCell' W (w.heap.size + 1) (.slice Av Lr.length cv)) (hne _ (by omega))
    have o2 := o1.kept (grownBy_setCell' _ (w.heap.size + 1 + 1) (.int .i64 0)) (hne _ (by omega))
    have E5 := (Y4.out.set (.slice Av Lr.length cv)).kept (grownBy_setCell' _ (w.heap.size + 1 + 1) (.int .i64 0)) (by simp)
    have E6 := (Y5.out.kept (grownBy_setCell' _ (w.heap.size + 1) (.slice Av Lr.length cv)) (by simp)).set (.int .i64 0)
    have hK2 : ((W.setCell ⟨w.heap.size + 1, 0, none⟩ (.slice Av Lr.length cv)).setCell ⟨w.heap.size + 1 + 1, 0, none⟩ (.int .i64 0)).heap[D]? = some (.deferred (some [])) :=
      (Below.heap_setCell _ _ _ D (fun e => by have e' : D = w.heap.size + 1 + 1 := e; omega)).trans ((Below.heap_setCell _ _ _ D (fun e => by have e' : D = w.heap.size + 1 := e; omega)).trans HK.out)
    have o3 := ownsRow_putObj o2 (.deferred none) hK2 rfl
    have hmv : Mv (fun x => w.heap.size ≤ x) V _ := ((HMG.out.mv.mono (S' := fun x => w.heap.size ≤ x) fun b hb => .inl (by rcases hb with e | e <;> omega)).set_ (p := ⟨w.heap.size + 1, 0, none⟩) (.inl (by show w.heap.size ≤ w.heap.size + 1; omega)) (.slice Av Lr.length cv)).set_ (p := ⟨w.heap.size + 1 + 1, 0, none⟩) (.inl (by show w.heap.size ≤ w.heap.size + 1 + 1; omega)) (.int .i64 0)
    have hmv2 := hmv.then (S' := fun x => w.heap.size ≤ x) (Mv.of_grown (grownBy_putObj' _ D (.deferred none)) fun g e => .inl (by cases e; omega)) (fun x hx => .inl hx)
    exact ends2_Mgd _ D _ _ _ _ rfl rfl hK2 E5 E6 ⟨⟨Av, Lr.length, cv, rfl, own_sq o3 rw_sz (by omega)⟩, FV.out.bel.trans (hmv2.below (fun b hb => hb) FV.out.bel.size)⟩
  case stop =>
    rintro D c pre W hD hSp ⟨rfl, hlen, hb4, hb5, hmv⟩ hK
    have HK := Lib.hid hK
    have H4 := Lib.hid hb4
    have H5 := Lib.hid hb5
    have HM := Lib.hid hmv
    have e0 : er = 6 := by rw [← HER.out]; unfold mergedE; rw [if_pos]; unfold mergedW; exact Nat.lt_of_lt_of_le hlen (madeM_le hSp)
    subst e0
    have e1 : Lr = [] := by rw [← HLR.out, HER.out]; rfl
    subst e1
    clear hK hb4 hb5 hmv
    refine wpIn_wide.2 ?_
    go_wp2
    have g4 := FV.out.sz
    have hmv2 := HM.out.then (S' := fun x => w.heap.size ≤ x) (Mv.of_grown (grownBy_putObj' _ D (.deferred none)) fun g e => .inl (by cases e; omega)) (fun x hx => .inl hx)
    exact ends2_Mgd _ D _ _ _ _ rfl rfl HK.out H4.out H5.out ⟨⟨none, 0, 0, rfl, Sq.nil_ rw_sz⟩, FV.out.bel.trans (hmv2.below (fun b hb => hb) FV.out.bel.size)⟩
end Go.Proofs.Ytgpakahmccafdaa
