/-
  PATHMAP: Apply.
-/
import Derived.RangeFuncNested
import Derived.RangeFuncBound
import Derived.RangeFuncCalls
import Derived.RangeFuncLeaves
import Derived.RangeFuncBox
import Derived.Shelf.Abstract
import Derived.Shelf.RegionOpen
import Derived.WalkKit
import Derived.OwnWalkIn
import Derived.TacticsInMore
import Derived.LoopNIn
import Derived.LoopIn
import Derived.Deep.Cut
import Derived.Test.YtkdmlffnkomdhaaPj
namespace Go.Proofs.Ytkdmlffnkomdhaa
set_option linter.unusedVariables false
set_option linter.unusedSimpArgs false
set_option pp.deepTerms true
set_option pp.maxSteps 200000
open Go.RowKit Go.WideShapes Go.ChangeShapes Go.Deep Go.Shelf
attribute [local go_sem] Oper.semAt_some
attribute [local irreducible] wpQuiet

/-- What one round adds. -/
def partA (la : List Rw) (lb : List Ch) (x : Mi la.length lb.length) : List Rw :=
  match x.k with
  | none => (match x.i with
    | some i => [la[i]]
    | none => [])
  | some k => if lb[k].is then [⟨lb[k].p, lb[k].t⟩] else []
def madeA (la : List Rw) (lb : List Ch) (pre : List (Mi la.length lb.length)) : List Rw := pre.flatMap (partA la lb)
def applyW (la : List Rw) (lb : List Ch) : List Rw := madeA la lb (allW Rw.p Ch.p la lb)
def applyE (la : List Rw) (lb : List Ch) : Int := if rightR la = false then 150 else if rightC lb = false then 151 else if 32 < (applyW la lb).length then 6 else 0


/-- What it has laid ahead of its loop. -/
structure FvApply (w : World) (A : Option Addr) (n c : Nat) (l : List Rw) (A' : Option Addr) (n' c' : Nat) (l' : List Ch) (M Ba : Nat) (V : World) : Prop where
  b4 : Boxed V (w.heap.size + 1 + 1) 24 (.slice none 0 0)
  b5 : Boxed V (w.heap.size + 1 + 1 + 1) 31 (.int .i64 0)
  m : Boxed V M 24 (.slice none 0 0)
  o : V.cell? ⟨M + 1, 0, none⟩ = some (.int .i64 32)
  f : V.cell? ⟨M + 1 + 1, 0, none⟩ = some (.func (.func 75) #[] #[.pointer (some ⟨M + 1, 0, none⟩)])
  tb : Tb Ch.cells 3 tbLC V w.heap.size Ba (Ba + 1) A n c l A' n' c' l'
  bel : Below w.heap.size w V
  l1 : w.heap.size + 4 ≤ M
  l2 : M + 3 ≤ Ba
  l3 : Ba + 2 ≤ V.heap.size

theorem results_Apply (tmps : Array Value) (W : World) (b4 b5 : Nat) (v : Value) (k : Int) (h4 : tmps.getD 4 undef = .pointer (some ⟨b4, 0, none⟩)) (h5 : tmps.getD 5 undef = .pointer (some ⟨b5, 0, none⟩)) (x4 : W.cell? ⟨b4, 0, none⟩ = some v) (x5 : W.cell? ⟨b5, 0, none⟩ = some (.int .i64 k)) :
    (results Try.f34 tmps).run Try.prog W = .ok (.tuple #[.agg #[v], .int .i64 k]) W := by
  have h4' : tmps[4]?.getD undef = .pointer (some ⟨b4, 0, none⟩) := by simpa using h4
  have h5' : tmps[5]?.getD undef = .pointer (some ⟨b5, 0, none⟩) := by simpa using h5
  simp [results, Try.f34, go_sem, h4', h5', x4, x5]
theorem ends_Apply {W : World} {R : Ending → World → Prop} (tmps : Array Value) (b4 b5 : Nat) (v : Value) (k : Int) (h4 : tmps.getD 4 undef = .pointer (some ⟨b4, 0, none⟩)) (h5 : tmps.getD 5 undef = .pointer (some ⟨b5, 0, none⟩)) (x4 : W.cell? ⟨b4, 0, none⟩ = some v) (x5 : W.cell? ⟨b5, 0, none⟩ = some (.int .i64 k))
    (h : R (.returned (.tuple #[.agg #[v], .int .i64 k])) W) : bodyPostM Fence.wide 8 Try.prog Try.f34 R Exit.ret { tmps := tmps, defers := [] } W :=
  ⟨_, results_Apply tmps W b4 b5 v k h4 h5 x4 x5, h⟩
theorem ends2_Apply {W : World} {R : Ending → World → Prop} (tmps : Array Value) (D b4 b5 : Nat) (v : Value) (k : Int) {t4 t5 : TypeId} (h4 : tmps.getD 4 undef = .pointer (some ⟨b4, 0, none⟩)) (h5 : tmps.getD 5 undef = .pointer (some ⟨b5, 0, none⟩)) (hK : W.heap[D]? = some (.deferred (some []))) (x4 : Boxed W b4 t4 v) (x5 : Boxed W b5 t5 (.int .i64 k))
    (h : R (.returned (.tuple #[.agg #[v], .int .i64 k])) (W.putObj D (.deferred none))) : bodyPostM Fence.wide 8 Try.prog Try.f34 R Exit.ret { tmps := tmps, defers := [{ target := Target.collected D, args := #[] }] } W := by
  have y4 : Boxed (W.putObj D (.deferred none)) b4 t4 v := x4.kept (grownBy_putObj' W D _) (fun e => by injection e with e; subst e; rw [show W.heap[b4]? = _ from x4] at hK; cases hK)
  have y5 : Boxed (W.putObj D (.deferred none)) b5 t5 (.int .i64 k) := x5.kept (grownBy_putObj' W D _) (fun e => by injection e with e; subst e; rw [show W.heap[b5]? = _ from x5] at hK; cases hK)
  exact ⟨by simp, .inl ⟨D, _, rfl, run_takeDeferred hK, _, results_Apply tmps _ b4 b5 v k h4 h5 y4.cell y5.cell, h⟩⟩
theorem madeA_le {la : List Rw} {lb : List Ch} {pre all : List (Mi la.length lb.length)} (h : pre <+: all) : (madeA la lb pre).length ≤ (madeA la lb all).length := by
  obtain ⟨t, rfl⟩ := h
  unfold madeA
  rw [List.flatMap_append, List.length_append]
  omega
set_option maxRecDepth 100000 in
set_option maxHeartbeats 2000000 in
theorem Apply_any {w : World} {A : Option Addr} {n c : Nat} {l : List Rw} (h : SqR w w.heap.size A n c l) (hn : n ≤ 1000000) {A' : Option Addr} {n' c' : Nat} {l' : List Ch} (h' : SqC w w.heap.size A' n' c' l') (hn' : n' ≤ 1000000) :
    Calls Try.prog 34 #[.agg #[.slice A n c], .agg #[.slice A' n' c']] w fun en w' => ∃ A2 n2 c2, en = .returned (.tuple #[.agg #[.slice A2 n2 c2], .int .i64 (applyE l l')]) ∧ SqR w' w'.heap.size A2 n2 c2 (if applyE l l' = 0 then applyW l l' else []) ∧ Below w.heap.size w w' := by
  have HS := Lib.hid h
  have HS' := Lib.hid h'
  clear h h'
  obtain ⟨Lr, hLr⟩ : ∃ Lr, (if applyE l l' = 0 then applyW l l' else []) = Lr := ⟨_, rfl⟩
  have HLR := Lib.hid hLr
  rw [hLr]
  clear hLr
  obtain ⟨er, her⟩ : ∃ er, applyE l l' = er := ⟨_, rfl⟩
  have HER := Lib.hid her
  rw [her]
  clear her
  refine (callsIn_wide (n := 8)).1 ?_
  refine callsIn_of_wp_marks Try.func34 rfl trivial ?_ rfl
  simp only [Try.ntmps34, List.size_toArray, List.length_cons, List.length_nil, Nat.reduceAdd, Nat.reduceSub, Array.replicate_succ, Array.replicate_zero, List.push_toArray, List.append_toArray, List.nil_append, List.cons_append]
  refine wpIn_wide.2 ?_
  obtain ⟨w4, hw4⟩ : ∃ w4, ((((w.alloc (.cells #[.slice A n c] 24)).alloc (.cells #[.slice A' n' c'] 36)).alloc (.cells #[.slice none 0 0] 24)).alloc (.cells #[.int .i64 0] 31)) = w4 := ⟨_, rfl⟩
  have X0 : Hid (Lies w4 w.heap.size 1 [.slice A n c]) := Lib.hid (by rw [← hw4]; exact (((Lies.new w [.slice A n c] 24).alloc _).alloc _).alloc _)
  have X1 : Hid (Lies w4 (w.heap.size + 1) 1 [.slice A' n' c']) := Lib.hid (by
    rw [← hw4]
    have h := ((Lies.new (w.alloc (.cells #[.slice A n c] 24)) [.slice A' n' c'] 36).alloc (.cells #[.slice none 0 0] 24)).alloc (.cells #[.int .i64 0] 31)
    rwa [World.size_alloc] at h)
  have X2 : Hid (Boxed w4 (w.heap.size + 1 + 1) 24 (.slice none 0 0)) := Lib.hid (by
    rw [← hw4]
    have h := (Boxed.new ((w.alloc (.cells #[.slice A n c] 24)).alloc (.cells #[.slice A' n' c'] 36)) 24 (.slice none 0 0)).alloc (.cells #[.int .i64 0] 31)
    simpa only [World.size_alloc] using h)
  have X3 : Hid (Boxed w4 (w.heap.size + 1 + 1 + 1) 31 (.int .i64 0)) := Lib.hid (by
    rw [← hw4]
    have h := Boxed.new (((w.alloc (.cells #[.slice A n c] 24)).alloc (.cells #[.slice A' n' c'] 36)).alloc (.cells #[.slice none 0 0] 24)) 31 (.int .i64 0)
    simpa only [World.size_alloc] using h)
  have B4 : Hid (Below w.heap.size w w4 ∧ w4.heap.size = w.heap.size + 4) := Lib.hid (by
    rw [← hw4]
    exact ⟨((((Below.refl _ _).alloc (Nat.le_refl _) _).alloc (by simp) _).alloc (by simp; omega) _).alloc (by simp; omega) _, by simp⟩)
  have HW4 := Lib.hid hw4
  clear hw4
  go_upto_region 1 with fail
  rw [HW4.out]
  clear HW4
  have q0 := X0.out.cell (j := 0) rfl
  have CK := Lib.hid (Check_any ((HS.out.below B4.out.1).more B4.out.1.size) hn)
  have CE := Lib.hid (fun (w5 : World) (hb : Below w4.heap.size w4 w5) => CheckEdit_any (((HS'.out.below B4.out.1).more B4.out.1.size).below hb |>.more hb.size) hn')
  obtain ⟨ra, hra⟩ : ∃ r, rightR l = r := ⟨_, rfl⟩
  obtain ⟨rb, hrb⟩ : ∃ r, rightC l' = r := ⟨_, rfl⟩
  have HRA := Lib.hid hra
  have HRB := Lib.hid hrb
  rw [hra] at CK
  rw [hrb] at CE
  clear hra hrb
  cases ra
  · have f2 := X2.out.frozen
    have f3 := X3.out.frozen
    go_wp2_with (first | (go_at_call 30; have T := CK.out; with_reducible refine Calls.mono T ?_; clear T; rintro e w5 ⟨rfl, hb5⟩; have G5 := Lib.hid hb5; have Y2 := Lib.hid ((X2.out.kept (only_of_below hb5 none) (by simp))); have Y3 := Lib.hid ((X3.out.kept (only_of_below hb5 none) (by simp))); have q1 := (X1.out.below hb5 X1.out.lt).cell (j := 0) rfl; have c2 := Y2.out.cell; have c3 := Y3.out.cell; have f2 := Y2.out.frozen; have f3 := Y3.out.frozen; clear hb5 q0) | fail)
    have E5 := (Y2.out.set (.slice none 0 0)).kept (grownBy_setCell' _ (w.heap.size + 1 + 1 + 1) (.int .i64 150)) (by simp)
    have E6 := (Y3.out.kept (grownBy_setCell' _ (w.heap.size + 1 + 1) (.slice none 0 0)) (by simp)).set (.int .i64 150)
    have e0 : er = 150 := by rw [← HER.out]; unfold applyE; rw [HRA.out]; rfl
    have e1 : Lr = [] := by rw [← HLR.out, HER.out, e0]; rfl
    subst e0 e1
    refine ends_Apply _ _ _ _ _ rfl rfl E5.cell E6.cell ⟨none, 0, 0, rfl, Sq.nil_ rw_sz, B4.out.1.trans ?_⟩
    exact ((G5.out.mono (by have := B4.out.2; omega)).setCell (p := ⟨w.heap.size + 1 + 1, 0, none⟩) (by simp; omega) _).setCell (p := ⟨w.heap.size + 1 + 1 + 1, 0, none⟩) (by simp; omega) _
  · cases rb
    · go_wp2_with (first | (go_at_call 30; have T := CK.out; with_reducible refine Calls.mono T ?_; clear T; rintro e w5 ⟨rfl, hb5⟩; have G5 := Lib.hid hb5; have Y2 := Lib.hid ((X2.out.kept (only_of_below hb5 none) (by simp))); have Y3 := Lib.hid ((X3.out.kept (only_of_below hb5 none) (by simp))); have q1 := (X1.out.below hb5 X1.out.lt).cell (j := 0) rfl; have c2 := Y2.out.cell; have c3 := Y3.out.cell; have f2 := Y2.out.frozen; have f3 := Y3.out.frozen; clear hb5 q0) | (go_at_call 42; have T := CE.out w5 G5.out; with_reducible refine Calls.mono T ?_; clear T; rintro e w6 ⟨rfl, hb6⟩; have G6 := Lib.hid (G5.out.trans (hb6.mono G5.out.size)); have Z2 := Lib.hid ((Y2.out.kept (only_of_below hb6 none) (by simp))); have Z3 := Lib.hid ((Y3.out.kept (only_of_below hb6 none) (by simp))); clear hb6 q1 c2 c3 f2 f3; have c2 := Z2.out.cell; have c3 := Z3.out.cell; have f2 := Z2.out.frozen; have f3 := Z3.out.frozen) | fail)
      have E5 := (Z2.out.set (.slice none 0 0)).kept (grownBy_setCell' _ (w.heap.size + 1 + 1 + 1) (.int .i64 151)) (by simp)
      have E6 := (Z3.out.kept (grownBy_setCell' _ (w.heap.size + 1 + 1) (.slice none 0 0)) (by simp)).set (.int .i64 151)
      have e0 : er = 151 := by rw [← HER.out]; unfold applyE; rw [HRA.out, HRB.out]; rfl
      have e1 : Lr = [] := by rw [← HLR.out, HER.out, e0]; rfl
      subst e0 e1
      refine ends_Apply _ _ _ _ _ rfl rfl E5.cell E6.cell ⟨none, 0, 0, rfl, Sq.nil_ rw_sz, B4.out.1.trans ?_⟩
      exact ((G6.out.mono (by have := B4.out.2; omega)).setCell (p := ⟨w.heap.size + 1 + 1, 0, none⟩) (by simp; omega) _).setCell (p := ⟨w.heap.size + 1 + 1 + 1, 0, none⟩) (by simp; omega) _
    · go_upto_region 9 with (first | (go_at_call 30; have T := CK.out; with_reducible refine Calls.mono T ?_; clear T; rintro e w5 ⟨rfl, hb5⟩; have G5 := Lib.hid hb5; have Y2 := Lib.hid ((X2.out.kept (only_of_below hb5 none) (by simp))); have Y3 := Lib.hid ((X3.out.kept (only_of_below hb5 none) (by simp))); have q1 := (X1.out.below hb5 X1.out.lt).cell (j := 0) rfl; have c2 := Y2.out.cell; have c3 := Y3.out.cell; have f2 := Y2.out.frozen; have f3 := Y3.out.frozen; clear hb5 q0) | (go_at_call 42; have T := CE.out w5 G5.out; with_reducible refine Calls.mono T ?_; clear T; rintro e w6 ⟨rfl, hb6⟩; have G6 := Lib.hid (G5.out.trans (hb6.mono G5.out.size)); have Z2 := Lib.hid ((Y2.out.kept (only_of_below hb6 none) (by simp))); have Z3 := Lib.hid ((Y3.out.kept (only_of_below hb6 none) (by simp))); clear hb6 q1 c2 c3 f2 f3; have c2 := Z2.out.cell; have c3 := Z3.out.cell; have f2 := Z2.out.frozen; have f3 := Z3.out.frozen) | (go_at_call 57; refine (over_any _ _).mono ?_; rintro e w' ⟨rfl, rfl⟩) | fail)
      obtain ⟨w9, hw9⟩ : ∃ w9, ((w6.alloc (.cells #[.slice none 0 0] 24)).alloc (.cells #[.int .i64 32] 3)).alloc (.cells #[.func (.func 75) #[] #[.pointer (some ⟨w6.heap.size + 1, 0, none⟩)]] 99) = w9 := ⟨_, rfl⟩
      have B9 : Hid (Below w6.heap.size w6 w9 ∧ w9.heap.size = w6.heap.size + 3) := Lib.hid (by
        rw [← hw9]
        exact ⟨(((Below.refl _ _).alloc (Nat.le_refl _) _).alloc (by simp) _).alloc (by simp; omega) _, by simp⟩)
      have M9 : Hid (Boxed w9 w6.heap.size 24 (.slice none 0 0)) := Lib.hid (by rw [← hw9]; exact ((Boxed.new w6 _ _).alloc _).alloc _)
      have O9 : Hid (Boxed w9 (w6.heap.size + 1) 3 (.int .i64 32)) := Lib.hid (by
        rw [← hw9]
        have h := (Boxed.new (w6.alloc (.cells #[.slice none 0 0] 24)) 3 (.int .i64 32)).alloc (.cells #[.func (.func 75) #[] #[.pointer (some ⟨w6.heap.size + 1, 0, none⟩)]] 99)
        simpa only [World.size_alloc] using h)
      have F9 : Hid (Boxed w9 (w6.heap.size + 1 + 1) 99 (.func (.func 75) #[] #[.pointer (some ⟨w6.heap.size + 1, 0, none⟩)])) := Lib.hid (by
        rw [← hw9]
        have h := Boxed.new ((w6.alloc (.cells #[.slice none 0 0] 24)).alloc (.cells #[.int .i64 32] 3)) 99 (.func (.func 75) #[] #[.pointer (some ⟨w6.heap.size + 1, 0, none⟩)])
        simpa only [World.size_alloc] using h)
      rw [hw9]
      clear hw9
      have B49 := Lib.hid (G6.out.trans (B9.out.1.mono G6.out.size))
      have P0 := Lib.hid (X0.out.below B49.out X0.out.lt)
      have P1 := Lib.hid (X1.out.below B49.out X1.out.lt)
      have P2 := Lib.hid (Z2.out.kept (only_of_below B9.out.1 none) (by simp))
      have P3 := Lib.hid (Z3.out.kept (only_of_below B9.out.1 none) (by simp))
      have L6 := Lib.hid (show w.heap.size + 4 ≤ w6.heap.size from by have h1 := B4.out.2; have h2 := G6.out.size; omega)
      clear c2 c3 f2 f3
      have q0 := P0.out.cell (j := 0) rfl
      have q1 := P1.out.cell (j := 0) rfl
      go_region_held3 (fun w' => w'.cell? ⟨w.heap.size, 0, none⟩ = some (.slice A n c) ∧ w'.cell? ⟨w.heap.size + 1, 0, none⟩ = some (.slice A' n' c') ∧ Below w9.heap.size w9 w') (first | exact ⟨q0, q1, (Below.refl _ _).drew⟩ | with_reducible exact K8.out | with_reducible exact K7.out | with_reducible exact K10.out | fail)
        (first
          | (go_at_call 52; have T := texts_any A n c w9.drew; with_reducible refine Calls.mono T ?_; clear T; rintro e w7 ⟨rfl, hb7⟩; have hb8 := (show Below w9.heap.size w9 w7 from (Below.refl _ _).drew.trans (hb7.mono (show w9.heap.size ≤ w9.drew.heap.size from Nat.le_refl _))); have K7 := Lib.hid (show (fun w' => w'.cell? ⟨w.heap.size, 0, none⟩ = some (.slice A n c) ∧ w'.cell? ⟨w.heap.size + 1, 0, none⟩ = some (.slice A' n' c') ∧ Below w9.heap.size w9 w') w7 from ⟨(hb8.cell (p := ⟨w.heap.size, 0, none⟩) P0.out.lt).trans q0, (hb8.cell (p := ⟨w.heap.size + 1, 0, none⟩) P1.out.lt).trans q1, hb8⟩); clear hb7 hb8)
          | (go_at_call 59; have T := changes_any A' n' c' w7; with_reducible refine Calls.mono T ?_; clear T; rintro e w8 ⟨rfl, hb7⟩; have hb8 := (show Below w9.heap.size w9 w8 from K7.out.2.2.trans (hb7.mono K7.out.2.2.size)); have K8 := Lib.hid (show (fun w' => w'.cell? ⟨w.heap.size, 0, none⟩ = some (.slice A n c) ∧ w'.cell? ⟨w.heap.size + 1, 0, none⟩ = some (.slice A' n' c') ∧ Below w9.heap.size w9 w') w8 from ⟨(hb8.cell (p := ⟨w.heap.size, 0, none⟩) P0.out.lt).trans q0, (hb8.cell (p := ⟨w.heap.size + 1, 0, none⟩) P1.out.lt).trans q1, hb8⟩); clear hb7 hb8)
          | (go_at_call 58; have T := bothRC_any A n c A' n' c' w8; with_reducible refine Calls.mono T ?_; clear T; rintro e w10 ⟨rfl, hw10⟩; have HV10 := Lib.hid hw10; have hb8 := (show Below w9.heap.size w9 w10 from by rw [hw10]; exact (K8.out.2.2.alloc K8.out.2.2.size _).alloc (by have := K8.out.2.2.size; simp; omega) _); have K10 := Lib.hid (show (fun w' => w'.cell? ⟨w.heap.size, 0, none⟩ = some (.slice A n c) ∧ w'.cell? ⟨w.heap.size + 1, 0, none⟩ = some (.slice A' n' c') ∧ Below w9.heap.size w9 w') w10 from ⟨(hb8.cell (p := ⟨w.heap.size, 0, none⟩) P0.out.lt).trans q0, (hb8.cell (p := ⟨w.heap.size + 1, 0, none⟩) P1.out.lt).trans q1, hb8⟩); clear hw10 hb8)
          | fail)
      have FV : Hid (FvApply w A n c l A' n' c' l' w6.heap.size w8.heap.size w10) := Lib.hid (by
        have hv := HV10.out
        have hb := K10.out.2.2
        have z8 := K8.out.2.2.size
        have z9 := B9.out.2
        have l6 := L6.out
        have xa : Lies w10 w8.heap.size 2 (tbLR A n c) := by rw [hv]; exact (Lies.new w8 (tbLR A n c) 95).alloc _
        have xb : Lies w10 (w8.heap.size + 1) 2 (tbLC A' n' c') := by
          rw [hv]
          have := Lies.new (w8.alloc (.cells #[.slice A n c, .func (.func 70) #[] #[]] 95)) (tbLC A' n' c') 106
          rwa [World.size_alloc] at this
        have bel : Below w.heap.size w w10 := B4.out.1.trans ((B49.out.trans (hb.mono B49.out.size)).mono B4.out.1.size)
        refine ⟨P2.out.kept (only_of_below hb none) (by simp), P3.out.kept (only_of_below hb none) (by simp), M9.out.kept (only_of_below hb none) (by simp), (O9.out.kept (only_of_below hb none) (by simp)).cell, (F9.out.kept (only_of_below hb none) (by simp)).cell, ⟨HS.out.below bel, HS'.out.below bel, bel.size, xa, xb⟩, bel, l6, by omega, ?_⟩
        rw [hv]
        simp)
      clear K7 K8 K10 HV10 q0 q1
      obtain ⟨Ba, hBa⟩ : ∃ Ba, w8.heap.size = Ba := ⟨_, rfl⟩
      obtain ⟨M, hM⟩ : ∃ M, w6.heap.size = M := ⟨_, rfl⟩
      rw [hBa, hM] at FV
      go_wp2
      rw [hBa, hM]
      clear hBa hM
      obtain ⟨ba, oa, hba⟩ : ∃ ba oa, 0 < n → A = some ⟨ba, oa, none⟩ := by
        by_cases h0 : 0 < n
        · obtain ⟨b, o, e, _⟩ := FV.out.tb.a.pos h0
          exact ⟨b, o, fun _ => e⟩
        · exact ⟨0, 0, fun h => absurd h h0⟩
      obtain ⟨bb, ob, hbb⟩ : ∃ bb ob, 0 < n' → A' = some ⟨bb, ob, none⟩ := by
        by_cases h0 : 0 < n'
        · obtain ⟨b, o, e, _⟩ := FV.out.tb.b.pos h0
          exact ⟨b, o, fun _ => e⟩
        · exact ⟨0, 0, fun h => absurd h h0⟩
      have HBA := Lib.hid hba
      have HBB := Lib.hid hbb
      clear hba hbb G5 G6 Y2 Y3 Z2 Z3 X0 X1 X2 X3 P0 P1 P2 P3 B49 B9 M9 O9 F9 L6 B4 CK CE HS HS'
      obtain ⟨V, hV⟩ : ∃ V, w10 = V := ⟨_, rfl⟩
      rw [hV] at FV ⊢
      clear hV
      refine wpIn_wide.1 (wpIn_rangeFunc_ownG (n := 8) rfl (by omega) (gf := 76) (lb := #[.pointer (some ⟨Ba, 0, none⟩), .pointer (some ⟨Ba + 1, 0, none⟩)]) rfl trivial (enters_of Try.func76 (by kernel_rfl) rfl)
        (bothRC_stops 7 (by omega) FV.out.tb HBA.out HBB.out hn hn') (fun h k => h.trans k) ?keep (Below.refl _ _) (fun _ => rfl)
        (fun pre W => (∃ v, Md V M 24 70 2 v (madeA l l' pre).length ((madeA l l' pre).flatMap Rw.cells) W) ∧ (madeA l l' pre).length ≤ 32)
        (fun c pre W => c = .ret ∧ 32 < (madeA l l' pre).length ∧ Boxed W (w.heap.size + 1 + 1) 24 (.slice none 0 0) ∧ Boxed W (w.heap.size + 1 + 1 + 1) 31 (.int .i64 6) ∧ Mv (fun x => x = M ∨ x = w.heap.size + 1 + 1 ∨ x = w.heap.size + 1 + 1 + 1) V W)
        (fun s W W' row hs hg hr => ⟨hs.1.imp fun v h => h.turn hg hr, hs.2⟩)
        (fun c s W W' row hs hg hr => ?ownx) ?h0
        (fun x => { tmps := #[.agg #[.slice A n c], .agg #[.slice A' n' c'], .pointer (some ⟨w.heap.size, 0, none⟩), .pointer (some ⟨w.heap.size + 1, 0, none⟩), .pointer (some ⟨w.heap.size + 1 + 1, 0, none⟩), .pointer (some ⟨w.heap.size + 1 + 1 + 1, 0, none⟩), .int .i64 0, .int .i64 0, .pointer (some ⟨M, 0, none⟩), .pointer (some ⟨M + 1 + 1, 0, none⟩), .pointer (x.i.map fun i => ⟨ba, oa + i.val * 2, none⟩), .pointer (x.k.map fun k => ⟨bb, ob + k.val * 3, none⟩), .agg #[.slice A n c], .int .i64 0, .int .i64 0, .bool false, undef, undef, .agg #[.slice A' n' c'], .int .i64 0, .int .i64 0, .bool false, undef, undef, .func (.func 75) #[] #[.pointer (some ⟨M + 1, 0, none⟩)], .agg #[.slice A n c], tbR A n c, .agg #[.slice A' n' c'], tbC A' n' c', .func (.func 76) #[] #[.pointer (some ⟨Ba, 0, none⟩), .pointer (some ⟨Ba + 1, 0, none⟩)], .pointer (x.i.map fun i => ⟨ba, oa + i.val * 2, none⟩), .pointer (x.k.map fun k => ⟨bb, ob + k.val * 3, none⟩), undef, undef, undef, undef, undef, undef, undef, undef, undef, undef, undef, undef, undef, undef, undef, undef, undef, undef, undef, undef, undef, undef, undef, undef, undef, undef, undef, undef, undef, undef, undef, undef, undef, undef, undef, undef, undef], defers := [] }) ?assign ?body ?done ?stop)
      case keep =>
        intro W k o o' hk ho hc hw
        have l1 := FV.out.l1
        have l2 := FV.out.l2
        have l3 := FV.out.l3
        have l4 := FV.out.bel.size
        exact Mv.of_grown (grownBy_putObj' W k o') (fun g e => by cases e; exact .inl ⟨by omega, by omega, by omega⟩)
      case ownx =>
        have l1 := FV.out.l1
        have l2 := FV.out.l2
        have l3 := FV.out.l3
        have l4 := FV.out.bel.size
        exact ⟨hs.1, hs.2.1, hs.2.2.1.kept hg (fun e => by have := (hr _ e.symm).1; omega), hs.2.2.2.1.kept hg (fun e => by have := (hr _ e.symm).1; omega), hs.2.2.2.2.then (S' := fun x => V.heap.size ≤ x) (Mv.of_grown hg fun g e => .inl (hr g e).1) (fun x hx => .inr hx)⟩
      case h0 =>
        have l2 := FV.out.l2
        have l3 := FV.out.l3
        exact ⟨⟨.slice none 0 0, FV.out.m, World.ownsRow_nil _ _ _ _, Mv.refl _ _, by omega⟩, Nat.zero_le _⟩
      case assign =>
        intro l x W K hK
        gi_wp2
        exact hK
      case body =>
        rintro lp pre ⟨xi, xk, xne⟩ W ⟨⟨v, hmd⟩, hlen⟩ hlt
        have HMD := Lib.hid hmd
        have c0 := hmd.bx.cell
        clear hmd
        cases xk with
        | none =>
          obtain ⟨i, rfl⟩ : ∃ i, xi = some i := by
            cases xi with
            | some i => exact ⟨i, rfl⟩
            | none => simp at xne
          have hin : i.val < n := by have := FV.out.tb.a.len; omega
          have hTW := FV.out.tb.a
          obtain ⟨b', o', he, hbl, hrg⟩ := hTW.at_ hin
          rw [HBA.out (by omega)] at he
          obtain ⟨rfl, rfl⟩ : ba = b' ∧ oa = o' := by simpa using he
          obtain ⟨r, hr⟩ : ∃ r, l[i.val]'i.isLt = r := ⟨_, rfl⟩
          have hrW : W.rangeAt ba (oa + i.val * 2) r.cells := by
            rw [← hr]
            refine rangeAt_keep hrg (HMD.out.mv.block ba (by have := FV.out.bel.size; omega) (fun e => ?_))
            have := FV.out.l1
            have e' : ba = M := e
            omega
          have hPA : partA l l' ⟨some i, none, xne⟩ = [r] := by unfold partA; rw [← hr]; rfl
          have HPA := Lib.hid hPA
          have HRW := Lib.hid hrW
          have HBL := Lib.hid hbl
          clear hTW he hbl hrg hr hPA hrW
          gi_wp2
          have r0 : W.cell? ⟨ba, oa + i.val * 2, none⟩ = some (.string r.p) := HRW.out 0 _ rfl
          have r1 : W.cell? ⟨ba, oa + i.val * 2 + 1, none⟩ = some (.string r.t) := HRW.out 1 _ rfl
          refine wpIn_region_bar 5 7 (fun w' => w'.cell? ⟨M, 0, none⟩ = some v ∧ w'.cell? ⟨ba, oa + i.val * 2, none⟩ = some (.string r.p) ∧ w'.cell? ⟨ba, oa + i.val * 2 + 1, none⟩ = some (.string r.t)) (by kernel_rfl) (by kernel_rfl) (by kernel_rfl) ⟨c0, r0, r1⟩ ?_
          simp only [List.take_succ_cons, List.take_zero, List.drop_succ_cons, List.drop_zero, Option.map_some]
          refine ⟨_, .inl ⟨rfl, fun w' hw' => (by clear hw'; go_simp; rfl)⟩, ?_⟩
          refine ⟨_, .inl ⟨rfl, fun w' hw' => (by obtain ⟨h1, h2, h3⟩ := hw'; go_simp; rfl)⟩, ?_⟩
          refine ⟨_, .inl ⟨rfl, fun w' hw' => (by clear hw'; go_simp; rfl)⟩, ?_⟩
          refine ⟨_, .inl ⟨rfl, fun w' hw' => (by clear hw'; go_simp; rfl)⟩, ?_⟩
          refine ⟨_, .inl ⟨rfl, fun w' hw' => (by obtain ⟨h1, h2, h3⟩ := hw'; go_simp; rfl)⟩, ?_⟩
          rw [wpHead_nil]
          rw [wpMid_cons]
          refine ⟨rfl, ?_⟩
          simp only [Act.put, List.setIfInBounds_toArray, List.set_cons_succ, List.set_cons_zero]
          refine wp_one_row (.tmp 39) rfl r rfl ?_
          have hbA : Below W.heap.size W (W.drew.alloc (.cells r.cells.toArray 70)) := (Below.refl _ _).drew.alloc (Nat.le_refl _) _
          have hMl : M < W.heap.size := HMD.out.bx.lt
          have hbl : ba < W.heap.size := block_lt_of_cell r0
          refine ⟨⟨(hbA.cell (p := ⟨M, 0, none⟩) hMl).trans c0, (hbA.cell (p := ⟨ba, _, none⟩) hbl).trans r0, (hbA.cell (p := ⟨ba, _, none⟩) hbl).trans r1⟩, ?_⟩
          rw [wpMid_cons]
          refine ⟨rfl, ?_⟩
          simp only [Act.put, List.setIfInBounds_toArray, List.set_cons_succ, List.set_cons_zero]
          obtain ⟨i0, hi, hz, hz1, hz2⟩ := info_parts info_row
          have hmd1 := (HMD.out.below ((Below.refl _ _).drew.alloc (Nat.le_refl _) (.cells r.cells.toArray 70)))
          have hbs := HMD.out.mv.size
          refine wp_append_lies (W.drew.alloc (.cells r.cells.toArray 70)) (.tmp 36) (.tmp 40) 22 rfl V.heap.size 70 i0 _ 2 32 Try.underlying22 hi hz hz1 hz2 rfl (by omega) v (madeA l l' pre).length ((madeA l l' pre).flatMap Rw.cells) rfl hmd1.own ⟨W.heap.size, 0, none⟩ 1 1 r.cells rfl rfl (World.news_of_block (heap_alloc_new W.drew _)) (by intro u hu; exact rw_one [r] u (by simpa using hu)) (by omega) (by unfold maxLen; omega) (by omega) (by simp; omega) _ rfl ?_
          intro g2 c2 w1 hown5 hg5 hat5 hlt5
          have hg6 : (W.alloc (.cells r.cells.toArray 70)).grownBy w1 v.ownBlock := ⟨hg5.os, hg5.tape, hg5.output, hg5.size, hg5.block⟩
          obtain ⟨hb1, hmd3, hkf, hmv3⟩ := HMD.out.app (W := W) (tmp := .cells r.cells.toArray 70) hown5 hg6
          have hown := HMD.out.own
          have hbv : ba < V.heap.size := by have h1 := HBL.out; have h2 := FV.out.bel.size; omega
          have hkb : w1.heap[ba]? = W.heap[ba]? := (hg6.block ba (by simp; omega) (fun e => by have := (hown.lt ba e.symm).1; omega)).trans (Below.heap_alloc W _ ba hbl)
          refine ⟨⟨hb1.cell, (World.cell?_of_block (a := ⟨ba, _, none⟩) hkb).trans r0, (World.cell?_of_block (a := ⟨ba, _, none⟩) hkb).trans r1⟩, ?_⟩
          rw [wpMid_nil]
          have x0 := hb1.cell
          have x1 := hb1.frozen
          have HM3 := Lib.hid hmd3
          have HKF := Lib.hid hkf
          have HMV := Lib.hid hmv3
          clear hmd3 hkf hmv3 hown5 hg5 hg6 hat5 hlt5 hb1 hown hkb hbv hbA hMl hbl hmd1 hbs r0 r1 c0 hi hz hz1 hz2
          simp only [Act.put, List.setIfInBounds_toArray, List.set_cons_succ, List.set_cons_zero]
          go_wp2
          refine Calm.normal ?_
          obtain ⟨W3, hW3⟩ : ∃ W3, w1.setCell ⟨M, 0, none⟩ (.slice (some ⟨g2, 0, none⟩) ((madeA l l' pre).length + 1) c2) = W3 := ⟨_, rfl⟩
          rw [hW3] at HM3 HKF HMV ⊢
          clear hW3 x0 x1
          have hme : madeA l l' (pre ++ [⟨some i, none, xne⟩]) = madeA l l' pre ++ [r] := by unfold madeA; rw [List.flatMap_append, List.flatMap_cons, List.flatMap_nil, List.append_nil, HPA.out]
          have hml : (madeA l l' (pre ++ [⟨some i, none, xne⟩])).length = (madeA l l' pre).length + 1 := by rw [hme]; simp
          have HIN : Hid (∃ v, Md V M 24 70 2 v (madeA l l' (pre ++ [⟨some i, none, xne⟩])).length ((madeA l l' (pre ++ [⟨some i, none, xne⟩])).flatMap Rw.cells) W3) := Lib.hid ⟨_, by rw [hml, hme, List.flatMap_append]; simpa using HM3.out⟩
          obtain ⟨m3, hm3⟩ : ∃ m3, (madeA l l' pre).length + 1 = m3 := ⟨_, rfl⟩
          have HML := Lib.hid (hml.trans hm3)
          have hm33 : m3 ≤ 33 := by omega
          rw [hm3] at HM3 ⊢
          clear hme hml hm3
          have y0 := HM3.out.bx.cell
          have y1 : W3.cell? ⟨M + 1 + 1, 0, none⟩ = some (.func (.func 75) #[] #[.pointer (some ⟨M + 1, 0, none⟩)]) := HM3.out.mv.cell FV.out.f (fun e => by have e' : M + 1 + 1 = M := e; omega)
          have y2 : W3.cell? ⟨M + 1, 0, none⟩ = some (.int .i64 32) := HM3.out.mv.cell FV.out.o (fun e => by have e' : M + 1 = M := e; omega)
          have Y2 := Lib.hid y2
          have Y4 : Hid (Boxed W3 (w.heap.size + 1 + 1) 24 (.slice none 0 0)) := Lib.hid ((HM3.out.mv.block _ FV.out.b4.lt (fun e => by have := FV.out.l1; omega)).trans FV.out.b4)
          have Y5 : Hid (Boxed W3 (w.heap.size + 1 + 1 + 1) 31 (.int .i64 0)) := Lib.hid ((HM3.out.mv.block _ FV.out.b5.lt (fun e => by have := FV.out.l1; omega)).trans FV.out.b5)
          have z4 := Y4.out.cell
          have z5 := Y5.out.cell
          have u4 := Y4.out.frozen
          have u5 := Y5.out.frozen
          clear y2
          by_cases h32 : 32 < (m3 : Int)
          · have d32 : decide (32 < (m3 : Int)) = true := by simpa using h32
            gi_wp2_with (first | (gi_at_call 75; have T := over1_any (m3 : Int) 32 (M + 1) W3 Y2.out; with_reducible refine CallsIn.mono (CallsIn.inRound lp (callsIn_wide.2 T)) ?_; clear T; rintro e w' ⟨rfl, hw'⟩; subst w') | (refine ⟨trivial, ?_⟩; gi_at_call 75; have T := over1_any (m3 : Int) 32 (M + 1) W3 Y2.out; with_reducible refine CallsIn.mono (CallsIn.inRound lp (callsIn_wide.2 T)) ?_; clear T; rintro e w' ⟨rfl, hw'⟩; subst w') | fail)
            have E5 := (Y4.out.set (.slice none 0 0)).kept (grownBy_setCell' _ (w.heap.size + 1 + 1 + 1) (.int .i64 6)) (by simp)
            have E6 := (Y5.out.kept (grownBy_setCell' _ (w.heap.size + 1 + 1) (.slice none 0 0)) (by simp)).set (.int .i64 6)
            refine ⟨HKF.out.trans (((KeepsOthers.setCell _ _ _).from _).trans ((KeepsOthers.setCell _ _ _).from _)), rfl, by rw [HML.out]; omega, E5, E6, ?_⟩
            exact ((HM3.out.mv.mono fun b hb => .inl (.inl hb)).set_ (p := ⟨w.heap.size + 1 + 1, 0, none⟩) (.inl (.inr (.inl rfl))) _).set_ (p := ⟨w.heap.size + 1 + 1 + 1, 0, none⟩) (.inl (.inr (.inr rfl))) _
          · have d32 : decide (32 < (m3 : Int)) = false := by simpa using h32
            gi_wp2_with (first | (gi_at_call 75; have T := over1_any (m3 : Int) 32 (M + 1) W3 Y2.out; with_reducible refine CallsIn.mono (CallsIn.inRound lp (callsIn_wide.2 T)) ?_; clear T; rintro e w' ⟨rfl, hw'⟩; subst w') | (refine ⟨trivial, ?_⟩; gi_at_call 75; have T := over1_any (m3 : Int) 32 (M + 1) W3 Y2.out; with_reducible refine CallsIn.mono (CallsIn.inRound lp (callsIn_wide.2 T)) ?_; clear T; rintro e w' ⟨rfl, hw'⟩; subst w') | fail)
            refine ⟨HKF.out, HMV.out.mono fun b hb => .inl ?_, HIN.out, by rw [HML.out]; omega⟩
            have l1 := FV.out.l1
            have l2 := FV.out.l2
            have l3 := FV.out.l3
            rcases hb with rfl | hb
            · exact ⟨by omega, by omega, by omega⟩
            · exact ⟨by have := FV.out.bel.size; omega, by omega, by omega⟩
        | some k =>
          have hkn : k.val < n' := by have := FV.out.tb.b.len; omega
          have hTW := FV.out.tb.b
          obtain ⟨b', o', he, hbl, hrg⟩ := hTW.at_ hkn
          rw [HBB.out (by omega)] at he
          obtain ⟨rfl, rfl⟩ : bb = b' ∧ ob = o' := by simpa using he
          obtain ⟨q, hq⟩ : ∃ q, l'[k.val]'k.isLt = q := ⟨_, rfl⟩
          have hrW : W.rangeAt bb (ob + k.val * 3) q.cells := by
            rw [← hq]
            refine rangeAt_keep hrg (HMD.out.mv.block bb (by have := FV.out.bel.size; omega) (fun e => ?_))
            have := FV.out.l1
            have e' : bb = M := e
            omega
          have hPA : partA l l' ⟨xi, some k, xne⟩ = if q.is then [⟨q.p, q.t⟩] else [] := by unfold partA; rw [← hq]; rfl
          have r0 : W.cell? ⟨bb, ob + k.val * 3, none⟩ = some (.string q.p) := hrW 0 _ rfl
          have r1 : W.cell? ⟨bb, ob + k.val * 3 + 1, none⟩ = some (.bool q.is) := hrW 1 _ rfl
          have r2 : W.cell? ⟨bb, ob + k.val * 3 + 2, none⟩ = some (.string q.t) := hrW 2 _ rfl
          obtain ⟨qp, qi, qt⟩ := q
          have HBL := Lib.hid hbl
          clear hTW he hbl hrg hq hrW
          dsimp only at hPA r0 r1 r2
          cases qi
          · have HPA := Lib.hid (show partA l l' ⟨xi, some k, xne⟩ = [] from hPA)
            clear hPA
            obtain ⟨m3, hm3⟩ : ∃ m3, (madeA l l' pre).length = m3 := ⟨_, rfl⟩
            have hm33 : m3 ≤ 33 := by omega
            obtain ⟨Av, cv, rfl⟩ : ∃ Av cv, v = .slice Av m3 cv := by
              rcases HMD.out.own.2 with ⟨e1, e2⟩ | ⟨g, cap, cur, e1, _⟩
              · exact ⟨none, 0, by rw [e1, ← hm3, e2]⟩
              · exact ⟨_, _, by rw [e1, hm3]⟩
            have hme : madeA l l' (pre ++ [⟨xi, some k, xne⟩]) = madeA l l' pre := by unfold madeA; rw [List.flatMap_append, List.flatMap_cons, List.flatMap_nil, List.append_nil, HPA.out, List.append_nil]
            have HML := Lib.hid (show (madeA l l' (pre ++ [⟨xi, some k, xne⟩])).length = m3 by rw [hme, hm3])
            have HIN : Hid (∃ v, Md V M 24 70 2 v (madeA l l' (pre ++ [⟨xi, some k, xne⟩])).length ((madeA l l' (pre ++ [⟨xi, some k, xne⟩])).flatMap Rw.cells) W) := Lib.hid ⟨_, by rw [hme]; exact HMD.out⟩
            have HKF := Lib.hid (KeepsFrom.refl V.heap.size W)
            have HMV := Lib.hid (Mv.refl (fun x => x = M ∨ V.heap.size ≤ x) W)
            have HM3 := HMD
            rw [hm3] at HM3
            clear hme hm3 c0
            have y0 := HM3.out.bx.cell
            have y1 : W.cell? ⟨M + 1 + 1, 0, none⟩ = some (.func (.func 75) #[] #[.pointer (some ⟨M + 1, 0, none⟩)]) := HM3.out.mv.cell FV.out.f (fun e => by have e' : M + 1 + 1 = M := e; omega)
            have y2 : W.cell? ⟨M + 1, 0, none⟩ = some (.int .i64 32) := HM3.out.mv.cell FV.out.o (fun e => by have e' : M + 1 = M := e; omega)
            have Y2 := Lib.hid y2
            have Y4 : Hid (Boxed W (w.heap.size + 1 + 1) 24 (.slice none 0 0)) := Lib.hid ((HM3.out.mv.block _ FV.out.b4.lt (fun e => by have := FV.out.l1; omega)).trans FV.out.b4)
            have Y5 : Hid (Boxed W (w.heap.size + 1 + 1 + 1) 31 (.int .i64 0)) := Lib.hid ((HM3.out.mv.block _ FV.out.b5.lt (fun e => by have := FV.out.l1; omega)).trans FV.out.b5)
            have z4 := Y4.out.cell
            have z5 := Y5.out.cell
            have u4 := Y4.out.frozen
            have u5 := Y5.out.frozen
            clear y2
            by_cases h32 : 32 < (m3 : Int)
            · have d32 : decide (32 < (m3 : Int)) = true := by simpa using h32
              gi_wp2_with (first | (gi_at_call 75; have T := over1_any (m3 : Int) 32 (M + 1) W Y2.out; with_reducible refine CallsIn.mono (CallsIn.inRound lp (callsIn_wide.2 T)) ?_; clear T; rintro e w' ⟨rfl, hw'⟩; subst w') | (refine ⟨trivial, ?_⟩; gi_at_call 75; have T := over1_any (m3 : Int) 32 (M + 1) W Y2.out; with_reducible refine CallsIn.mono (CallsIn.inRound lp (callsIn_wide.2 T)) ?_; clear T; rintro e w' ⟨rfl, hw'⟩; subst w') | fail)
              have E5 := (Y4.out.set (.slice none 0 0)).kept (grownBy_setCell' _ (w.heap.size + 1 + 1 + 1) (.int .i64 6)) (by simp)
              have E6 := (Y5.out.kept (grownBy_setCell' _ (w.heap.size + 1 + 1) (.slice none 0 0)) (by simp)).set (.int .i64 6)
              refine ⟨HKF.out.trans (((KeepsOthers.setCell _ _ _).from _).trans ((KeepsOthers.setCell _ _ _).from _)), rfl, by rw [HML.out]; omega, E5, E6, ?_⟩
              exact ((HM3.out.mv.mono fun b hb => .inl (.inl hb)).set_ (p := ⟨w.heap.size + 1 + 1, 0, none⟩) (.inl (.inr (.inl rfl))) _).set_ (p := ⟨w.heap.size + 1 + 1 + 1, 0, none⟩) (.inl (.inr (.inr rfl))) _
            · have d32 : decide (32 < (m3 : Int)) = false := by simpa using h32
              gi_wp2_with (first | (gi_at_call 75; have T := over1_any (m3 : Int) 32 (M + 1) W Y2.out; with_reducible refine CallsIn.mono (CallsIn.inRound lp (callsIn_wide.2 T)) ?_; clear T; rintro e w' ⟨rfl, hw'⟩; subst w') | (refine ⟨trivial, ?_⟩; gi_at_call 75; have T := over1_any (m3 : Int) 32 (M + 1) W Y2.out; with_reducible refine CallsIn.mono (CallsIn.inRound lp (callsIn_wide.2 T)) ?_; clear T; rintro e w' ⟨rfl, hw'⟩; subst w') | fail)
              refine ⟨HKF.out, HMV.out.mono fun b hb => .inl ?_, HIN.out, by rw [HML.out]; omega⟩
              have l1 := FV.out.l1
              have l2 := FV.out.l2
              have l3 := FV.out.l3
              rcases hb with rfl | hb
              · exact ⟨by omega, by omega, by omega⟩
              · exact ⟨by have := FV.out.bel.size; omega, by omega, by omega⟩
          · obtain ⟨r, hr⟩ : ∃ r : Rw, r = ⟨qp, qt⟩ := ⟨_, rfl⟩
            have HPA := Lib.hid (show partA l l' ⟨xi, some k, xne⟩ = [r] from by rw [hr]; exact hPA)
            clear hPA
            gi_wp2
            refine wpIn_region_bar 11 13 (fun w' => w'.cell? ⟨M, 0, none⟩ = some v ∧ w'.cell? ⟨bb, ob + k.val * 3, none⟩ = some (.string qp) ∧ w'.cell? ⟨bb, ob + k.val * 3 + 2, none⟩ = some (.string qt)) (by kernel_rfl) (by kernel_rfl) (by kernel_rfl) ⟨c0, r0, r2⟩ ?_
            simp only [List.take_succ_cons, List.take_zero, List.drop_succ_cons, List.drop_zero, Option.map_some]
            refine ⟨_, .inl ⟨rfl, fun w' hw' => (by clear hw'; go_simp; rfl)⟩, ?_⟩
            refine ⟨_, .inl ⟨rfl, fun w' hw' => (by obtain ⟨h1, h2, h3⟩ := hw'; go_simp; rfl)⟩, ?_⟩
            refine ⟨_, .inl ⟨rfl, fun w' hw' => (by clear hw'; go_simp; rfl)⟩, ?_⟩
            refine ⟨_, .inl ⟨rfl, fun w' hw' => (by clear hw'; go_simp; rfl)⟩, ?_⟩
            refine ⟨_, .inl ⟨rfl, fun w' hw' => (by clear hw'; go_simp; rfl)⟩, ?_⟩
            refine ⟨_, .inl ⟨rfl, fun w' hw' => (by obtain ⟨h1, h2, h3⟩ := hw'; go_simp; rfl)⟩, ?_⟩
            refine ⟨_, .inl ⟨rfl, fun w' hw' => (by clear hw'; go_simp; rfl)⟩, ?_⟩
            refine ⟨_, .inl ⟨rfl, fun w' hw' => (by clear hw'; go_simp; rfl)⟩, ?_⟩
            refine ⟨_, .inl ⟨rfl, fun w' hw' => (by clear hw'; go_simp; rfl)⟩, ?_⟩
            refine ⟨_, .inl ⟨rfl, fun w' hw' => (by obtain ⟨h1, h2, h3⟩ := hw'; go_simp; rfl)⟩, ?_⟩
            refine ⟨_, .inl ⟨rfl, fun w' hw' => (by clear hw'; go_simp; rfl)⟩, ?_⟩
            rw [wpHead_nil]
            rw [wpMid_cons]
            refine ⟨rfl, ?_⟩
            simp only [Act.put, List.setIfInBounds_toArray, List.set_cons_succ, List.set_cons_zero]
            refine wp_one_row (.tmp 58) rfl r (by rw [hr]; rfl) ?_
            have hbA : Below W.heap.size W (W.drew.alloc (.cells r.cells.toArray 70)) := (Below.refl _ _).drew.alloc (Nat.le_refl _) _
            have hMl : M < W.heap.size := HMD.out.bx.lt
            have hbl : bb < W.heap.size := block_lt_of_cell r0
            refine ⟨⟨(hbA.cell (p := ⟨M, 0, none⟩) hMl).trans c0, (hbA.cell (p := ⟨bb, _, none⟩) hbl).trans r0, (hbA.cell (p := ⟨bb, _, none⟩) hbl).trans r2⟩, ?_⟩
            rw [wpMid_cons]
            refine ⟨rfl, ?_⟩
            simp only [Act.put, List.setIfInBounds_toArray, List.set_cons_succ, List.set_cons_zero]
            obtain ⟨i0, hi, hz, hz1, hz2⟩ := info_parts info_row
            have hmd1 := (HMD.out.below ((Below.refl _ _).drew.alloc (Nat.le_refl _) (.cells r.cells.toArray 70)))
            have hbs := HMD.out.mv.size
            refine wp_append_lies (W.drew.alloc (.cells r.cells.toArray 70)) (.tmp 49) (.tmp 59) 22 rfl V.heap.size 70 i0 _ 2 32 Try.underlying22 hi hz hz1 hz2 rfl (by omega) v (madeA l l' pre).length ((madeA l l' pre).flatMap Rw.cells) rfl hmd1.own ⟨W.heap.size, 0, none⟩ 1 1 r.cells rfl rfl (World.news_of_block (heap_alloc_new W.drew _)) (by intro u hu; exact rw_one [r] u (by simpa using hu)) (by omega) (by unfold maxLen; omega) (by omega) (by simp; omega) _ rfl ?_
            intro g2 c2 w1 hown5 hg5 hat5 hlt5
            have hg6 : (W.alloc (.cells r.cells.toArray 70)).grownBy w1 v.ownBlock := ⟨hg5.os, hg5.tape, hg5.output, hg5.size, hg5.block⟩
            obtain ⟨hb1, hmd3, hkf, hmv3⟩ := HMD.out.app (W := W) (tmp := .cells r.cells.toArray 70) hown5 hg6
            have hown := HMD.out.own
            have hbv : bb < V.heap.size := by have h1 := HBL.out; have h2 := FV.out.bel.size; omega
            have hkb : w1.heap[bb]? = W.heap[bb]? := (hg6.block bb (by simp; omega) (fun e => by have := (hown.lt bb e.symm).1; omega)).trans (Below.heap_alloc W _ bb hbl)
            refine ⟨⟨hb1.cell, (World.cell?_of_block (a := ⟨bb, _, none⟩) hkb).trans r0, (World.cell?_of_block (a := ⟨bb, _, none⟩) hkb).trans r2⟩, ?_⟩
            rw [wpMid_nil]
            have x0 := hb1.cell
            have x1 := hb1.frozen
            have HM3 := Lib.hid hmd3
            have HKF := Lib.hid hkf
            have HMV := Lib.hid hmv3
            clear hmd3 hkf hmv3 hown5 hg5 hg6 hat5 hlt5 hb1 hown hkb hbv hbA hMl hbl hmd1 hbs r0 r1 r2 c0 hi hz hz1 hz2 hr
            simp only [Act.put, List.setIfInBounds_toArray, List.set_cons_succ, List.set_cons_zero]
            go_wp2
            refine Calm.normal ?_
            obtain ⟨W3, hW3⟩ : ∃ W3, w1.setCell ⟨M, 0, none⟩ (.slice (some ⟨g2, 0, none⟩) ((madeA l l' pre).length + 1) c2) = W3 := ⟨_, rfl⟩
            rw [hW3] at HM3 HKF HMV ⊢
            clear hW3 x0 x1
            have hme : madeA l l' (pre ++ [⟨xi, some k, xne⟩]) = madeA l l' pre ++ [r] := by unfold madeA; rw [List.flatMap_append, List.flatMap_cons, List.flatMap_nil, List.append_nil, HPA.out]
            have hml : (madeA l l' (pre ++ [⟨xi, some k, xne⟩])).length = (madeA l l' pre).length + 1 := by rw [hme]; simp
            have HIN : Hid (∃ v, Md V M 24 70 2 v (madeA l l' (pre ++ [⟨xi, some k, xne⟩])).length ((madeA l l' (pre ++ [⟨xi, some k, xne⟩])).flatMap Rw.cells) W3) := Lib.hid ⟨_, by rw [hml, hme, List.flatMap_append]; simpa using HM3.out⟩
            obtain ⟨m3, hm3⟩ : ∃ m3, (madeA l l' pre).length + 1 = m3 := ⟨_, rfl⟩
            have HML := Lib.hid (hml.trans hm3)
            have hm33 : m3 ≤ 33 := by omega
            rw [hm3] at HM3 ⊢
            clear hme hml hm3
            have y0 := HM3.out.bx.cell
            have y1 : W3.cell? ⟨M + 1 + 1, 0, none⟩ = some (.func (.func 75) #[] #[.pointer (some ⟨M + 1, 0, none⟩)]) := HM3.out.mv.cell FV.out.f (fun e => by have e' : M + 1 + 1 = M := e; omega)
            have y2 : W3.cell? ⟨M + 1, 0, none⟩ = some (.int .i64 32) := HM3.out.mv.cell FV.out.o (fun e => by have e' : M + 1 = M := e; omega)
            have Y2 := Lib.hid y2
            have Y4 : Hid (Boxed W3 (w.heap.size + 1 + 1) 24 (.slice none 0 0)) := Lib.hid ((HM3.out.mv.block _ FV.out.b4.lt (fun e => by have := FV.out.l1; omega)).trans FV.out.b4)
            have Y5 : Hid (Boxed W3 (w.heap.size + 1 + 1 + 1) 31 (.int .i64 0)) := Lib.hid ((HM3.out.mv.block _ FV.out.b5.lt (fun e => by have := FV.out.l1; omega)).trans FV.out.b5)
            have z4 := Y4.out.cell
            have z5 := Y5.out.cell
            have u4 := Y4.out.frozen
            have u5 := Y5.out.frozen
            clear y2
            by_cases h32 : 32 < (m3 : Int)
            · have d32 : decide (32 < (m3 : Int)) = true := by simpa using h32
              gi_wp2_with (first | (gi_at_call 75; have T := over1_any (m3 : Int) 32 (M + 1) W3 Y2.out; with_reducible refine CallsIn.mono (CallsIn.inRound lp (callsIn_wide.2 T)) ?_; clear T; rintro e w' ⟨rfl, hw'⟩; subst w') | (refine ⟨trivial, ?_⟩; gi_at_call 75; have T := over1_any (m3 : Int) 32 (M + 1) W3 Y2.out; with_reducible refine CallsIn.mono (CallsIn.inRound lp (callsIn_wide.2 T)) ?_; clear T; rintro e w' ⟨rfl, hw'⟩; subst w') | fail)
              have E5 := (Y4.out.set (.slice none 0 0)).kept (grownBy_setCell' _ (w.heap.size + 1 + 1 + 1) (.int .i64 6)) (by simp)
              have E6 := (Y5.out.kept (grownBy_setCell' _ (w.heap.size + 1 + 1) (.slice none 0 0)) (by simp)).set (.int .i64 6)
              refine ⟨HKF.out.trans (((KeepsOthers.setCell _ _ _).from _).trans ((KeepsOthers.setCell _ _ _).from _)), rfl, by rw [HML.out]; omega, E5, E6, ?_⟩
              exact ((HM3.out.mv.mono fun b hb => .inl (.inl hb)).set_ (p := ⟨w.heap.size + 1 + 1, 0, none⟩) (.inl (.inr (.inl rfl))) _).set_ (p := ⟨w.heap.size + 1 + 1 + 1, 0, none⟩) (.inl (.inr (.inr rfl))) _
            · have d32 : decide (32 < (m3 : Int)) = false := by simpa using h32
              gi_wp2_with (first | (gi_at_call 75; have T := over1_any (m3 : Int) 32 (M + 1) W3 Y2.out; with_reducible refine CallsIn.mono (CallsIn.inRound lp (callsIn_wide.2 T)) ?_; clear T; rintro e w' ⟨rfl, hw'⟩; subst w') | (refine ⟨trivial, ?_⟩; gi_at_call 75; have T := over1_any (m3 : Int) 32 (M + 1) W3 Y2.out; with_reducible refine CallsIn.mono (CallsIn.inRound lp (callsIn_wide.2 T)) ?_; clear T; rintro e w' ⟨rfl, hw'⟩; subst w') | fail)
              refine ⟨HKF.out, HMV.out.mono fun b hb => .inl ?_, HIN.out, by rw [HML.out]; omega⟩
              have l1 := FV.out.l1
              have l2 := FV.out.l2
              have l3 := FV.out.l3
              rcases hb with rfl | hb
              · exact ⟨by omega, by omega, by omega⟩
              · exact ⟨by have := FV.out.bel.size; omega, by omega, by omega⟩
      case done =>
        rintro D ys W hD rfl ⟨⟨v, hmd⟩, hlen⟩ hK
        have l1 := FV.out.l1
        have l2 := FV.out.l2
        have l3 := FV.out.l3
        have e0 : er = 0 := by
          rw [← HER.out]
          unfold applyE
          rw [HRA.out, HRB.out]
          have : ¬ 32 < (applyW l l').length := by unfold applyW; omega
          simp [this]
        have e1 : Lr = madeA l l' (allW Rw.p Ch.p l l') := by rw [← HLR.out, HER.out, e0]; rfl
        obtain ⟨L, hL⟩ : ∃ L, madeA l l' (allW Rw.p Ch.p l l') = L := ⟨_, rfl⟩
        rw [hL] at hmd hlen e1
        clear hL
        subst e0 e1
        obtain ⟨Av, cv, rfl⟩ : ∃ Av cv, v = .slice Av Lr.length cv := by
          rcases hmd.own.2 with ⟨e1, e2⟩ | ⟨g, cap, cur, e1, _⟩
          · exact ⟨none, 0, by rw [e1, e2]⟩
          · exact ⟨_, _, e1⟩
        have Y4 : Hid (Boxed W (w.heap.size + 1 + 1) 24 (.slice none 0 0)) := Lib.hid ((hmd.mv.block _ FV.out.b4.lt (fun e => by omega)).trans FV.out.b4)
        have Y5 : Hid (Boxed W (w.heap.size + 1 + 1 + 1) 31 (.int .i64 0)) := Lib.hid ((hmd.mv.block _ FV.out.b5.lt (fun e => by omega)).trans FV.out.b5)
        have y0 := hmd.bx.cell
        have z4 := Y4.out.cell
        have z5 := Y5.out.cell
        have u4 := Y4.out.frozen
        have u5 := Y5.out.frozen
        have HMD := Lib.hid hmd
        have HK := Lib.hid hK
        clear hmd hK
        go_wp2
        have hne : ∀ b, b < V.heap.size → (Value.slice Av Lr.length cv).ownBlock = none ∨ (Value.slice Av Lr.length cv).ownBlock ≠ some b := fun b hb => by
          rcases hq : (Value.slice Av Lr.length cv).ownBlock with _ | g
          · exact .inl rfl
          · exact .inr fun e => by injection e with e; have := (HMD.out.own.lt g hq).1; omega
        have o1 := HMD.out.own.kept (grownBy_setCell' W (w.heap.size + 1 + 1) (.slice Av Lr.length cv)) (hne _ (by omega))
        have o2 := o1.kept (grownBy_setCell' _ (w.heap.size + 1 + 1 + 1) (.int .i64 0)) (hne _ (by omega))
        have E5 := (Y4.out.set (.slice Av Lr.length cv)).kept (grownBy_setCell' _ (w.heap.size + 1 + 1 + 1) (.int .i64 0)) (by simp)
        have E6 := (Y5.out.kept (grownBy_setCell' _ (w.heap.size + 1 + 1) (.slice Av Lr.length cv)) (by simp)).set (.int .i64 0)
        have hK2 : ((W.setCell ⟨w.heap.size + 1 + 1, 0, none⟩ (.slice Av Lr.length cv)).setCell ⟨w.heap.size + 1 + 1 + 1, 0, none⟩ (.int .i64 0)).heap[D]? = some (.deferred (some [])) :=
          (Below.heap_setCell _ _ _ D (fun e => by have e' : D = w.heap.size + 1 + 1 + 1 := e; omega)).trans ((Below.heap_setCell _ _ _ D (fun e => by have e' : D = w.heap.size + 1 + 1 := e; omega)).trans HK.out)
        have o3 := ownsRow_putObj o2 (.deferred none) hK2 rfl
        have hmv : Mv (fun x => w.heap.size ≤ x) V _ := ((HMD.out.mv.mono (S' := fun x => w.heap.size ≤ x) fun b hb => .inl (by have e' : b = M := hb; omega)).set_ (p := ⟨w.heap.size + 1 + 1, 0, none⟩) (.inl (by show w.heap.size ≤ w.heap.size + 1 + 1; omega)) (.slice Av Lr.length cv)).set_ (p := ⟨w.heap.size + 1 + 1 + 1, 0, none⟩) (.inl (by show w.heap.size ≤ w.heap.size + 1 + 1 + 1; omega)) (.int .i64 0)
        have hmv2 := hmv.then (S' := fun x => w.heap.size ≤ x) (Mv.of_grown (grownBy_putObj' _ D (.deferred none)) fun g e => .inl (by cases e; have := FV.out.bel.size; omega)) (fun x hx => .inl hx)
        exact ends2_Apply _ _ _ _ _ _ rfl rfl hK2 E5 E6 ⟨Av, Lr.length, cv, rfl, own_sq o3 rw_sz (by omega), FV.out.bel.trans (hmv2.below (fun b hb => hb) FV.out.bel.size)⟩
      case stop =>
        rintro D c pre W hD hSp ⟨rfl, hlen, hb4, hb5, hmv⟩ hK
        have l1 := FV.out.l1
        have l2 := FV.out.l2
        have l3 := FV.out.l3
        have HK := Lib.hid hK
        have H4 := Lib.hid hb4
        have H5 := Lib.hid hb5
        have HM := Lib.hid hmv
        have e0 : er = 6 := by
          rw [← HER.out]
          unfold applyE
          rw [HRA.out, HRB.out]
          have : 32 < (applyW l l').length := Nat.lt_of_lt_of_le hlen (madeA_le hSp)
          simp [this]
        have e1 : Lr = [] := by rw [← HLR.out, HER.out, e0]; rfl
        subst e0 e1
        clear hK hb4 hb5 hmv
        refine wpIn_wide.2 ?_
        go_wp2
        have hmv2 := (HM.out.mono (S' := fun x => w.heap.size ≤ x) fun b hb => .inl (by rcases hb with e | e | e <;> omega)).then (S' := fun x => w.heap.size ≤ x) (Mv.of_grown (grownBy_putObj' _ D (.deferred none)) fun g e => .inl (by cases e; have := FV.out.bel.size; omega)) (fun x hx => .inl hx)
        exact ends2_Apply _ _ _ _ _ _ rfl rfl HK.out H4.out H5.out ⟨none, 0, 0, rfl, Sq.nil_ rw_sz, FV.out.bel.trans (hmv2.below (fun b hb => hb) FV.out.bel.size)⟩
end Go.Proofs.Ytkdmlffnkomdhaa
