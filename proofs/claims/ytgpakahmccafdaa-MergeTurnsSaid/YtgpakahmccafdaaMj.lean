/-
  MERGE: Rebase.
-/
import Derived.RangeFuncNested
import Derived.RangeFuncBound
import Derived.RangeFuncCalls
import Derived.RangeFuncLeaves
import Derived.RangeFuncBox
import Derived.Shelf.Abstract
import Derived.Shelf.RegionOpen
import Derived.WalkKit
import Derived.OwnWalkIn
import Derived.TacticsInMore
import Derived.LoopNIn
import Derived.LoopIn
import Derived.Deep.Cut
import Derived.Great.BuildSlice
import Derived.Great.FillDense
import Derived.Test.YtgpakahmccafdaaMc
import Derived.Test.YtgpakahmccafdaaMi
import Derived.Test.YtgpakahmccafdaaPk
namespace Go.Proofs.Ytgpakahmccafdaa
set_option linter.unusedVariables false
set_option linter.unusedSimpArgs false
set_option pp.deepTerms true
set_option pp.maxSteps 200000
open Go.RowKit Go.WideShapes Go.ChangeShapes Go.Deep Go.Shelf
attribute [local go_sem] Oper.semAt_some
attribute [local irreducible] wpQuiet

def rebaseE (lb lo : List Rw) (e : List Ch) : Int := if applyE lb e = 0 then mergeE lb lo (applyW lb e) [] else applyE lb e
def rebaseW (lb lo : List Rw) (e : List Ch) : List Rw := mergedW lb lo (applyW lb e) []
theorem results_Reb (tmps : Array Value) (W : World) (b : Nat) (v : Value) (k : Int) (h8 : tmps.getD 6 undef = .pointer (some ⟨b, 0, none⟩)) (h9 : tmps.getD 7 undef = .int .i64 k) (x : W.cell? ⟨b, 0, none⟩ = some v) :
    (results Try.f25 tmps).run Try.prog W = .ok (.tuple #[.agg #[v], .int .i64 k]) W := by
  have h8' : tmps[6]?.getD undef = .pointer (some ⟨b, 0, none⟩) := by simpa using h8
  have h9' : tmps[7]?.getD undef = .int .i64 k := by simpa using h9
  simp [results, Try.f25, go_sem, h8', h9', x]
theorem ends_Reb {W : World} {R : Ending → World → Prop} (tmps : Array Value) (b : Nat) (v : Value) (k : Int) (h8 : tmps.getD 6 undef = .pointer (some ⟨b, 0, none⟩)) (h9 : tmps.getD 7 undef = .int .i64 k) (x : W.cell? ⟨b, 0, none⟩ = some v)
    (h : R (.returned (.tuple #[.agg #[v], .int .i64 k])) W) : bodyPost Try.prog Try.f25 R Exit.ret { tmps := tmps, defers := [] } W :=
  bodyPost_ret (results_Reb tmps W b v k h8 h9 x) rfl h
set_option maxRecDepth 100000 in
set_option maxHeartbeats 8000000 in
theorem Rebase_any {w : World} {A1 : Option Addr} {n1 c1 : Nat} {l1 : List Rw} (h1 : SqR w w.heap.size A1 n1 c1 l1) (hm1 : n1 ≤ 1000) {A2 : Option Addr} {n2 c2 : Nat} {l2 : List Rw} (h2 : SqR w w.heap.size A2 n2 c2 l2) (hm2 : n2 ≤ 1000) {A : Option Addr} {n c : Nat} {by' : List Ch} (hs : SqC w w.heap.size A n c by') (hn : n ≤ 1000) :
    Calls Try.prog 25 #[.agg #[.slice A1 n1 c1], .agg #[.slice A2 n2 c2], .agg #[.slice A n c]] w fun en w' => (∃ A9 n9 c9, en = .returned (.tuple #[.agg #[.slice A9 n9 c9], .int .i64 (rebaseE l1 l2 by')]) ∧ SqR w' w'.heap.size A9 n9 c9 (if rebaseE l1 l2 by' = 0 then rebaseW l1 l2 by' else [])) ∧ Below w.heap.size w w' := by
  obtain ⟨Lr, hLr⟩ : ∃ Lr, (if rebaseE l1 l2 by' = 0 then rebaseW l1 l2 by' else []) = Lr := ⟨_, rfl⟩
  obtain ⟨er, her⟩ : ∃ er, rebaseE l1 l2 by' = er := ⟨_, rfl⟩
  have HLR := Lib.hid hLr
  have HER := Lib.hid her
  rw [hLr, her]
  clear hLr her
  obtain ⟨w4, hw4⟩ : ∃ w4, (((w.alloc (.cells #[.slice A1 n1 c1] 24)).alloc (.cells #[.slice A2 n2 c2] 24)).alloc (.cells #[.slice A n c] 36)).alloc (.cells #[.slice none 0 0] 24) = w4 := ⟨_, rfl⟩
  have B4 : Hid (Below w.heap.size w w4 ∧ w4.heap.size = w.heap.size + 4) := Lib.hid (by
    rw [← hw4]
    exact ⟨((((Below.refl _ _).alloc (Nat.le_refl _) _).alloc (by simp) _).alloc (by simp; omega) _).alloc (by simp; omega) _, by simp⟩)
  have X0 : Hid (Lies w4 w.heap.size 1 [.slice A1 n1 c1]) := Lib.hid (by
    rw [← hw4]
    exact (((Lies.new w [.slice A1 n1 c1] 24).alloc _).alloc _).alloc _)
  have X1 : Hid (Lies w4 (w.heap.size + 1) 1 [.slice A2 n2 c2]) := Lib.hid (by
    rw [← hw4]
    have h := ((Lies.new (w.alloc (.cells #[.slice A1 n1 c1] 24)) [.slice A2 n2 c2] 24).alloc (.cells #[.slice A n c] 36)).alloc (.cells #[.slice none 0 0] 24)
    rwa [World.size_alloc] at h)
  have X2 : Hid (Lies w4 (w.heap.size + 1 + 1) 1 [.slice A n c]) := Lib.hid (by
    rw [← hw4]
    have h := (Lies.new ((w.alloc (.cells #[.slice A1 n1 c1] 24)).alloc (.cells #[.slice A2 n2 c2] 24)) [.slice A n c] 36).alloc (.cells #[.slice none 0 0] 24)
    rwa [World.size_alloc, World.size_alloc] at h)
  have X3 : Hid (Boxed w4 (w.heap.size + 1 + 1 + 1) 24 (.slice none 0 0)) := Lib.hid (by
    rw [← hw4]
    have h := Boxed.new (((w.alloc (.cells #[.slice A1 n1 c1] 24)).alloc (.cells #[.slice A2 n2 c2] 24)).alloc (.cells #[.slice A n c] 36)) 24 (.slice none 0 0)
    simpa only [World.size_alloc] using h)
  have HS1 : Hid (∀ W, Below w4.heap.size w4 W → SqR W W.heap.size A1 n1 c1 l1) := Lib.hid fun W hW => (h1.below (B4.out.1.trans (hW.mono B4.out.1.size))).more (Nat.le_trans B4.out.1.size hW.size)
  have HS2 : Hid (∀ W, Below w4.heap.size w4 W → SqR W W.heap.size A2 n2 c2 l2) := Lib.hid fun W hW => (h2.below (B4.out.1.trans (hW.mono B4.out.1.size))).more (Nat.le_trans B4.out.1.size hW.size)
  have HS : Hid (∀ W, Below w4.heap.size w4 W → SqC W W.heap.size A n c by') := Lib.hid fun W hW => (hs.below (B4.out.1.trans (hW.mono B4.out.1.size))).more (Nat.le_trans B4.out.1.size hW.size)
  have HQ : Hid (∀ W, Below w4.heap.size w4 W → W.cell? ⟨w.heap.size, 0, none⟩ = some (.slice A1 n1 c1) ∧ W.cell? ⟨w.heap.size + 1, 0, none⟩ = some (.slice A2 n2 c2) ∧ W.cell? ⟨w.heap.size + 1 + 1, 0, none⟩ = some (.slice A n c)) := Lib.hid fun W hW =>
    ⟨(X0.out.below hW X0.out.lt).cell (j := 0) rfl, (X1.out.below hW X1.out.lt).cell (j := 0) rfl, (X2.out.below hW X2.out.lt).cell (j := 0) rfl⟩
  have HA := Lib.hid (Apply_any (HS1.out w4 (Below.refl _ _)) (show n1 ≤ 1000000 by omega) (HS.out w4 (Below.refl _ _)) (show n ≤ 1000000 by omega))
  have HW := Lib.hid hw4
  obtain ⟨ae, hae⟩ : ∃ r, applyE l1 by' = r := ⟨_, rfl⟩
  have HAE := Lib.hid hae
  rw [hae] at HA
  clear hw4 hae h1 h2 hs
  go_enter Try.func25, Try.ntmps25
  go_upto_region 1 with fail
  rw [HW.out]
  clear HW
  obtain ⟨q0, q1, q2⟩ := HQ.out _ (Below.refl _ _)
  go_upto_region 2 with (first | (go_at_call 34; have T := HA.out; with_reducible refine Calls.mono T ?_; clear T; rintro e w5 ⟨A5, n5, c5, rfl, hs5, hb5⟩; have S5 := Lib.hid hs5; have G5 := Lib.hid hb5; clear hb5 hs5) | fail)
  obtain ⟨w6, hw6⟩ : ∃ w6, w5.alloc (.cells #[.slice A5 n5 c5] 24) = w6 := ⟨_, rfl⟩
  rw [hw6]
  have G6 : Hid (Below w4.heap.size w4 w6) := Lib.hid (by rw [← hw6]; exact G5.out.alloc G5.out.size _)
  have S6 : Hid (SqR w6 w6.heap.size A5 n5 c5 (if ae = 0 then applyW l1 by' else [])) := Lib.hid (by
    rw [← hw6]
    have hb : Below w5.heap.size w5 (w5.alloc (.cells #[.slice A5 n5 c5] 24)) := (Below.refl _ _).alloc (Nat.le_refl _) _
    exact (S5.out.below hb).more hb.size)
  have X5 : Hid (Lies w6 w5.heap.size 1 [.slice A5 n5 c5]) := Lib.hid (by rw [← hw6]; exact Lies.new w5 [.slice A5 n5 c5] 24)
  obtain ⟨B5, hB5⟩ : ∃ B5, w5.heap.size = B5 := ⟨_, rfl⟩
  rw [hB5] at X5 ⊢
  have Y3 := Lib.hid (X3.out.kept (only_of_below G6.out none) (by simp))
  clear q0 q1 q2 hw6 hB5 S5 G5
  obtain ⟨q0, q1, q2⟩ := HQ.out _ G6.out
  have f4 := Y3.out.frozen
  have c4 := Y3.out.cell
  have c5' := X5.out.cell (j := 0) rfl
  by_cases h0 : ae = 0
  · subst h0
    have S7 : Hid (SqR w6 w6.heap.size A5 n5 c5 (applyW l1 by')) := Lib.hid (by have := S6.out; rwa [if_pos rfl] at this)
    have hn5 : n5 ≤ 1000 := by have h1 := S7.out.len; have h2 := (applyE_parts HAE.out).2.2; omega
    have HM := Lib.hid (Merge_any (HS1.out w6 G6.out) hm1 (HS2.out w6 G6.out) hm2 S7.out hn5 (Sq.nil_ (f := Ch.cells) ch_sz) (show 0 ≤ 1000 by omega))
    have e0 : er = mergeE l1 l2 (applyW l1 by') [] := by rw [← HER.out]; unfold rebaseE; rw [HAE.out, if_pos rfl]
    have E0 := Lib.hid e0
    have E1 : Hid (Lr = (if er = 0 then mergedW l1 l2 (applyW l1 by') [] else [])) := Lib.hid (by rw [← HLR.out, HER.out]; rfl)
    clear e0 S6
    go_wp2_with (first
      | (go_at_call 19; have T := HM.out; rw [← E0.out] at T; rw [← E1.out] at T; with_reducible refine Calls.mono T ?_; clear T; rintro e w8 ⟨⟨A9, n9, c9, rfl, hs9⟩, hb9⟩; have S9 := Lib.hid hs9; have G9 := Lib.hid hb9; have Z3 := Lib.hid (Y3.out.kept (only_of_below hb9 none) (by simp)); clear q0 q1 q2 f4 c4 c5' hs9 hb9; have f4 := Z3.out.frozen; have c4 := Z3.out.cell)
      | fail)
    refine ends_Reb _ _ _ _ rfl rfl (Z3.out.set (.slice A9 n9 c9)).cell ⟨⟨A9, n9, c9, rfl, ?_⟩, B4.out.1.trans (((G6.out.trans (G9.out.mono G6.out.size)).mono (by have := B4.out.2; omega)).setCell (p := ⟨w.heap.size + 1 + 1 + 1, 0, none⟩) (by simp; omega) _)⟩
    have T := S9.out.put (B := w.heap.size + 1 + 1 + 1) [.slice A9 n9 c9] (fun hn => sq_off S9.out Z3.out rw_noslice (by omega) hn)
    have e : (w8.setCells (w.heap.size + 1 + 1 + 1) 0 [.slice A9 n9 c9]).heap.size = w8.heap.size := (setCells_os _ _ 0 w8).2.2.2.1
    exact T.more (Nat.le_of_eq e.symm)
  · have hne2 : (ae == (0 : Int)) = false := by simpa using h0
    have hne3 : (ae != (0 : Int)) = true := by simpa using h0
    have e0 : er = ae := by rw [← HER.out]; unfold rebaseE; rw [HAE.out, if_neg h0]
    have e1 : Lr = [] := by rw [← HLR.out, HER.out, e0, if_neg h0]
    subst e0 e1
    go_wp2
    refine ends_Reb _ _ _ _ rfl rfl (Y3.out.set (.slice none 0 0)).cell ⟨⟨none, 0, 0, rfl, Sq.nil_ rw_sz⟩, B4.out.1.trans ((G6.out.mono (by have := B4.out.2; omega)).setCell (p := ⟨w.heap.size + 1 + 1 + 1, 0, none⟩) (by simp; omega) _)⟩
end Go.Proofs.Ytgpakahmccafdaa
