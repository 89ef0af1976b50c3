/-
  MERGE: isOf, EqualFunc.
  MERGE: Merge.
  MERGE: Rebase.
-/
import Derived.RangeFuncNested
import Derived.RangeFuncBound
import Derived.RangeFuncCalls
import Derived.RangeFuncLeaves
import Derived.RangeFuncBox
import Derived.Shelf.Abstract
import Derived.Shelf.RegionOpen
import Derived.WalkKit
import Derived.OwnWalkIn
import Derived.TacticsInMore
import Derived.LoopNIn
import Derived.LoopIn
import Derived.Deep.Cut
import Derived.Great.BuildSlice
import Derived.Great.FillDense
import Derived.Test.YtkdmlffnkomdhaaMc
import Derived.Test.YtkdmlffnkomdhaaMe
import Derived.Test.YtkdmlffnkomdhaaMg
import Derived.Test.YtkdmlffnkomdhaaBs
import Derived.Test.YtkdmlffnkomdhaaPo
import Derived.Test.YtkdmlffnkomdhaaPk
namespace Go.Proofs.Ytkdmlffnkomdhaa
set_option linter.unusedVariables false
set_option linter.unusedSimpArgs false
set_option pp.deepTerms true
set_option pp.maxSteps 200000
open Go.RowKit Go.WideShapes Go.ChangeShapes Go.Deep Go.Shelf
attribute [local go_sem] Oper.semAt_some
attribute [local irreducible] wpQuiet

set_option maxRecDepth 100000 in
set_option maxHeartbeats 2000000 in
theorem isOf_any (x : Pl) (d : Ch) (w : World) : Calls Try.prog 44 #[plV x, chV d] w fun e w' => e = .returned (.bool (x.p.toList == d.p.toList)) ∧ Below w.heap.size w w' := by
  obtain ⟨w1, hw1⟩ : ∃ w1, (w.alloc (.cells x.cells.toArray 43)).alloc (.cells d.cells.toArray 81) = w1 := ⟨_, rfl⟩
  have B1 : Hid (Below w.heap.size w w1) := Lib.hid (by rw [← hw1]; exact ((Below.refl _ _).alloc (Nat.le_refl _) _).alloc (by simp) _)
  have X0 : Hid (Lies w1 w.heap.size 7 x.cells) := Lib.hid (by rw [← hw1]; exact (Lies.new w x.cells 43).alloc _)
  have X1 : Hid (Lies w1 (w.heap.size + 1) 3 d.cells) := Lib.hid (by
    rw [← hw1]
    have h := Lies.new (w.alloc (.cells x.cells.toArray 43)) d.cells 81
    rwa [World.size_alloc] at h)
  have HW := Lib.hid hw1
  clear hw1
  have q0 := X0.out.cell (j := 0) rfl
  have q1 := X1.out.cell (j := 0) rfl
  go_enter Try.func44, Try.ntmps44
  go_upto_region 1 with fail
  have HW2 := HW.out
  simp only [Pl.cells, Ch.cells] at HW2
  rw [HW2]
  clear HW HW2
  go_wp2
  go_ret
  exact ⟨rfl, B1.out⟩

theorem same_text {a b : ByteArray} (h : (a.toList == b.toList) = true) : a = b := by
  have h1 : a.toList = b.toList := by simpa using h
  exact bytes_ext h1
theorem same_text_not {a b : ByteArray} (h : (a.toList == b.toList) = false) : a ≠ b := by
  rintro rfl
  simp at h
def eqW (lp : List Pl) (lc : List Ch) : Bool := decide (lc.map Ch.p = lp.map Pl.p)
theorem eqW_len {lp : List Pl} {lc : List Ch} (h : lp.length ≠ lc.length) : eqW lp lc = false := by
  unfold eqW
  rw [decide_eq_false_iff_not]
  intro e
  have := congrArg List.length e
  simp at this
  omega
theorem eqW_not {lp : List Pl} {lc : List Ch} {k : Nat} (h1 : k < lp.length) (h2 : k < lc.length) (h : lp[k].p ≠ lc[k].p) : eqW lp lc = false := by
  unfold eqW
  rw [decide_eq_false_iff_not]
  intro e
  apply h
  have := congrArg (fun l => l[k]?) e
  simpa [List.getElem?_eq_getElem h1, List.getElem?_eq_getElem h2, eq_comm] using this
theorem eqW_yes {lp : List Pl} {lc : List Ch} (hl : lp.length = lc.length) (h : ∀ k (h1 : k < lp.length) (h2 : k < lc.length), lp[k].p = lc[k].p) : eqW lp lc = true := by
  unfold eqW
  rw [decide_eq_true_iff]
  apply List.ext_getElem
  · simp [hl]
  · intro i h1 h2
    simp only [List.getElem_map]
    exact (h i (by simpa using h2) (by simpa using h1)).symm

set_option maxRecDepth 100000 in
set_option maxHeartbeats 4000000 in
theorem EqualFunc_any {w : World} {A1 : Option Addr} {n1 c1 : Nat} {l1 : List Pl} (h1 : SqP w w.heap.size A1 n1 c1 l1) (hn1 : n1 ≤ 1000000) {A2 : Option Addr} {n2 c2 : Nat} {l2 : List Ch} (h2 : SqC w w.heap.size A2 n2 c2 l2) (hn2 : n2 ≤ 1000000) :
    Calls Try.prog 43 #[.slice A1 n1 c1, .slice A2 n2 c2, .func (.func 44) #[] #[]] w fun e w' => e = .returned (.bool (eqW l1 l2)) ∧ Below w.heap.size w w' := by
  have hl1 := h1.len
  have hl2 := h2.len
  obtain ⟨ev, hev⟩ : ∃ ev, eqW l1 l2 = ev := ⟨_, rfl⟩
  rw [hev]
  have HE := Lib.hid hev
  have HS1 := Lib.hid h1
  have HS2 := Lib.hid h2
  clear h1 h2 hev
  go_enter Try.func43, Try.ntmps43
  by_cases hlen : n1 = n2
  · subst hlen
    have hn0 : (0 : Int) ≤ (n1 : Int) := Int.natCast_nonneg _
    go_wp2
    go_loopw [17] (fun i wr => ∃ k : Nat, k ≤ n1 ∧ i = .int .i64 (k : Int) ∧ Hid (∀ j (hj : j < k) (hl : j < l1.length) (hl2 : j < l2.length), l1[j].p = l2[j].p) ∧ Hid (Below w.heap.size w wr)) (fun i _ => n1 - (intOf i).toNat)
    case atStart => exact ⟨0, Nat.zero_le _, rfl, Lib.hid (fun j hj => absurd hj (by omega)), Lib.hid (Below.refl _ _)⟩
    case round =>
      obtain ⟨k, hk, rfl, hg, hb⟩ := hrel
      by_cases hlt : k < n1
      · have hd : decide ((k : Int) < (n1 : Int)) = true := by simp; omega
        have hk0 : (0 : Int) ≤ (k : Int) := Int.natCast_nonneg _
        have hk1 : (k : Int) < (n1 : Int) := by omega
        obtain ⟨b1, o1, rfl, hbl1, hr1⟩ := (HS1.out.below hb.out).at_ hlt
        obtain ⟨b2, o2, rfl, hbl2, hr2⟩ := (HS2.out.below hb.out).at_ hlt
        obtain ⟨x, hx⟩ : ∃ x, l1[k]'(by omega) = x := ⟨_, rfl⟩
        obtain ⟨d, hdd⟩ : ∃ d, l2[k]'(by omega) = d := ⟨_, rfl⟩
        rw [hx] at hr1
        rw [hdd] at hr2
        have r0 : wr.cell? ⟨b1, o1 + k * 7, none⟩ = some (.string x.p) := hr1 0 _ rfl
        have r1 : wr.cell? ⟨b1, o1 + k * 7 + 1, none⟩ = some (.bool x.b.is) := hr1 1 _ rfl
        have r2 : wr.cell? ⟨b1, o1 + k * 7 + 2, none⟩ = some (.string x.b.t) := hr1 2 _ rfl
        have r3 : wr.cell? ⟨b1, o1 + k * 7 + 3, none⟩ = some (.bool x.o.is) := hr1 3 _ rfl
        have r4 : wr.cell? ⟨b1, o1 + k * 7 + 4, none⟩ = some (.string x.o.t) := hr1 4 _ rfl
        have r5 : wr.cell? ⟨b1, o1 + k * 7 + 5, none⟩ = some (.bool x.t.is) := hr1 5 _ rfl
        have r6 : wr.cell? ⟨b1, o1 + k * 7 + 6, none⟩ = some (.string x.t.t) := hr1 6 _ rfl
        have s0 : wr.cell? ⟨b2, o2 + k * 3, none⟩ = some (.string d.p) := hr2 0 _ rfl
        have s1 : wr.cell? ⟨b2, o2 + k * 3 + 1, none⟩ = some (.bool d.is) := hr2 1 _ rfl
        have s2 : wr.cell? ⟨b2, o2 + k * 3 + 2, none⟩ = some (.string d.t) := hr2 2 _ rfl
        obtain ⟨wx, hwx⟩ : ∃ wx, wr.alloc (.cells x.cells.toArray 43) = wx := ⟨_, rfl⟩
        obtain ⟨wd, hwd⟩ : ∃ wd, wx.alloc (.cells d.cells.toArray 81) = wd := ⟨_, rfl⟩
        have HX : Hid (Below wr.heap.size wr wx ∧ wx.heap.size = wr.heap.size + 1) := Lib.hid (by rw [← hwx]; exact ⟨(Below.refl _ _).alloc (Nat.le_refl _) _, by simp⟩)
        have HD : Hid (Below wr.heap.size wr wd ∧ wd.heap.size = wr.heap.size + 1 + 1) := Lib.hid (by rw [← hwd]; exact ⟨HX.out.1.alloc HX.out.1.size _, by rw [World.size_alloc, HX.out.2]⟩)
        have LX : Hid (Lies wd wr.heap.size 7 x.cells) := Lib.hid (by rw [← hwd, ← hwx]; exact (Lies.new wr x.cells 43).alloc _)
        have LD : Hid (Lies wd wx.heap.size 3 d.cells) := Lib.hid (by rw [← hwd]; exact Lies.new wx d.cells 81)
        obtain ⟨q, hq⟩ : ∃ q, (x.p.toList == d.p.toList) = q := ⟨_, rfl⟩
        have NO : Hid (q = false → ev = false) := Lib.hid (fun e => by
          rw [← HE.out]
          exact eqW_not (k := k) (by omega) (by omega) (by rw [hx, hdd]; exact same_text_not (by rw [hq]; exact e)))
        have YES : Hid (q = true → ∀ j (hj : j < k + 1) (hl : j < l1.length) (hl2 : j < l2.length), l1[j].p = l2[j].p) := Lib.hid (fun e j hj hl hl2 => by
          by_cases e2 : j = k
          · subst e2; rw [hx, hdd]; exact same_text (by rw [hq]; exact e)
          · exact hg.out j (by omega) hl hl2)
        have IO := Lib.hid (fun w' => by have T := isOf_any x d w'; rw [hq] at T; exact T)
        have HDD := Lib.hid hdd
        have HWX := Lib.hid hwx
        have HWD := Lib.hid hwd
        clear hr1 hr2 hx hdd hq hg hwx hwd
        go_upto_region 6 with fail
        have HW2 := HWX.out
        simp only [Pl.cells] at HW2
        rw [HW2]
        clear HWX HW2 r0 r1 r2 r3 r4 r5 r6 s0 s1 s2
        obtain ⟨b2', o2', e2, hbl2', hr2'⟩ := (HS2.out.below (hb.out.trans (HX.out.1.mono hb.out.size))).at_ hlt
        obtain ⟨rfl, rfl⟩ : b2 = b2' ∧ o2 = o2' := by simpa using e2
        clear e2 hbl2'
        rw [HDD.out] at hr2'
        have s0 : wx.cell? ⟨b2, o2 + k * 3, none⟩ = some (.string d.p) := hr2' 0 _ rfl
        have s1 : wx.cell? ⟨b2, o2 + k * 3 + 1, none⟩ = some (.bool d.is) := hr2' 1 _ rfl
        have s2 : wx.cell? ⟨b2, o2 + k * 3 + 2, none⟩ = some (.string d.t) := hr2' 2 _ rfl
        clear hr2' HDD
        go_upto_region 7 with fail
        have HW2 := HWD.out
        simp only [Ch.cells] at HW2
        rw [HW2]
        clear HWD HW2 s0 s1 s2
        have x0 := LX.out.cell (j := 0) rfl
        have x1 := LX.out.cell (j := 1) rfl
        have x2 := LX.out.cell (j := 2) rfl
        have x3 := LX.out.cell (j := 3) rfl
        have x4 := LX.out.cell (j := 4) rfl
        have x5 := LX.out.cell (j := 5) rfl
        have x6 := LX.out.cell (j := 6) rfl
        have y0 := LD.out.cell (j := 0) rfl
        have y1 := LD.out.cell (j := 1) rfl
        have y2 := LD.out.cell (j := 2) rfl
        have HB := Lib.hid (hb.out.trans (HD.out.1.mono hb.out.size))
        have HZ := Lib.hid HB.out.size
        cases q
        · have e := NO.out rfl
          subst e
          clear NO YES
          go_wp2_with (first
            | (go_at_call 44; have T := IO.out wd; with_reducible refine Calls.mono T ?_; clear T; rintro e w5 ⟨rfl, hb5⟩; have HB5 := Lib.hid hb5; clear hb5)
            | fail)
          go_ret
          exact ⟨rfl, HB.out.trans (HB5.out.mono HB.out.size)⟩
        · have YES1 := Lib.hid (YES.out rfl)
          clear NO YES
          go_wp2_with (first
            | (go_at_call 44; have T := IO.out wd; with_reducible refine Calls.mono T ?_; clear T; rintro e w5 ⟨rfl, hb5⟩; have HB5 := Lib.hid hb5; clear hb5)
            | fail)
          go_roundw
          case rel => exact ⟨k + 1, by omega, by go_num, YES1, Lib.hid (HB.out.trans (HB5.out.mono HB.out.size))⟩
          case measure => simp [intOf]; omega
      · have hd : decide ((k : Int) < (n1 : Int)) = false := by simp; omega
        have e : ev = true := by
          rw [← HE.out]
          exact eqW_yes (by omega) (fun j h1 h2 => hg.out j (by omega) h1 h2)
        subst e
        clear hg
        go_wp2
        go_ret
        exact ⟨rfl, hb.out⟩
  · have hne : ¬ ((n1 : Int) = (n2 : Int)) := by omega
    have hne2 : ((n1 : Int) == (n2 : Int)) = false := by simpa using hne
    have hne3 : ((n1 : Int) != (n2 : Int)) = true := by simpa using hne
    have e : ev = false := by
      rw [← HE.out]
      exact eqW_len (by omega)
    subst e
    go_wp2
    go_ret
    exact ⟨rfl, Below.refl _ _⟩
end Go.Proofs.Ytkdmlffnkomdhaa
namespace Go.Proofs.Ytkdmlffnkomdhaa
set_option linter.unusedVariables false
set_option linter.unusedSimpArgs false
set_option pp.deepTerms true
set_option pp.maxSteps 200000
open Go.RowKit Go.WideShapes Go.ChangeShapes Go.Deep Go.Shelf
attribute [local go_sem] Oper.semAt_some
attribute [local irreducible] wpQuiet

/-- What comes of three maps and an edit. -/
def mergeE (lb lo lt : List Rw) (e : List Ch) : Int := if confE lb lo lt = 0 then (if rightC e then (if eqW (confW lb lo lt) e then mergedE lb lo lt e else 170) else 151) else 150
theorem confE_or (lb lo lt : List Rw) : confE lb lo lt = 0 ∨ confE lb lo lt = 150 := by
  unfold confE
  cases rightR lb && (rightR lo && rightR lt) <;> simp
theorem size_chs (A : Option Addr) (n c : Nat) : (Try.prog.info? 34).map (·.size) = some [Value.slice A n c].length := by show _ = some 1; kernel_rfl
theorem results_Mrg (tmps : Array Value) (W : World) (b : Nat) (v : Value) (k : Int) (h8 : tmps.getD 8 undef = .pointer (some ⟨b, 0, none⟩)) (h9 : tmps.getD 9 undef = .int .i64 k) (x : W.cell? ⟨b, 0, none⟩ = some v) :
    (results Try.f19 tmps).run Try.prog W = .ok (.tuple #[.agg #[v], .int .i64 k]) W := by
  have h8' : tmps[8]?.getD undef = .pointer (some ⟨b, 0, none⟩) := by simpa using h8
  have h9' : tmps[9]?.getD undef = .int .i64 k := by simpa using h9
  simp [results, Try.f19, go_sem, h8', h9', x]
theorem ends_Mrg {W : World} {R : Ending → World → Prop} (tmps : Array Value) (b : Nat) (v : Value) (k : Int) (h8 : tmps.getD 8 undef = .pointer (some ⟨b, 0, none⟩)) (h9 : tmps.getD 9 undef = .int .i64 k) (x : W.cell? ⟨b, 0, none⟩ = some v)
    (h : R (.returned (.tuple #[.agg #[v], .int .i64 k])) W) : bodyPost Try.prog Try.f19 R Exit.ret { tmps := tmps, defers := [] } W :=
  bodyPost_ret (results_Mrg tmps W b v k h8 h9 x) rfl h
theorem rg_put {W : World} {b B o : Nat} {l : List Value} (h : W.rangeAt b o l) (hb : b ≠ B) (vs : List Value) : (W.setCells B 0 vs).rangeAt b o l := rangeAt_keep h ((setCells_os B vs 0 W).2.2.2.2 b hb)
set_option maxRecDepth 100000 in
set_option maxHeartbeats 8000000 in
theorem Merge_any {w : World} {A1 : Option Addr} {n1 c1 : Nat} {l1 : List Rw} (h1 : SqR w w.heap.size A1 n1 c1 l1) (hm1 : n1 ≤ 1000) {A2 : Option Addr} {n2 c2 : Nat} {l2 : List Rw} (h2 : SqR w w.heap.size A2 n2 c2 l2) (hm2 : n2 ≤ 1000) {A3 : Option Addr} {n3 c3 : Nat} {l3 : List Rw} (h3 : SqR w w.heap.size A3 n3 c3 l3) (hm3 : n3 ≤ 1000) {A : Option Addr} {n c : Nat} {by' : List Ch} (hs : SqC w w.heap.size A n c by') (hn : n ≤ 1000) :
    Calls Try.prog 19 #[.agg #[.slice A1 n1 c1], .agg #[.slice A2 n2 c2], .agg #[.slice A3 n3 c3], .agg #[.slice A n c]] w fun en w' => (∃ A9 n9 c9, en = .returned (.tuple #[.agg #[.slice A9 n9 c9], .int .i64 (mergeE l1 l2 l3 by')]) ∧ SqR w' w'.heap.size A9 n9 c9 (if mergeE l1 l2 l3 by' = 0 then mergedW l1 l2 l3 by' else [])) ∧ Below w.heap.size w w' := by
  obtain ⟨Lr, hLr⟩ : ∃ Lr, (if mergeE l1 l2 l3 by' = 0 then mergedW l1 l2 l3 by' else []) = Lr := ⟨_, rfl⟩
  obtain ⟨er, her⟩ : ∃ er, mergeE l1 l2 l3 by' = er := ⟨_, rfl⟩
  have HLR := Lib.hid hLr
  have HER := Lib.hid her
  rw [hLr, her]
  clear hLr her
  have hl1 := h1.len
  have hl2 := h2.len
  have hl3 := h3.len
  have HLN : Hid ((confW l1 l2 l3).length ≤ 3000) := Lib.hid (by
    have a1 := plsW_len l1 l2 l3
    have a2 : (confW l1 l2 l3).length ≤ (plsW l1 l2 l3).length := List.length_filter_le _ _
    omega)
  clear hl1 hl2 hl3
  obtain ⟨w5, hw5⟩ : ∃ w5, ((((w.alloc (.cells #[.slice A1 n1 c1] 24)).alloc (.cells #[.slice A2 n2 c2] 24)).alloc (.cells #[.slice A3 n3 c3] 24)).alloc (.cells #[.slice A n c] 36)).alloc (.cells #[.slice none 0 0] 24) = w5 := ⟨_, rfl⟩
  have B5 : Hid (Below w.heap.size w w5 ∧ w5.heap.size = w.heap.size + 5) := Lib.hid (by
    rw [← hw5]
    exact ⟨(((((Below.refl _ _).alloc (Nat.le_refl _) _).alloc (by simp) _).alloc (by simp; omega) _).alloc (by simp; omega) _).alloc (by simp; omega) _, by simp⟩)
  have X0 : Hid (Lies w5 (w.heap.size) 1 [.slice A1 n1 c1]) := Lib.hid (by
    rw [← hw5]
    have h := (((((Lies.new w [.slice A1 n1 c1] 24).alloc (.cells #[.slice A2 n2 c2] 24)).alloc (.cells #[.slice A3 n3 c3] 24)).alloc (.cells #[.slice A n c] 36)).alloc (.cells #[.slice none 0 0] 24))
    simpa only [World.size_alloc, List.length_cons, List.length_nil, Nat.zero_add] using h)
  have X1 : Hid (Lies w5 (w.heap.size + 1) 1 [.slice A2 n2 c2]) := Lib.hid (by
    rw [← hw5]
    have h := ((((Lies.new (w.alloc (.cells #[.slice A1 n1 c1] 24)) [.slice A2 n2 c2] 24).alloc (.cells #[.slice A3 n3 c3] 24)).alloc (.cells #[.slice A n c] 36)).alloc (.cells #[.slice none 0 0] 24))
    simpa only [World.size_alloc, List.length_cons, List.length_nil, Nat.zero_add] using h)
  have X2 : Hid (Lies w5 (w.heap.size + 1 + 1) 1 [.slice A3 n3 c3]) := Lib.hid (by
    rw [← hw5]
    have h := (((Lies.new ((w.alloc (.cells #[.slice A1 n1 c1] 24)).alloc (.cells #[.slice A2 n2 c2] 24)) [.slice A3 n3 c3] 24).alloc (.cells #[.slice A n c] 36)).alloc (.cells #[.slice none 0 0] 24))
    simpa only [World.size_alloc, List.length_cons, List.length_nil, Nat.zero_add] using h)
  have X3 : Hid (Lies w5 (w.heap.size + 1 + 1 + 1) 1 [.slice A n c]) := Lib.hid (by
    rw [← hw5]
    have h := ((Lies.new (((w.alloc (.cells #[.slice A1 n1 c1] 24)).alloc (.cells #[.slice A2 n2 c2] 24)).alloc (.cells #[.slice A3 n3 c3] 24)) [.slice A n c] 36).alloc (.cells #[.slice none 0 0] 24))
    simpa only [World.size_alloc, List.length_cons, List.length_nil, Nat.zero_add] using h)
  have X4 : Hid (Boxed w5 (w.heap.size + 1 + 1 + 1 + 1) 24 (.slice none 0 0)) := Lib.hid (by
    rw [← hw5]
    have h := Boxed.new ((((w.alloc (.cells #[.slice A1 n1 c1] 24)).alloc (.cells #[.slice A2 n2 c2] 24)).alloc (.cells #[.slice A3 n3 c3] 24)).alloc (.cells #[.slice A n c] 36)) 24 (.slice none 0 0)
    simpa only [World.size_alloc] using h)
  have X4L : Hid (Lies w5 (w.heap.size + 1 + 1 + 1 + 1) 1 [.slice none 0 0]) := Lib.hid (by
    rw [← hw5]
    have h := Lies.new ((((w.alloc (.cells #[.slice A1 n1 c1] 24)).alloc (.cells #[.slice A2 n2 c2] 24)).alloc (.cells #[.slice A3 n3 c3] 24)).alloc (.cells #[.slice A n c] 36)) [.slice none 0 0] 24
    simpa only [World.size_alloc, List.length_cons, List.length_nil, Nat.zero_add] using h)
  have HS1 : Hid (∀ W, Below w5.heap.size w5 W → SqR W W.heap.size A1 n1 c1 l1) := Lib.hid fun W hW => (h1.below (B5.out.1.trans (hW.mono B5.out.1.size))).more (Nat.le_trans B5.out.1.size hW.size)
  have HS2 : Hid (∀ W, Below w5.heap.size w5 W → SqR W W.heap.size A2 n2 c2 l2) := Lib.hid fun W hW => (h2.below (B5.out.1.trans (hW.mono B5.out.1.size))).more (Nat.le_trans B5.out.1.size hW.size)
  have HS3 : Hid (∀ W, Below w5.heap.size w5 W → SqR W W.heap.size A3 n3 c3 l3) := Lib.hid fun W hW => (h3.below (B5.out.1.trans (hW.mono B5.out.1.size))).more (Nat.le_trans B5.out.1.size hW.size)
  have HS : Hid (∀ W, Below w5.heap.size w5 W → SqC W W.heap.size A n c by') := Lib.hid fun W hW => (hs.below (B5.out.1.trans (hW.mono B5.out.1.size))).more (Nat.le_trans B5.out.1.size hW.size)
  have HR : Hid (∀ W, Below w5.heap.size w5 W → W.rangeAt w.heap.size 0 [.slice A1 n1 c1] ∧ W.rangeAt (w.heap.size + 1) 0 [.slice A2 n2 c2] ∧ W.rangeAt (w.heap.size + 1 + 1) 0 [.slice A3 n3 c3] ∧ W.rangeAt (w.heap.size + 1 + 1 + 1) 0 [.slice A n c]) := Lib.hid fun W hW =>
    ⟨(X0.out.below hW X0.out.lt).rg, (X1.out.below hW X1.out.lt).rg, (X2.out.below hW X2.out.lt).rg, (X3.out.below hW X3.out.lt).rg⟩
  have HQ : Hid (∀ W, Below w5.heap.size w5 W → W.cell? ⟨w.heap.size, 0, none⟩ = some (.slice A1 n1 c1) ∧ W.cell? ⟨w.heap.size + 1, 0, none⟩ = some (.slice A2 n2 c2) ∧ W.cell? ⟨w.heap.size + 1 + 1, 0, none⟩ = some (.slice A3 n3 c3) ∧ W.cell? ⟨w.heap.size + 1 + 1 + 1, 0, none⟩ = some (.slice A n c)) := Lib.hid fun W hW =>
    ⟨(X0.out.below hW X0.out.lt).cell (j := 0) rfl, (X1.out.below hW X1.out.lt).cell (j := 0) rfl, (X2.out.below hW X2.out.lt).cell (j := 0) rfl, (X3.out.below hW X3.out.lt).cell (j := 0) rfl⟩
  have HE := Lib.hid (fun (W : World) (hW : Below w5.heap.size w5 W) => CheckEdit_any (HS.out W hW) (show n ≤ 1000000 by omega))
  have HC := Lib.hid (Conflicts_any (HS1.out w5 (Below.refl _ _)) hm1 (HS2.out w5 (Below.refl _ _)) hm2 (HS3.out w5 (Below.refl _ _)) hm3)
  have HW := Lib.hid hw5
  obtain ⟨ce, hce⟩ : ∃ r, confE l1 l2 l3 = r := ⟨_, rfl⟩
  obtain ⟨re, hre⟩ : ∃ r, rightC by' = r := ⟨_, rfl⟩
  obtain ⟨qe, hqe⟩ : ∃ r, eqW (confW l1 l2 l3) by' = r := ⟨_, rfl⟩
  have HEV : Hid (er = if ce = 0 then (if re then (if qe then mergedE l1 l2 l3 by' else 170) else 151) else 150) := Lib.hid (by rw [← HER.out]; unfold mergeE; rw [hce, hre, hqe])
  have hcase := confE_or l1 l2 l3
  have HRE := Lib.hid hre
  have HQE := Lib.hid hqe
  rw [hce] at HC hcase
  rw [hre] at HE
  clear hw5 hce hre hqe h1 h2 h3 hs
  go_enter Try.func19, Try.ntmps19
  go_upto_region 1 with fail
  rw [HW.out]
  clear HW
  obtain ⟨q0, q1, q2, q3⟩ := HQ.out _ (Below.refl _ _)
  rcases hcase with rfl | rfl
  · cases re
    · have e0 : er = 151 := by rw [HEV.out]; rfl
      have e1 : Lr = [] := by rw [← HLR.out, HER.out, e0]; rfl
      subst e0 e1
      go_wp2_with (first | (go_at_call 12; have T := HC.out; with_reducible refine Calls.mono T ?_; clear T; rintro e w6 ⟨⟨A6, n6, c6, rfl, hs6⟩, hb6⟩; have G6 := Lib.hid hb6; have S6 := Lib.hid hs6; have Y4 := Lib.hid (X4.out.kept (only_of_below hb6 none) (by simp)); obtain ⟨q0, q1, q2, q3⟩ := HQ.out _ hb6; have f4 := Y4.out.frozen; have c4 := Y4.out.cell; clear hb6 hs6) | (go_at_call 42; have T := HE.out _ G6.out; with_reducible refine Calls.mono T ?_; clear T; rintro e w7 ⟨rfl, hb7⟩; have G7 := Lib.hid (G6.out.trans (hb7.mono G6.out.size)); have S7 := Lib.hid ((S6.out.below hb7).more hb7.size); clear q0 q1 q2 q3 f4 c4; have Z4 := Lib.hid (Y4.out.kept (only_of_below hb7 none) (by simp)); obtain ⟨q0, q1, q2, q3⟩ := HQ.out _ G7.out; have f4 := Z4.out.frozen; have c4 := Z4.out.cell; clear hb7) | fail)
      refine ends_Mrg _ _ _ _ rfl rfl (Z4.out.set (.slice none 0 0)).cell ⟨⟨none, 0, 0, rfl, Sq.nil_ rw_sz⟩, B5.out.1.trans ((G7.out.mono (by have := B5.out.2; omega)).setCell (p := ⟨w.heap.size + 1 + 1 + 1 + 1, 0, none⟩) (by simp; omega) _)⟩
    · have HEQ : Hid (eqW (if (0 : Int) = 0 then confW l1 l2 l3 else []) by' = qe) := Lib.hid (by rw [if_pos rfl]; exact HQE.out)
      cases qe
      · have e0 : er = 170 := by rw [HEV.out]; rfl
        have e1 : Lr = [] := by rw [← HLR.out, HER.out, e0]; rfl
        subst e0 e1
        go_wp2_with (first | (go_at_call 12; have T := HC.out; with_reducible refine Calls.mono T ?_; clear T; rintro e w6 ⟨⟨A6, n6, c6, rfl, hs6⟩, hb6⟩; have G6 := Lib.hid hb6; have S6 := Lib.hid hs6; have Y4 := Lib.hid (X4.out.kept (only_of_below hb6 none) (by simp)); obtain ⟨q0, q1, q2, q3⟩ := HQ.out _ hb6; have f4 := Y4.out.frozen; have c4 := Y4.out.cell; clear hb6 hs6) | (go_at_call 42; have T := HE.out _ G6.out; with_reducible refine Calls.mono T ?_; clear T; rintro e w7 ⟨rfl, hb7⟩; have G7 := Lib.hid (G6.out.trans (hb7.mono G6.out.size)); have S7 := Lib.hid ((S6.out.below hb7).more hb7.size); clear q0 q1 q2 q3 f4 c4; have Z4 := Lib.hid (Y4.out.kept (only_of_below hb7 none) (by simp)); obtain ⟨q0, q1, q2, q3⟩ := HQ.out _ G7.out; have f4 := Z4.out.frozen; have c4 := Z4.out.cell; clear hb7) | (go_at_call 43; have T := EqualFunc_any S7.out (show n6 ≤ 1000000 by have := S7.out.len; have := HLN.out; simp at *; omega) (HS.out _ G7.out) (show n ≤ 1000000 by omega); rw [HEQ.out] at T; with_reducible refine Calls.mono T ?_; clear T; rintro e w8 ⟨rfl, hb8⟩; have G8 := Lib.hid (G7.out.trans (hb8.mono G7.out.size)); clear q0 q1 q2 q3 f4 c4; have V4 := Lib.hid (Z4.out.kept (only_of_below hb8 none) (by simp)); obtain ⟨q0, q1, q2, q3⟩ := HQ.out _ G8.out; have f4 := V4.out.frozen; have c4 := V4.out.cell; clear hb8) | fail)
        refine ends_Mrg _ _ _ _ rfl rfl (V4.out.set (.slice none 0 0)).cell ⟨⟨none, 0, 0, rfl, Sq.nil_ rw_sz⟩, B5.out.1.trans ((G8.out.mono (by have := B5.out.2; omega)).setCell (p := ⟨w.heap.size + 1 + 1 + 1 + 1, 0, none⟩) (by simp; omega) _)⟩
      · have e0 : er = mergedE l1 l2 l3 by' := by rw [HEV.out]; rfl
        have HUP := Lib.hid (rightC_parts HRE.out).1
        have HFT : Hid (by'.map Ch.p = (cfs (plsW l1 l2 l3)).map Pl.p) := Lib.hid (of_decide_eq_true HQE.out)
        go_upto_region 9 with (first | (go_at_call 12; have T := HC.out; with_reducible refine Calls.mono T ?_; clear T; rintro e w6 ⟨⟨A6, n6, c6, rfl, hs6⟩, hb6⟩; have G6 := Lib.hid hb6; have S6 := Lib.hid hs6; have Y4 := Lib.hid (X4.out.kept (only_of_below hb6 none) (by simp)); obtain ⟨q0, q1, q2, q3⟩ := HQ.out _ hb6; have f4 := Y4.out.frozen; have c4 := Y4.out.cell; clear hb6 hs6) | (go_at_call 42; have T := HE.out _ G6.out; with_reducible refine Calls.mono T ?_; clear T; rintro e w7 ⟨rfl, hb7⟩; have G7 := Lib.hid (G6.out.trans (hb7.mono G6.out.size)); have S7 := Lib.hid ((S6.out.below hb7).more hb7.size); clear q0 q1 q2 q3 f4 c4; have Z4 := Lib.hid (Y4.out.kept (only_of_below hb7 none) (by simp)); obtain ⟨q0, q1, q2, q3⟩ := HQ.out _ G7.out; have f4 := Z4.out.frozen; have c4 := Z4.out.cell; clear hb7) | (go_at_call 43; have T := EqualFunc_any S7.out (show n6 ≤ 1000000 by have := S7.out.len; have := HLN.out; simp at *; omega) (HS.out _ G7.out) (show n ≤ 1000000 by omega); rw [HEQ.out] at T; with_reducible refine Calls.mono T ?_; clear T; rintro e w8 ⟨rfl, hb8⟩; have G8 := Lib.hid (G7.out.trans (hb8.mono G7.out.size)); clear q0 q1 q2 q3 f4 c4; have V4 := Lib.hid (Z4.out.kept (only_of_below hb8 none) (by simp)); obtain ⟨q0, q1, q2, q3⟩ := HQ.out _ G8.out; have f4 := V4.out.frozen; have c4 := V4.out.cell; clear hb8) | fail)
        have HS9 : Hid (∀ W, Below w8.heap.size w8 W → W.rangeAt w.heap.size 0 [.slice A1 n1 c1] ∧ W.rangeAt (w.heap.size + 1) 0 [.slice A2 n2 c2] ∧ W.rangeAt (w.heap.size + 1 + 1) 0 [.slice A3 n3 c3] ∧ W.rangeAt (w.heap.size + 1 + 1 + 1) 0 [.slice A n c]) := Lib.hid fun W hW => HR.out W (G8.out.trans (hW.mono G8.out.size))
        have HSX : Hid (∀ W, Below w8.heap.size w8 W → ∀ vs, (W.setCells (w.heap.size + 1 + 1 + 1 + 1) 0 vs).rangeAt w.heap.size 0 [.slice A1 n1 c1] ∧ (W.setCells (w.heap.size + 1 + 1 + 1 + 1) 0 vs).rangeAt (w.heap.size + 1) 0 [.slice A2 n2 c2] ∧ (W.setCells (w.heap.size + 1 + 1 + 1 + 1) 0 vs).rangeAt (w.heap.size + 1 + 1) 0 [.slice A3 n3 c3] ∧ (W.setCells (w.heap.size + 1 + 1 + 1 + 1) 0 vs).rangeAt (w.heap.size + 1 + 1 + 1) 0 [.slice A n c]) := Lib.hid fun W hW vs => by
          obtain ⟨k0, k1, k2, k3⟩ := HS9.out W hW
          exact ⟨rg_put k0 (by omega) vs, rg_put k1 (by omega) vs, rg_put k2 (by omega) vs, rg_put k3 (by omega) vs⟩
        have HP : Hid (∀ u1, u1 = ((w8.drew.alloc (.cells #[.slice A1 n1 c1] 24)).alloc (.cells #[.slice A2 n2 c2] 24)).alloc (.cells #[.slice A3 n3 c3] 24) → Below w8.heap.size w8 u1 ∧ T3 u1 w8.heap.size w8.heap.size (w8.heap.size + 1) (w8.heap.size + 1 + 1) A1 n1 c1 l1 A2 n2 c2 l2 A3 n3 c3 l3) := Lib.hid (fun u1 hu => by
          have hb : Below w8.heap.size w8 u1 := by
            rw [hu]
            exact ((((Below.refl w8.heap.size w8).drew).alloc (Nat.le_refl _) _).alloc (by simp) _).alloc (by simp; omega) _
          refine ⟨hb, (HS1.out w8 G8.out).below hb, (HS2.out w8 G8.out).below hb, (HS3.out w8 G8.out).below hb, hb.size, ?_, ?_, ?_⟩
          · rw [hu]
            exact ((Lies.new w8.drew [.slice A1 n1 c1] 24).alloc (.cells #[.slice A2 n2 c2] 24)).alloc (.cells #[.slice A3 n3 c3] 24)
          · rw [hu]
            have h := (Lies.new (w8.drew.alloc (.cells #[.slice A1 n1 c1] 24)) [.slice A2 n2 c2] 24).alloc (.cells #[.slice A3 n3 c3] 24)
            rwa [World.size_alloc] at h
          · rw [hu]
            have h := Lies.new ((w8.drew.alloc (.cells #[.slice A1 n1 c1] 24)).alloc (.cells #[.slice A2 n2 c2] 24)) [.slice A3 n3 c3] 24
            rwa [World.size_alloc, World.size_alloc] at h)
        have HL4 : Hid (∀ W, Below w8.heap.size w8 W → Lies W (w.heap.size + 1 + 1 + 1 + 1) 1 [.slice none 0 0]) := Lib.hid fun W hW => X4L.out.below (G8.out.trans (hW.mono G8.out.size)) X4L.out.lt
        have E0 := Lib.hid e0
        have E1 : Hid (Lr = (if er = 0 then mergedW l1 l2 l3 by' else [])) := Lib.hid (by rw [← HLR.out, HER.out])
        clear e0
        clear q0 q1 q2 q3 f4 c4 HEQ
        have hb0 : Below w8.heap.size w8 w8.drew := (Below.refl w8.heap.size w8).drew
        refine wp_region_noPanic ?_
        refine wp_region_held_drew (S := fun w' => w'.rangeAt w.heap.size 0 [.slice A1 n1 c1] ∧ w'.rangeAt (w.heap.size + 1) 0 [.slice A2 n2 c2] ∧ w'.rangeAt (w.heap.size + 1 + 1) 0 [.slice A3 n3 c3] ∧ w'.rangeAt (w.heap.size + 1 + 1 + 1) 0 [.slice A n c]) (by kernel_rfl) (HS9.out _ hb0) (fun _ => ?_)
        refine wpAnyH_take (i := 0) rfl (by kernel_rfl) (by kernel_rfl) (by kernel_rfl) (fun _ _ _ h => h) (yieldsIf_load_mid rfl 24 _ rfl (w.heap.size) (0) rfl ([.slice A1 n1 c1]) _ (fun w' hw' => hw'.1) Try.underlying24 rfl (size_map _ _ _)) (HS9.out _ hb0) ?_
        simp only [List.getElem_toArray, List.getElem_cons_zero, List.getElem_cons_succ, Act.put, List.setIfInBounds_toArray, List.set_cons_succ, List.set_cons_zero]
        refine wpAnyH_take (i := 1) rfl (by kernel_rfl) (by kernel_rfl) (by kernel_rfl) (fun _ _ _ h => h) (yieldsIf_load_mid rfl 24 _ rfl (w.heap.size + 1) (0) rfl ([.slice A2 n2 c2]) _ (fun w' hw' => hw'.2.1) Try.underlying24 rfl (size_map _ _ _)) (HS9.out _ hb0) ?_
        simp only [List.getElem_toArray, List.getElem_cons_zero, List.getElem_cons_succ, Act.put, List.setIfInBounds_toArray, List.set_cons_succ, List.set_cons_zero]
        refine wpAnyH_take (i := 2) rfl (by kernel_rfl) (by kernel_rfl) (by kernel_rfl) (fun _ _ _ h => h) (yieldsIf_load_mid rfl 24 _ rfl (w.heap.size + 1 + 1) (0) rfl ([.slice A3 n3 c3]) _ (fun w' hw' => hw'.2.2.1) Try.underlying24 rfl (size_map _ _ _)) (HS9.out _ hb0) ?_
        simp only [List.getElem_toArray, List.getElem_cons_zero, List.getElem_cons_succ, Act.put, List.setIfInBounds_toArray, List.set_cons_succ, List.set_cons_zero]
        refine wpAnyH_take (i := 4) rfl (by kernel_rfl) (by kernel_rfl) (by kernel_rfl) (fun _ _ _ h => h) (.inl ⟨rfl, fun w' hw' => (by clear hw'; go_simp; rfl)⟩) (HS9.out _ hb0) ?_
        simp only [List.getElem_toArray, List.getElem_cons_zero, List.getElem_cons_succ, Act.put, List.setIfInBounds_toArray, List.set_cons_succ, List.set_cons_zero]
        refine wpAnyH_take (i := 5) rfl (by kernel_rfl) (by kernel_rfl) (by kernel_rfl) (fun _ _ _ h => h) (.inl ⟨rfl, fun w' hw' => (by have c3 : w'.cell? ⟨w.heap.size + 1 + 1 + 1, 0, none⟩ = some (.slice A n c) := hw'.2.2.2 0 _ rfl; clear hw'; go_simp; rfl)⟩) (HS9.out _ hb0) ?_
        simp only [List.getElem_toArray, List.getElem_cons_zero, List.getElem_cons_succ, Act.put, List.setIfInBounds_toArray, List.set_cons_succ, List.set_cons_zero]
        refine wpAnyH_ready (rs := [3]) (by kernel_rfl) (by simp) (AllReadyH.cons rfl (fun K hK => ?_) AllReadyH.nil)
        rw [if_pos (by rfl)]
        have T := places_any A1 n1 c1 A2 n2 c2 A3 n3 c3 w8.drew
        refine wp_fn (f := 37) (xs := #[.agg #[.slice A1 n1 c1], .agg #[.slice A2 n2 c2], .agg #[.slice A3 n3 c3]]) (by first | (go_simp; done) | (go_simp; rfl)) (T.mono ?_)
        clear T
        rintro e u1 ⟨rfl, hu1⟩
        obtain ⟨hb1, T1⟩ := HP.out u1 hu1
        clear hu1
        refine ⟨_, rfl, hK.out _ _ (HS9.out _ hb1) (fun _ => ?_)⟩
        simp only [List.getElem_toArray, List.getElem_cons_zero, List.getElem_cons_succ, Act.put, List.setIfInBounds_toArray, List.set_cons_succ, List.set_cons_zero]
        refine wpAnyH_ready (rs := [6]) (by kernel_rfl) (by simp) (AllReadyH.cons rfl (fun K hK => ?_) AllReadyH.nil)
        rw [if_pos (by rfl)]
        have T := merged_any T1 (by omega) (by omega) (by omega) (HS.out u1 (G8.out.trans (hb1.mono G8.out.size))) (by omega) HFT.out HUP.out
        rw [← E0.out] at T
        rw [← E1.out] at T
        refine wp_fn (f := 45) (xs := #[.func (.func 60) #[] #[.pointer (some ⟨w8.heap.size, 0, none⟩), .pointer (some ⟨w8.heap.size + 1, 0, none⟩), .pointer (some ⟨w8.heap.size + 1 + 1, 0, none⟩)], .slice A n c]) (by first | (go_simp; done) | (go_simp; rfl)) (T.mono ?_)
        clear T
        rintro e u2 ⟨⟨A9, n9, c9, rfl, hs9⟩, hb9⟩
        have hb2 := hb1.trans (hb9.mono hb1.size)
        have E4 := Lib.hid (V4.out.kept (only_of_below hb2 none) (by simp))
        have S9 := Lib.hid hs9
        clear hb9 hs9
        refine ⟨_, rfl, hK.out _ _ (HS9.out _ hb2) (fun _ => ?_)⟩
        simp only [List.getElem_toArray, List.getElem_cons_zero, List.getElem_cons_succ, Act.put, List.setIfInBounds_toArray, List.set_cons_succ, List.set_cons_zero]
        refine wpAnyH_take (i := 7) rfl (by kernel_rfl) (by kernel_rfl) (by kernel_rfl) (fun _ _ _ h => h) (.inl ⟨rfl, fun w' hw' => (by clear hw'; go_simp; rfl)⟩) (HS9.out _ hb2) ?_
        simp only [List.getElem_toArray, List.getElem_cons_zero, List.getElem_cons_succ, Act.put, List.setIfInBounds_toArray, List.set_cons_succ, List.set_cons_zero]
        refine wpAnyH_take (i := 8) rfl (by kernel_rfl) (by kernel_rfl) (by kernel_rfl) (fun _ _ _ h => h) (.inl ⟨rfl, fun w' hw' => (by clear hw'; go_simp; rfl)⟩) (HS9.out _ hb2) ?_
        simp only [List.getElem_toArray, List.getElem_cons_zero, List.getElem_cons_succ, Act.put, List.setIfInBounds_toArray, List.set_cons_succ, List.set_cons_zero]
        refine wpAnyH_ready (rs := [9]) (by kernel_rfl) (by simp) (AllReadyH.cons rfl (fun K hK => ?_) AllReadyH.nil)
        rw [if_pos (by rfl)]
        refine wp_store_mid _ _ _ rfl _ _ #[.slice A9 n9 c9] rfl rfl (HL4.out _ hb2).th (size_map _ _ _) (by simp [Value.oneCell']) ?_
        refine hK.out _ _ (HSX.out u2 hb2 _) (fun _ => ?_)
        simp only [List.getElem_toArray, List.getElem_cons_zero, List.getElem_cons_succ, Act.put, List.setIfInBounds_toArray, List.set_cons_succ, List.set_cons_zero]
        refine wpAnyH_take (i := 10) rfl (by kernel_rfl) (by kernel_rfl) (by kernel_rfl) (fun _ _ _ h => h) (.inl ⟨rfl, fun w' hw' => (by clear hw'; go_simp; rfl)⟩) (HSX.out u2 hb2 _) ?_
        simp only [List.getElem_toArray, List.getElem_cons_zero, List.getElem_cons_succ, Act.put, List.setIfInBounds_toArray, List.set_cons_succ, List.set_cons_zero]
        refine wpAnyH_done (by kernel_rfl) ?_ _
        refine NoPanic.normal ?_
        have XE : Hid (Lies (u2.setCells (w.heap.size + 1 + 1 + 1 + 1) 0 [.slice A9 n9 c9]) (w.heap.size + 1 + 1 + 1 + 1) 1 [.slice A9 n9 c9]) := Lib.hid ((HL4.out _ hb2).set_ rfl)
        have SE : Hid (SqR (u2.setCells (w.heap.size + 1 + 1 + 1 + 1) 0 [.slice A9 n9 c9]) (u2.setCells (w.heap.size + 1 + 1 + 1 + 1) 0 [.slice A9 n9 c9]).heap.size A9 n9 c9 Lr) := Lib.hid (by rw [(setCells_os _ _ 0 u2).2.2.2.1]; exact S9.out.put _ fun hn => sq_off S9.out E4.out rw_noslice (by omega) hn)
        have BE : Hid (Below w.heap.size w (u2.setCells (w.heap.size + 1 + 1 + 1 + 1) 0 [.slice A9 n9 c9])) := Lib.hid (below_setCells (B5.out.1.trans ((G8.out.trans (hb2.mono G8.out.size)).mono B5.out.1.size)) (by omega) _ _)
        generalize u2.setCells (w.heap.size + 1 + 1 + 1 + 1) 0 [.slice A9 n9 c9] = w9 at XE SE BE ⊢
        go_wp2
        refine ends_Mrg _ _ _ _ rfl rfl (XE.out.cell (j := 0) rfl) ⟨⟨A9, n9, c9, rfl, SE.out⟩, BE.out⟩
  · have e0 : er = 150 := by rw [HEV.out]; rfl
    have e1 : Lr = [] := by rw [← HLR.out, HER.out, e0]; rfl
    subst e0 e1
    go_wp2_with (first | (go_at_call 12; have T := HC.out; with_reducible refine Calls.mono T ?_; clear T; rintro e w6 ⟨⟨A6, n6, c6, rfl, hs6⟩, hb6⟩; have G6 := Lib.hid hb6; have S6 := Lib.hid hs6; have Y4 := Lib.hid (X4.out.kept (only_of_below hb6 none) (by simp)); obtain ⟨q0, q1, q2, q3⟩ := HQ.out _ hb6; have f4 := Y4.out.frozen; have c4 := Y4.out.cell; clear hb6 hs6) | fail)
    refine ends_Mrg _ _ _ _ rfl rfl (Y4.out.set (.slice none 0 0)).cell ⟨⟨none, 0, 0, rfl, Sq.nil_ rw_sz⟩, B5.out.1.trans ((G6.out.mono (by have := B5.out.2; omega)).setCell (p := ⟨w.heap.size + 1 + 1 + 1 + 1, 0, none⟩) (by simp; omega) _)⟩
end Go.Proofs.Ytkdmlffnkomdhaa
namespace Go.Proofs.Ytkdmlffnkomdhaa
set_option linter.unusedVariables false
set_option linter.unusedSimpArgs false
set_option pp.deepTerms true
set_option pp.maxSteps 200000
open Go.RowKit Go.WideShapes Go.ChangeShapes Go.Deep Go.Shelf
attribute [local go_sem] Oper.semAt_some
attribute [local irreducible] wpQuiet

def rebaseE (lb lo : List Rw) (e : List Ch) : Int := if applyE lb e = 0 then mergeE lb lo (applyW lb e) [] else applyE lb e
def rebaseW (lb lo : List Rw) (e : List Ch) : List Rw := mergedW lb lo (applyW lb e) []
theorem results_Reb (tmps : Array Value) (W : World) (b : Nat) (v : Value) (k : Int) (h8 : tmps.getD 6 undef = .pointer (some ⟨b, 0, none⟩)) (h9 : tmps.getD 7 undef = .int .i64 k) (x : W.cell? ⟨b, 0, none⟩ = some v) :
    (results Try.f25 tmps).run Try.prog W = .ok (.tuple #[.agg #[v], .int .i64 k]) W := by
  have h8' : tmps[6]?.getD undef = .pointer (some ⟨b, 0, none⟩) := by simpa using h8
  have h9' : tmps[7]?.getD undef = .int .i64 k := by simpa using h9
  simp [results, Try.f25, go_sem, h8', h9', x]
theorem ends_Reb {W : World} {R : Ending → World → Prop} (tmps : Array Value) (b : Nat) (v : Value) (k : Int) (h8 : tmps.getD 6 undef = .pointer (some ⟨b, 0, none⟩)) (h9 : tmps.getD 7 undef = .int .i64 k) (x : W.cell? ⟨b, 0, none⟩ = some v)
    (h : R (.returned (.tuple #[.agg #[v], .int .i64 k])) W) : bodyPost Try.prog Try.f25 R Exit.ret { tmps := tmps, defers := [] } W :=
  bodyPost_ret (results_Reb tmps W b v k h8 h9 x) rfl h
set_option maxRecDepth 100000 in
set_option maxHeartbeats 8000000 in
theorem Rebase_any {w : World} {A1 : Option Addr} {n1 c1 : Nat} {l1 : List Rw} (h1 : SqR w w.heap.size A1 n1 c1 l1) (hm1 : n1 ≤ 1000) {A2 : Option Addr} {n2 c2 : Nat} {l2 : List Rw} (h2 : SqR w w.heap.size A2 n2 c2 l2) (hm2 : n2 ≤ 1000) {A : Option Addr} {n c : Nat} {by' : List Ch} (hs : SqC w w.heap.size A n c by') (hn : n ≤ 1000) :
    Calls Try.prog 25 #[.agg #[.slice A1 n1 c1], .agg #[.slice A2 n2 c2], .agg #[.slice A n c]] w fun en w' => (∃ A9 n9 c9, en = .returned (.tuple #[.agg #[.slice A9 n9 c9], .int .i64 (rebaseE l1 l2 by')]) ∧ SqR w' w'.heap.size A9 n9 c9 (if rebaseE l1 l2 by' = 0 then rebaseW l1 l2 by' else [])) ∧ Below w.heap.size w w' := by
  obtain ⟨Lr, hLr⟩ : ∃ Lr, (if rebaseE l1 l2 by' = 0 then rebaseW l1 l2 by' else []) = Lr := ⟨_, rfl⟩
  obtain ⟨er, her⟩ : ∃ er, rebaseE l1 l2 by' = er := ⟨_, rfl⟩
  have HLR := Lib.hid hLr
  have HER := Lib.hid her
  rw [hLr, her]
  clear hLr her
  obtain ⟨w4, hw4⟩ : ∃ w4, (((w.alloc (.cells #[.slice A1 n1 c1] 24)).alloc (.cells #[.slice A2 n2 c2] 24)).alloc (.cells #[.slice A n c] 36)).alloc (.cells #[.slice none 0 0] 24) = w4 := ⟨_, rfl⟩
  have B4 : Hid (Below w.heap.size w w4 ∧ w4.heap.size = w.heap.size + 4) := Lib.hid (by
    rw [← hw4]
    exact ⟨((((Below.refl _ _).alloc (Nat.le_refl _) _).alloc (by simp) _).alloc (by simp; omega) _).alloc (by simp; omega) _, by simp⟩)
  have X0 : Hid (Lies w4 w.heap.size 1 [.slice A1 n1 c1]) := Lib.hid (by
    rw [← hw4]
    exact (((Lies.new w [.slice A1 n1 c1] 24).alloc _).alloc _).alloc _)
  have X1 : Hid (Lies w4 (w.heap.size + 1) 1 [.slice A2 n2 c2]) := Lib.hid (by
    rw [← hw4]
    have h := ((Lies.new (w.alloc (.cells #[.slice A1 n1 c1] 24)) [.slice A2 n2 c2] 24).alloc (.cells #[.slice A n c] 36)).alloc (.cells #[.slice none 0 0] 24)
    rwa [World.size_alloc] at h)
  have X2 : Hid (Lies w4 (w.heap.size + 1 + 1) 1 [.slice A n c]) := Lib.hid (by
    rw [← hw4]
    have h := (Lies.new ((w.alloc (.cells #[.slice A1 n1 c1] 24)).alloc (.cells #[.slice A2 n2 c2] 24)) [.slice A n c] 36).alloc (.cells #[.slice none 0 0] 24)
    rwa [World.size_alloc, World.size_alloc] at h)
  have X3 : Hid (Boxed w4 (w.heap.size + 1 + 1 + 1) 24 (.slice none 0 0)) := Lib.hid (by
    rw [← hw4]
    have h := Boxed.new (((w.alloc (.cells #[.slice A1 n1 c1] 24)).alloc (.cells #[.slice A2 n2 c2] 24)).alloc (.cells #[.slice A n c] 36)) 24 (.slice none 0 0)
    simpa only [World.size_alloc] using h)
  have HS1 : Hid (∀ W, Below w4.heap.size w4 W → SqR W W.heap.size A1 n1 c1 l1) := Lib.hid fun W hW => (h1.below (B4.out.1.trans (hW.mono B4.out.1.size))).more (Nat.le_trans B4.out.1.size hW.size)
  have HS2 : Hid (∀ W, Below w4.heap.size w4 W → SqR W W.heap.size A2 n2 c2 l2) := Lib.hid fun W hW => (h2.below (B4.out.1.trans (hW.mono B4.out.1.size))).more (Nat.le_trans B4.out.1.size hW.size)
  have HS : Hid (∀ W, Below w4.heap.size w4 W → SqC W W.heap.size A n c by') := Lib.hid fun W hW => (hs.below (B4.out.1.trans (hW.mono B4.out.1.size))).more (Nat.le_trans B4.out.1.size hW.size)
  have HQ : Hid (∀ W, Below w4.heap.size w4 W → W.cell? ⟨w.heap.size, 0, none⟩ = some (.slice A1 n1 c1) ∧ W.cell? ⟨w.heap.size + 1, 0, none⟩ = some (.slice A2 n2 c2) ∧ W.cell? ⟨w.heap.size + 1 + 1, 0, none⟩ = some (.slice A n c)) := Lib.hid fun W hW =>
    ⟨(X0.out.below hW X0.out.lt).cell (j := 0) rfl, (X1.out.below hW X1.out.lt).cell (j := 0) rfl, (X2.out.below hW X2.out.lt).cell (j := 0) rfl⟩
  have HA := Lib.hid (Apply_any (HS1.out w4 (Below.refl _ _)) (show n1 ≤ 1000000 by omega) (HS.out w4 (Below.refl _ _)) (show n ≤ 1000000 by omega))
  have HW := Lib.hid hw4
  obtain ⟨ae, hae⟩ : ∃ r, applyE l1 by' = r := ⟨_, rfl⟩
  have HAE := Lib.hid hae
  rw [hae] at HA
  clear hw4 hae h1 h2 hs
  go_enter Try.func25, Try.ntmps25
  go_upto_region 1 with fail
  rw [HW.out]
  clear HW
  obtain ⟨q0, q1, q2⟩ := HQ.out _ (Below.refl _ _)
  go_upto_region 2 with (first | (go_at_call 34; have T := HA.out; with_reducible refine Calls.mono T ?_; clear T; rintro e w5 ⟨A5, n5, c5, rfl, hs5, hb5⟩; have S5 := Lib.hid hs5; have G5 := Lib.hid hb5; clear hb5 hs5) | fail)
  obtain ⟨w6, hw6⟩ : ∃ w6, w5.alloc (.cells #[.slice A5 n5 c5] 24) = w6 := ⟨_, rfl⟩
  rw [hw6]
  have G6 : Hid (Below w4.heap.size w4 w6) := Lib.hid (by rw [← hw6]; exact G5.out.alloc G5.out.size _)
  have S6 : Hid (SqR w6 w6.heap.size A5 n5 c5 (if ae = 0 then applyW l1 by' else [])) := Lib.hid (by
    rw [← hw6]
    have hb : Below w5.heap.size w5 (w5.alloc (.cells #[.slice A5 n5 c5] 24)) := (Below.refl _ _).alloc (Nat.le_refl _) _
    exact (S5.out.below hb).more hb.size)
  have X5 : Hid (Lies w6 w5.heap.size 1 [.slice A5 n5 c5]) := Lib.hid (by rw [← hw6]; exact Lies.new w5 [.slice A5 n5 c5] 24)
  obtain ⟨B5, hB5⟩ : ∃ B5, w5.heap.size = B5 := ⟨_, rfl⟩
  rw [hB5] at X5 ⊢
  have Y3 := Lib.hid (X3.out.kept (only_of_below G6.out none) (by simp))
  clear q0 q1 q2 hw6 hB5 S5 G5
  obtain ⟨q0, q1, q2⟩ := HQ.out _ G6.out
  have f4 := Y3.out.frozen
  have c4 := Y3.out.cell
  have c5' := X5.out.cell (j := 0) rfl
  by_cases h0 : ae = 0
  · subst h0
    have S7 : Hid (SqR w6 w6.heap.size A5 n5 c5 (applyW l1 by')) := Lib.hid (by have := S6.out; rwa [if_pos rfl] at this)
    have hn5 : n5 ≤ 1000 := by have h1 := S7.out.len; have h2 := (applyE_parts HAE.out).2.2; omega
    have HM := Lib.hid (Merge_any (HS1.out w6 G6.out) hm1 (HS2.out w6 G6.out) hm2 S7.out hn5 (Sq.nil_ (f := Ch.cells) ch_sz) (show 0 ≤ 1000 by omega))
    have e0 : er = mergeE l1 l2 (applyW l1 by') [] := by rw [← HER.out]; unfold rebaseE; rw [HAE.out, if_pos rfl]
    have E0 := Lib.hid e0
    have E1 : Hid (Lr = (if er = 0 then mergedW l1 l2 (applyW l1 by') [] else [])) := Lib.hid (by rw [← HLR.out, HER.out]; rfl)
    clear e0 S6
    go_wp2_with (first
      | (go_at_call 19; have T := HM.out; rw [← E0.out] at T; rw [← E1.out] at T; with_reducible refine Calls.mono T ?_; clear T; rintro e w8 ⟨⟨A9, n9, c9, rfl, hs9⟩, hb9⟩; have S9 := Lib.hid hs9; have G9 := Lib.hid hb9; have Z3 := Lib.hid (Y3.out.kept (only_of_below hb9 none) (by simp)); clear q0 q1 q2 f4 c4 c5' hs9 hb9; have f4 := Z3.out.frozen; have c4 := Z3.out.cell)
      | fail)
    refine ends_Reb _ _ _ _ rfl rfl (Z3.out.set (.slice A9 n9 c9)).cell ⟨⟨A9, n9, c9, rfl, ?_⟩, B4.out.1.trans (((G6.out.trans (G9.out.mono G6.out.size)).mono (by have := B4.out.2; omega)).setCell (p := ⟨w.heap.size + 1 + 1 + 1, 0, none⟩) (by simp; omega) _)⟩
    have T := S9.out.put (B := w.heap.size + 1 + 1 + 1) [.slice A9 n9 c9] (fun hn => sq_off S9.out Z3.out rw_noslice (by omega) hn)
    have e : (w8.setCells (w.heap.size + 1 + 1 + 1) 0 [.slice A9 n9 c9]).heap.size = w8.heap.size := (setCells_os _ _ 0 w8).2.2.2.1
    exact T.more (Nat.le_of_eq e.symm)
  · have hne2 : (ae == (0 : Int)) = false := by simpa using h0
    have hne3 : (ae != (0 : Int)) = true := by simpa using h0
    have e0 : er = ae := by rw [← HER.out]; unfold rebaseE; rw [HAE.out, if_neg h0]
    have e1 : Lr = [] := by rw [← HLR.out, HER.out, e0, if_neg h0]
    subst e0 e1
    go_wp2
    refine ends_Reb _ _ _ _ rfl rfl (Y3.out.set (.slice none 0 0)).cell ⟨⟨none, 0, 0, rfl, Sq.nil_ rw_sz⟩, B4.out.1.trans ((G6.out.mono (by have := B4.out.2; omega)).setCell (p := ⟨w.heap.size + 1 + 1 + 1, 0, none⟩) (by simp; omega) _)⟩
end Go.Proofs.Ytkdmlffnkomdhaa
