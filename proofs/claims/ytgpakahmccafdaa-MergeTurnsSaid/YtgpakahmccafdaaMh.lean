/-
  MERGE: isOf, EqualFunc.
-/
import Derived.RangeFuncNested
import Derived.RangeFuncBound
import Derived.RangeFuncCalls
import Derived.RangeFuncLeaves
import Derived.RangeFuncBox
import Derived.Shelf.Abstract
import Derived.Shelf.RegionOpen
import Derived.WalkKit
import Derived.OwnWalkIn
import Derived.TacticsInMore
import Derived.LoopNIn
import Derived.LoopIn
import Derived.Deep.Cut
import Derived.Great.BuildSlice
import Derived.Great.FillDense
import Derived.Test.YtgpakahmccafdaaMc
import Derived.Test.YtgpakahmccafdaaMe
namespace Go.Proofs.Ytgpakahmccafdaa
set_option linter.unusedVariables false
set_option linter.unusedSimpArgs false
set_option pp.deepTerms true
set_option pp.maxSteps 200000
open Go.RowKit Go.WideShapes Go.ChangeShapes Go.Deep Go.Shelf
attribute [local go_sem] Oper.semAt_some
attribute [local irreducible] wpQuiet

set_option maxRecDepth 100000 in
set_option maxHeartbeats 2000000 in
theorem isOf_any (x : Pl) (d : Ch) (w : World) : Calls Try.prog 44 #[plV x, chV d] w fun e w' => e = .returned (.bool (x.p.toList == d.p.toList)) ∧ Below w.heap.size w w' := by
  obtain ⟨w1, hw1⟩ : ∃ w1, (w.alloc (.cells x.cells.toArray 43)).alloc (.cells d.cells.toArray 81) = w1 := ⟨_, rfl⟩
  have B1 : Hid (Below w.heap.size w w1) := Lib.hid (by rw [← hw1]; exact ((Below.refl _ _).alloc (Nat.le_refl _) _).alloc (by simp) _)
  have X0 : Hid (Lies w1 w.heap.size 7 x.cells) := Lib.hid (by rw [← hw1]; exact (Lies.new w x.cells 43).alloc _)
  have X1 : Hid (Lies w1 (w.heap.size + 1) 3 d.cells) := Lib.hid (by
    rw [← hw1]
    have h := Lies.new (w.alloc (.cells x.cells.toArray 43)) d.cells 81
    rwa [World.size_alloc] at h)
  have HW := Lib.hid hw1
  clear hw1
  have q0 := X0.out.cell (j := 0) rfl
  have q1 := X1.out.cell (j := 0) rfl
  go_enter Try.func44, Try.ntmps44
  go_upto_region 1 with fail
  have HW2 := HW.out
  simp only [Pl.cells, Ch.cells] at HW2
  rw [HW2]
  clear HW HW2
  go_wp2
  go_ret
  exact ⟨rfl, B1.out⟩

theorem same_text {a b : ByteArray} (h : (a.toList == b.toList) = true) : a = b := by
  have h1 : a.toList = b.toList := by simpa using h
  exact bytes_ext h1
theorem same_text_not {a b : ByteArray} (h : (a.toList == b.toList) = false) : a ≠ b := by
  rintro rfl
  simp at h
def eqW (lp : List Pl) (lc : List Ch) : Bool := decide (lc.map Ch.p = lp.map Pl.p)
theorem eqW_len {lp : List Pl} {lc : List Ch} (h : lp.length ≠ lc.length) : eqW lp lc = false := by
  unfold eqW
  rw [decide_eq_false_iff_not]
  intro e
  have := congrArg List.length e
  simp at this
  omega
theorem eqW_not {lp : List Pl} {lc : List Ch} {k : Nat} (h1 : k < lp.length) (h2 : k < lc.length) (h : lp[k].p ≠ lc[k].p) : eqW lp lc = false := by
  unfold eqW
  rw [decide_eq_false_iff_not]
  intro e
  apply h
  have := congrArg (fun l => l[k]?) e
  simpa [List.getElem?_eq_getElem h1, List.getElem?_eq_getElem h2, eq_comm] using this
theorem eqW_yes {lp : List Pl} {lc : List Ch} (hl : lp.length = lc.length) (h : ∀ k (h1 : k < lp.length) (h2 : k < lc.length), lp[k].p = lc[k].p) : eqW lp lc = true := by
  unfold eqW
  rw [decide_eq_true_iff]
  apply List.ext_getElem
  · simp [hl]
  · intro i h1 h2
    simp only [List.getElem_map]
    exact (h i (by simpa using h2) (by simpa using h1)).symm

set_option maxRecDepth 100000 in
set_option maxHeartbeats 4000000 in
theorem EqualFunc_any {w : World} {A1 : Option Addr} {n1 c1 : Nat} {l1 : List Pl} (h1 : SqP w w.heap.size A1 n1 c1 l1) (hn1 : n1 ≤ 1000000) {A2 : Option Addr} {n2 c2 : Nat} {l2 : List Ch} (h2 : SqC w w.heap.size A2 n2 c2 l2) (hn2 : n2 ≤ 1000000) :
    Calls Try.prog 43 #[.slice A1 n1 c1, .slice A2 n2 c2, .func (.func 44) #[] #[]] w fun e w' => e = .returned (.bool (eqW l1 l2)) ∧ Below w.heap.size w w' := by
  have hl1 := h1.len
  have hl2 := h2.len
  obtain ⟨ev, hev⟩ : ∃ ev, eqW l1 l2 = ev := ⟨_, rfl⟩
  rw [hev]
  have HE := Lib.hid hev
  have HS1 := Lib.hid h1
  have HS2 := Lib.hid h2
  clear h1 h2 hev
  go_enter Try.func43, Try.ntmps43
  by_cases hlen : n1 = n2
  · subst hlen
    have hn0 : (0 : Int) ≤ (n1 : Int) := Int.natCast_nonneg _
    go_wp2
    go_loopw [17] (fun i wr => ∃ k : Nat, k ≤ n1 ∧ i = .int .i64 (k : Int) ∧ Hid (∀ j (hj : j < k) (hl : j < l1.length) (hl2 : j < l2.length), l1[j].p = l2[j].p) ∧ Hid (Below w.heap.size w wr)) (fun i _ => n1 - (intOf i).toNat)
    case atStart => exact ⟨0, Nat.zero_le _, rfl, Lib.hid (fun j hj => absurd hj (by omega)), Lib.hid (Below.refl _ _)⟩
    case round =>
      obtain ⟨k, hk, rfl, hg, hb⟩ := hrel
      by_cases hlt : k < n1
      · have hd : decide ((k : Int) < (n1 : Int)) = true := by simp; omega
        have hk0 : (0 : Int) ≤ (k : Int) := Int.natCast_nonneg _
        have hk1 : (k : Int) < (n1 : Int) := by omega
        obtain ⟨b1, o1, rfl, hbl1, hr1⟩ := (HS1.out.below hb.out).at_ hlt
        obtain ⟨b2, o2, rfl, hbl2, hr2⟩ := (HS2.out.below hb.out).at_ hlt
        obtain ⟨x, hx⟩ : ∃ x, l1[k]'(by omega) = x := ⟨_, rfl⟩
        obtain ⟨d, hdd⟩ : ∃ d, l2[k]'(by omega) = d := ⟨_, rfl⟩
        rw [hx] at hr1
        rw [hdd] at hr2
        have r0 : wr.cell? ⟨b1, o1 + k * 7, none⟩ = some (.string x.p) := hr1 0 _ rfl
        have r1 : wr.cell? ⟨b1, o1 + k * 7 + 1, none⟩ = some (.bool x.b.is) := hr1 1 _ rfl
        have r2 : wr.cell? ⟨b1, o1 + k * 7 + 2, none⟩ = some (.string x.b.t) := hr1 2 _ rfl
        have r3 : wr.cell? ⟨b1, o1 + k * 7 + 3, none⟩ = some (.bool x.o.is) := hr1 3 _ rfl
        have r4 : wr.cell? ⟨b1, o1 + k * 7 + 4, none⟩ = some (.string x.o.t) := hr1 4 _ rfl
        have r5 : wr.cell? ⟨b1, o1 + k * 7 + 5, none⟩ = some (.bool x.t.is) := hr1 5 _ rfl
        have r6 : wr.cell? ⟨b1, o1 + k * 7 + 6, none⟩ = some (.string x.t.t) := hr1 6 _ rfl
        have s0 : wr.cell? ⟨b2, o2 + k * 3, none⟩ = some (.string d.p) := hr2 0 _ rfl
        have s1 : wr.cell? ⟨b2, o2 + k * 3 + 1, none⟩ = some (.bool d.is) := hr2 1 _ rfl
        have s2 : wr.cell? ⟨b2, o2 + k * 3 + 2, none⟩ = some (.string d.t) := hr2 2 _ rfl
        obtain ⟨wx, hwx⟩ : ∃ wx, wr.alloc (.cells x.cells.toArray 43) = wx := ⟨_, rfl⟩
        obtain ⟨wd, hwd⟩ : ∃ wd, wx.alloc (.cells d.cells.toArray 81) = wd := ⟨_, rfl⟩
        have HX : Hid (Below wr.heap.size wr wx ∧ wx.heap.size = wr.heap.size + 1) := Lib.hid (by rw [← hwx]; exact ⟨(Below.refl _ _).alloc (Nat.le_refl _) _, by simp⟩)
        have HD : Hid (Below wr.heap.size wr wd ∧ wd.heap.size = wr.heap.size + 1 + 1) := Lib.hid (by rw [← hwd]; exact ⟨HX.out.1.alloc HX.out.1.size _, by rw [World.size_alloc, HX.out.2]⟩)
        have LX : Hid (Lies wd wr.heap.size 7 x.cells) := Lib.hid (by rw [← hwd, ← hwx]; exact (Lies.new wr x.cells 43).alloc _)
        have LD : Hid (Lies wd wx.heap.size 3 d.cells) := Lib.hid (by rw [← hwd]; exact Lies.new wx d.cells 81)
        obtain ⟨q, hq⟩ : ∃ q, (x.p.toList == d.p.toList) = q := ⟨_, rfl⟩
        have NO : Hid (q = false → ev = false) := Lib.hid (fun e => by
          rw [← HE.out]
          exact eqW_not (k := k) (by omega) (by omega) (by rw [hx, hdd]; exact same_text_not (by rw [hq]; exact e)))
        have YES : Hid (q = true → ∀ j (hj : j < k + 1) (hl : j < l1.length) (hl2 : j < l2.length), l1[j].p = l2[j].p) := Lib.hid (fun e j hj hl hl2 => by
          by_cases e2 : j = k
          · subst e2; rw [hx, hdd]; exact same_text (by rw [hq]; exact e)
          · exact hg.out j (by omega) hl hl2)
        have IO := Lib.hid (fun w' => by have T := isOf_any x d w'; rw [hq] at T; exact T)
        have HDD := Lib.hid hdd
        have HWX := Lib.hid hwx
        have HWD := Lib.hid hwd
        clear hr1 hr2 hx hdd hq hg hwx hwd
        go_upto_region 6 with fail
        have HW2 := HWX.out
        simp only [Pl.cells] at HW2
        rw [HW2]
        clear HWX HW2 r0 r1 r2 r3 r4 r5 r6 s0 s1 s2
        obtain ⟨b2', o2', e2, hbl2', hr2'⟩ := (HS2.out.below (hb.out.trans (HX.out.1.mono hb.out.size))).at_ hlt
        obtain ⟨rfl, rfl⟩ : b2 = b2' ∧ o2 = o2' := by simpa using e2
        clear e2 hbl2'
        rw [HDD.out] at hr2'
        have s0 : wx.cell? ⟨b2, o2 + k * 3, none⟩ = some (.string d.p) := hr2' 0 _ rfl
        have s1 : wx.cell? ⟨b2, o2 + k * 3 + 1, none⟩ = some (.bool d.is) := hr2' 1 _ rfl
        have s2 : wx.cell? ⟨b2, o2 + k * 3 + 2, none⟩ = some (.string d.t) := hr2' 2 _ rfl
        clear hr2' HDD
        go_upto_region 7 with fail
        have HW2 := HWD.out
        simp only [Ch.cells] at HW2
        rw [HW2]
        clear HWD HW2 s0 s1 s2
        have x0 := LX.out.cell (j := 0) rfl
        have x1 := LX.out.cell (j := 1) rfl
        have x2 := LX.out.cell (j := 2) rfl
        have x3 := LX.out.cell (j := 3) rfl
        have x4 := LX.out.cell (j := 4) rfl
        have x5 := LX.out.cell (j := 5) rfl
        have x6 := LX.out.cell (j := 6) rfl
        have y0 := LD.out.cell (j := 0) rfl
        have y1 := LD.out.cell (j := 1) rfl
        have y2 := LD.out.cell (j := 2) rfl
        have HB := Lib.hid (hb.out.trans (HD.out.1.mono hb.out.size))
        have HZ := Lib.hid HB.out.size
        cases q
        · have e := NO.out rfl
          subst e
          clear NO YES
          go_wp2_with (first
            | (go_at_call 44; have T := IO.out wd; with_reducible refine Calls.mono T ?_; clear T; rintro e w5 ⟨rfl, hb5⟩; have HB5 := Lib.hid hb5; clear hb5)
            | fail)
          go_ret
          exact ⟨rfl, HB.out.trans (HB5.out.mono HB.out.size)⟩
        · have YES1 := Lib.hid (YES.out rfl)
          clear NO YES
          go_wp2_with (first
            | (go_at_call 44; have T := IO.out wd; with_reducible refine Calls.mono T ?_; clear T; rintro e w5 ⟨rfl, hb5⟩; have HB5 := Lib.hid hb5; clear hb5)
            | fail)
          go_roundw
          case rel => exact ⟨k + 1, by omega, by go_num, YES1, Lib.hid (HB.out.trans (HB5.out.mono HB.out.size))⟩
          case measure => simp [intOf]; omega
      · have hd : decide ((k : Int) < (n1 : Int)) = false := by simp; omega
        have e : ev = true := by
          rw [← HE.out]
          exact eqW_yes (by omega) (fun j h1 h2 => hg.out j (by omega) h1 h2)
        subst e
        clear hg
        go_wp2
        go_ret
        exact ⟨rfl, hb.out⟩
  · have hne : ¬ ((n1 : Int) = (n2 : Int)) := by omega
    have hne2 : ((n1 : Int) == (n2 : Int)) = false := by simpa using hne
    have hne3 : ((n1 : Int) != (n2 : Int)) = true := by simpa using hne
    have e : ev = false := by
      rw [← HE.out]
      exact eqW_len (by omega)
    subst e
    go_wp2
    go_ret
    exact ⟨rfl, Below.refl _ _⟩
end Go.Proofs.Ytgpakahmccafdaa
