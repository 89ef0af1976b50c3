/-
  MERGE: whom, Take.
-/
import Derived.RangeFuncNested
import Derived.RangeFuncBound
import Derived.RangeFuncCalls
import Derived.RangeFuncLeaves
import Derived.RangeFuncBox
import Derived.Shelf.Abstract
import Derived.Shelf.RegionOpen
import Derived.WalkKit
import Derived.OwnWalkIn
import Derived.TacticsInMore
import Derived.LoopNIn
import Derived.LoopIn
import Derived.Deep.Cut
import Derived.Great.BuildSlice
import Derived.Great.FillDense
import Derived.Test.YtkdmlffnkomdhaaMc
import Derived.Test.YtkdmlffnkomdhaaMj
namespace Go.Proofs.Ytkdmlffnkomdhaa
set_option linter.unusedVariables false
set_option linter.unusedSimpArgs false
set_option pp.deepTerms true
set_option pp.maxSteps 200000
open Go.RowKit Go.WideShapes Go.ChangeShapes Go.Deep Go.Shelf
attribute [local go_sem] Oper.semAt_some
attribute [local irreducible] wpQuiet

def pickW (wh : Int) (x : Pl) : Sd := if wh = 0 then x.b else if wh = 2 then x.t else x.o
def tkW (wh : Int) (x : Pl) : Ch := ⟨x.p, (pickW wh x).is, (pickW wh x).t⟩
def takeE (lb lo lt : List Rw) : Int := if confE lb lo lt = 0 then (if 32 < (confW lb lo lt).length then 151 else 0) else 150
set_option maxRecDepth 100000 in
set_option maxHeartbeats 2000000 in
theorem whom_any (wh : Int) (w : World) : Calls Try.prog 39 #[.int .i64 wh] w fun e w' => (∃ f, e = .returned (.func (.func f) #[] #[]) ∧ (∀ (x : Pl) (W : World), Calls Try.prog f #[plV x] W fun e W' => e = .returned (sdV (pickW wh x)) ∧ Below W.heap.size W W') ∧ (∀ (xs : Array Value) (W : World), (callFunc f xs).run Try.prog W = .ok (.enter f xs) W)) ∧ w' = w := by
  go_enter Try.func39, Try.ntmps39
  by_cases h0 : wh = 0
  · subst h0
    go_wp2
    go_ret
    exact ⟨⟨_, rfl, fun x W => placeB_any x W, (fun xs W => by first | rfl | go_simp | kernel_rfl)⟩, rfl⟩
  · have d0 : (wh == (0 : Int)) = false := by simpa using h0
    by_cases h2 : wh = 2
    · subst h2
      go_wp2
      go_ret
      exact ⟨⟨_, rfl, fun x W => placeT_any x W, (fun xs W => by first | rfl | go_simp | kernel_rfl)⟩, rfl⟩
    · have d2 : (wh == (2 : Int)) = false := by simpa using h2
      go_wp2
      go_ret
      refine ⟨⟨_, rfl, fun x W => ?_, (fun xs W => by first | rfl | go_simp | kernel_rfl)⟩, rfl⟩
      have e : pickW wh x = x.o := by unfold pickW; rw [if_neg h0, if_neg h2]
      rw [e]
      exact placeO_any x W
theorem results_Tak (tmps : Array Value) (W : World) (b : Nat) (v : Value) (k : Int) (h8 : tmps.getD 8 undef = .pointer (some ⟨b, 0, none⟩)) (h9 : tmps.getD 9 undef = .int .i64 k) (x : W.cell? ⟨b, 0, none⟩ = some v) :
    (results Try.f13 tmps).run Try.prog W = .ok (.tuple #[.agg #[v], .int .i64 k]) W := by
  have h8' : tmps[8]?.getD undef = .pointer (some ⟨b, 0, none⟩) := by simpa using h8
  have h9' : tmps[9]?.getD undef = .int .i64 k := by simpa using h9
  simp [results, Try.f13, go_sem, h8', h9', x]
theorem ends_Tak {W : World} {R : Ending → World → Prop} (tmps : Array Value) (b : Nat) (v : Value) (k : Int) (h8 : tmps.getD 8 undef = .pointer (some ⟨b, 0, none⟩)) (h9 : tmps.getD 9 undef = .int .i64 k) (x : W.cell? ⟨b, 0, none⟩ = some v)
    (h : R (.returned (.tuple #[.agg #[v], .int .i64 k])) W) : bodyPost Try.prog Try.f13 R Exit.ret { tmps := tmps, defers := [] } W :=
  bodyPost_ret (results_Tak tmps W b v k h8 h9 x) rfl h
set_option maxRecDepth 100000 in
set_option maxHeartbeats 8000000 in
theorem Take_any {w : World} {A1 : Option Addr} {n1 c1 : Nat} {l1 : List Rw} (h1 : SqR w w.heap.size A1 n1 c1 l1) (hm1 : n1 ≤ 1000) {A2 : Option Addr} {n2 c2 : Nat} {l2 : List Rw} (h2 : SqR w w.heap.size A2 n2 c2 l2) (hm2 : n2 ≤ 1000) {A3 : Option Addr} {n3 c3 : Nat} {l3 : List Rw} (h3 : SqR w w.heap.size A3 n3 c3 l3) (hm3 : n3 ≤ 1000) (wh : Int) :
    Calls Try.prog 13 #[.agg #[.slice A1 n1 c1], .agg #[.slice A2 n2 c2], .agg #[.slice A3 n3 c3], .int .i64 wh] w fun en w' => (∃ A9 n9 c9, en = .returned (.tuple #[.agg #[.slice A9 n9 c9], .int .i64 (takeE l1 l2 l3)]) ∧ SqC w' w'.heap.size A9 n9 c9 (if takeE l1 l2 l3 = 0 then (confW l1 l2 l3).map (tkW wh) else [])) ∧ Below w.heap.size w w' := by
  obtain ⟨Lr, hLr⟩ : ∃ Lr, (if takeE l1 l2 l3 = 0 then (confW l1 l2 l3).map (tkW wh) else []) = Lr := ⟨_, rfl⟩
  obtain ⟨er, her⟩ : ∃ er, takeE l1 l2 l3 = er := ⟨_, rfl⟩
  obtain ⟨L, hL⟩ : ∃ L, confW l1 l2 l3 = L := ⟨_, rfl⟩
  have HLR := Lib.hid hLr
  have HER := Lib.hid her
  have HLL := Lib.hid hL
  rw [hLr, her]
  clear hLr her hL
  obtain ⟨w4, hw4⟩ : ∃ w4, (((w.alloc (.cells #[.slice A1 n1 c1] 24)).alloc (.cells #[.slice A2 n2 c2] 24)).alloc (.cells #[.slice A3 n3 c3] 24)).alloc (.cells #[.slice none 0 0] 36) = w4 := ⟨_, rfl⟩
  have B4 : Hid (Below w.heap.size w w4 ∧ w4.heap.size = w.heap.size + 4) := Lib.hid (by
    rw [← hw4]
    exact ⟨((((Below.refl _ _).alloc (Nat.le_refl _) _).alloc (by simp) _).alloc (by simp; omega) _).alloc (by simp; omega) _, by simp⟩)
  have X0 : Hid (Lies w4 w.heap.size 1 [.slice A1 n1 c1]) := Lib.hid (by
    rw [← hw4]
    exact (((Lies.new w [.slice A1 n1 c1] 24).alloc _).alloc _).alloc _)
  have X1 : Hid (Lies w4 (w.heap.size + 1) 1 [.slice A2 n2 c2]) := Lib.hid (by
    rw [← hw4]
    have h := ((Lies.new (w.alloc (.cells #[.slice A1 n1 c1] 24)) [.slice A2 n2 c2] 24).alloc (.cells #[.slice A3 n3 c3] 24)).alloc (.cells #[.slice none 0 0] 36)
    rwa [World.size_alloc] at h)
  have X2 : Hid (Lies w4 (w.heap.size + 1 + 1) 1 [.slice A3 n3 c3]) := Lib.hid (by
    rw [← hw4]
    have h := (Lies.new ((w.alloc (.cells #[.slice A1 n1 c1] 24)).alloc (.cells #[.slice A2 n2 c2] 24)) [.slice A3 n3 c3] 24).alloc (.cells #[.slice none 0 0] 36)
    rwa [World.size_alloc, World.size_alloc] at h)
  have X3 : Hid (Boxed w4 (w.heap.size + 1 + 1 + 1) 36 (.slice none 0 0)) := Lib.hid (by
    rw [← hw4]
    have h := Boxed.new (((w.alloc (.cells #[.slice A1 n1 c1] 24)).alloc (.cells #[.slice A2 n2 c2] 24)).alloc (.cells #[.slice A3 n3 c3] 24)) 36 (.slice none 0 0)
    simpa only [World.size_alloc] using h)
  have HC := Lib.hid (Conflicts_any ((h1.below B4.out.1).more B4.out.1.size) hm1 ((h2.below B4.out.1).more B4.out.1.size) hm2 ((h3.below B4.out.1).more B4.out.1.size) hm3)
  have q0 := X0.out.cell (j := 0) rfl
  have q1 := X1.out.cell (j := 0) rfl
  have q2 := X2.out.cell (j := 0) rfl
  obtain ⟨ce, hce⟩ : ∃ r, confE l1 l2 l3 = r := ⟨_, rfl⟩
  have hcase := confE_or l1 l2 l3
  rw [hce, HLL.out] at HC
  rw [hce] at hcase
  have HEV : Hid (er = if ce = 0 then (if 32 < L.length then 151 else 0) else 150) := Lib.hid (by rw [← HER.out]; unfold takeE; rw [hce, HLL.out])
  have HLV : Hid (Lr = if er = 0 then L.map (tkW wh) else []) := Lib.hid (by rw [← HLR.out, HER.out, HLL.out])
  have HW := Lib.hid hw4
  clear hw4 hce h1 h2 h3
  go_enter Try.func13, Try.ntmps13
  go_upto_region 1 with fail
  rw [HW.out]
  clear HW HLR HER HLL
  rcases hcase with rfl | rfl
  · go_upto_region 4 with (first | (go_at_call 12; have T := HC.out; with_reducible refine Calls.mono T ?_; clear T; rintro e w5 ⟨⟨A5, n5, c5, rfl, hs5⟩, hb5⟩; have S5 := Lib.hid hs5; have G5 := Lib.hid hb5; clear hb5 hs5) | fail)
    have S5' : Hid (SqP w5 w5.heap.size A5 n5 c5 L) := Lib.hid (by simpa using S5.out)
    have hl5 := S5'.out.len
    have Y3 := Lib.hid (X3.out.kept (only_of_below G5.out none) (by simp))
    clear S5 q0 q1 q2 X0 X1 X2 X3
    by_cases h32 : 32 < (n5 : Int)
    · have d32 : decide (32 < (n5 : Int)) = true := by simpa using h32
      have e0 : er = 151 := by rw [HEV.out]; simp [show 32 < L.length by omega]
      have e1 : Lr = [] := by rw [HLV.out, e0]; rfl
      subst e0 e1
      have f4 := Y3.out.frozen
      have c4 := Y3.out.cell
      go_wp2
      refine ends_Tak _ _ _ _ rfl rfl (Y3.out.set (.slice none 0 0)).cell ⟨⟨none, 0, 0, rfl, Sq.nil_ ch_sz⟩, B4.out.1.trans ((G5.out.mono (by have := B4.out.2; omega)).setCell (p := ⟨w.heap.size + 1 + 1 + 1, 0, none⟩) (by simp; omega) _)⟩
    · have d32 : decide (32 < (n5 : Int)) = false := by simpa using h32
      have e0 : er = 0 := by rw [HEV.out]; simp; omega
      have e1 : Lr = L.map (tkW wh) := by rw [HLV.out, e0]; rfl
      subst e0 e1
      have hn5 : n5 ≤ 32 := by omega
      have hn50 : (0 : Int) ≤ (n5 : Int) := Int.natCast_nonneg _
      go_upto_region 7 with fail
      obtain ⟨w6, hw6⟩ : ∃ w6, w5.alloc (.cells #[.slice none 0 0] 36) = w6 := ⟨_, rfl⟩
      rw [hw6]
      have C6 : Hid (Below w5.heap.size w5 w6 ∧ w6.heap.size = w5.heap.size + 1) := Lib.hid (by rw [← hw6]; exact ⟨(Below.refl _ _).alloc (Nat.le_refl _) _, by simp⟩)
      have MD0 : Hid (Md w6 w5.heap.size 36 81 3 (.slice none 0 0) 0 [] w6) := Lib.hid ⟨by rw [← hw6]; exact Boxed.new _ _ _, ⟨rfl, .inl ⟨rfl, rfl⟩⟩, Mv.refl _ _, by rw [← hw6]; simp⟩
      have S6 := Lib.hid (S5'.out.below C6.out.1)
      have Z3 : Hid (Boxed w6 (w.heap.size + 1 + 1 + 1) 36 (.slice none 0 0)) := Lib.hid (Y3.out.kept (only_of_below C6.out.1 none) (by simp))
      have HZL := Lib.hid (show w.heap.size + 1 + 1 + 1 < w5.heap.size by have h1 := B4.out.2; have h2 := G5.out.size; omega)
      clear hw6 Y3 S5' h32 d32
      go_wp2_with fail
      refine (whom_any wh w6).mono ?_
      rintro e w7 ⟨⟨f, rfl, hpf, hcf⟩, hw7⟩
      subst w7
      have PF := Lib.hid hpf
      have HCF := Lib.hid hcf
      clear hpf hcf
      go_wp2_with fail
      go_loopw [36] (fun i wr => ∃ (k : Nat) (v : Value), k ≤ n5 ∧ i = .int .i64 (k : Int) ∧ Hid (Md w6 w5.heap.size 36 81 3 v k (((L.take k).map (tkW wh)).flatMap Ch.cells) wr)) (fun i _ => n5 - (intOf i).toNat)
      case atStart => exact ⟨0, _, Nat.zero_le _, rfl, MD0⟩
      case round =>
        obtain ⟨k, v, hk, rfl, hmd⟩ := hrel
        obtain ⟨Av, cv, hv⟩ := own_shape hmd.out.own
        subst hv
        have HB : Hid (Below w5.heap.size w6 wr) := Lib.hid (hmd.out.mv.below (fun x hx => by have e : x = w5.heap.size := hx; omega) (by have := C6.out.2; omega))
        by_cases hlt : k < n5
        · have hd : decide ((k : Int) < (n5 : Int)) = true := by simp; omega
          have hk0 : (0 : Int) ≤ (k : Int) := Int.natCast_nonneg _
          have hk1 : (k : Int) < (n5 : Int) := by omega
          obtain ⟨b1, o1, rfl, hbl1, hr1⟩ := (S6.out.below HB.out).at_ hlt
          obtain ⟨x, hx⟩ : ∃ x, L[k]'(by omega) = x := ⟨_, rfl⟩
          rw [hx] at hr1
          have r0 : wr.cell? ⟨b1, o1 + k * 7, none⟩ = some (.string x.p) := hr1 0 _ rfl
          have r1 : wr.cell? ⟨b1, o1 + k * 7 + 1, none⟩ = some (.bool x.b.is) := hr1 1 _ rfl
          have r2 : wr.cell? ⟨b1, o1 + k * 7 + 2, none⟩ = some (.string x.b.t) := hr1 2 _ rfl
          have r3 : wr.cell? ⟨b1, o1 + k * 7 + 3, none⟩ = some (.bool x.o.is) := hr1 3 _ rfl
          have r4 : wr.cell? ⟨b1, o1 + k * 7 + 4, none⟩ = some (.string x.o.t) := hr1 4 _ rfl
          have r5 : wr.cell? ⟨b1, o1 + k * 7 + 5, none⟩ = some (.bool x.t.is) := hr1 5 _ rfl
          have r6 : wr.cell? ⟨b1, o1 + k * 7 + 6, none⟩ = some (.string x.t.t) := hr1 6 _ rfl
          obtain ⟨wx, hwx⟩ : ∃ wx, wr.alloc (.cells x.cells.toArray 43) = wx := ⟨_, rfl⟩
          have HX : Hid (Below wr.heap.size wr wx) := Lib.hid (by rw [← hwx]; exact (Below.refl _ _).alloc (Nat.le_refl _) _)
          have LX : Hid (Lies wx wr.heap.size 7 x.cells) := Lib.hid (by rw [← hwx]; exact Lies.new wr x.cells 43)
          have HT : Hid ((L.take (k + 1)).map (tkW wh) = (L.take k).map (tkW wh) ++ [tkW wh x]) := Lib.hid (by rw [List.take_add_one, List.getElem?_eq_getElem (by omega), hx]; simp)
          have HWX := Lib.hid hwx
          clear hr1 hx hwx
          go_upto_region 11 with fail
          have HW2 := HWX.out
          simp only [Pl.cells] at HW2
          rw [HW2]
          clear HWX HW2 r0 r1 r2 r3 r4 r5 r6
          have x0 := LX.out.cell (j := 0) rfl
          have x1 := LX.out.cell (j := 1) rfl
          have x2 := LX.out.cell (j := 2) rfl
          have x3 := LX.out.cell (j := 3) rfl
          have x4 := LX.out.cell (j := 4) rfl
          have x5 := LX.out.cell (j := 5) rfl
          have x6 := LX.out.cell (j := 6) rfl
          obtain ⟨X, hX⟩ : ∃ X, wr.heap.size = X := ⟨_, rfl⟩
          rw [hX] at LX x0 x1 x2 x3 x4 x5 x6 ⊢
          clear hX
          obtain ⟨sp, hsp⟩ : ∃ sp, pickW wh x = sp := ⟨_, rfl⟩
          have HTK : Hid (tkW wh x = ⟨x.p, sp.is, sp.t⟩) := Lib.hid (by unfold tkW; rw [hsp])
          have PX := PF.out x wx
          rw [hsp] at PX
          have HPX := Lib.hid PX
          clear PX hsp
          go_wp2_with fail
          rw [HCF.out, Oper.upon_enter]
          refine HPX.out.mono ?_
          rintro e w8 ⟨rfl, hb8⟩
          dsimp only
          have LX8 := Lib.hid (LX.out.below hb8 LX.out.lt)
          have G8 := Lib.hid (HX.out.trans (hb8.mono HX.out.size))
          clear hb8 x0 x1 x2 x3 x4 x5 x6 LX HPX HX
          go_upto_region 12 with fail
          obtain ⟨w9, hw9⟩ : ∃ w9, w8.alloc (.cells sp.cells.toArray 41) = w9 := ⟨_, rfl⟩
          have C9 : Hid (Below w8.heap.size w8 w9) := Lib.hid (by rw [← hw9]; exact (Below.refl _ _).alloc (Nat.le_refl _) _)
          have LS : Hid (Lies w9 w8.heap.size 2 sp.cells) := Lib.hid (by rw [← hw9]; exact Lies.new w8 sp.cells 41)
          have LX9 := Lib.hid (LX8.out.below C9.out LX8.out.lt)
          have MD9 := Lib.hid (hmd.out.below (G8.out.trans (C9.out.mono G8.out.size)))
          have HW2 := hw9
          simp only [Sd.cells] at HW2
          rw [HW2]
          clear HW2 hw9
          obtain ⟨Y, hY⟩ : ∃ Y, w8.heap.size = Y := ⟨_, rfl⟩
          rw [hY] at LS ⊢
          clear hY C9 LX8 G8
          have x0 := LX9.out.cell (j := 0) rfl
          have y0 := LS.out.cell (j := 0) rfl
          have y1 := LS.out.cell (j := 1) rfl
          have m0 := MD9.out.bx.cell
          have hone := fun w' => one_chg ⟨x.p, sp.is, sp.t⟩ w'
          obtain ⟨i0, hi, hz, hz1, hz2⟩ := info_parts info_chg
          go_wp2_with (first | (at_builtin; refine wpList_append_own (w9.alloc (.cells (Ch.cells ⟨x.p, sp.is, sp.t⟩).toArray 81)) rfl _ _ 34 rfl w6.heap.size 81 i0 _ 3 40 Try.underlying34 hi hz hz1 hz2 rfl (by omega) (.slice Av k cv) k (((L.take k).map (tkW wh)).flatMap Ch.cells) rfl (MD9.out.own.alloc _) ⟨w9.heap.size, 0, none⟩ 1 1 (Ch.cells ⟨x.p, sp.is, sp.t⟩) rfl rfl (World.news_of_block (heap_alloc_new w9 _)) (by intro u hu; exact ch_one [⟨x.p, sp.is, sp.t⟩] u (by simpa using hu)) (by unfold maxLen; omega) (by omega) (by have := MD9.out.mv.size; simp; omega) ?_; intro v' w1 hown5 hg5 hni5; obtain ⟨A5', c5', hv5⟩ := own_shape hown5; subst v'; have AP := Lib.hid (MD9.out.app (W := w9) (tmp := .cells (Ch.cells ⟨x.p, sp.is, sp.t⟩).toArray 81) hown5 hg5); have z0 := AP.out.1.cell; have z1 := AP.out.1.frozen; clear hown5 hg5 hni5) | fail)
          go_roundw
          case rel => exact ⟨k + 1, _, by omega, by go_num, Lib.hid (by rw [HT.out, HTK.out, List.flatMap_append]; exact (by simpa using AP.out.2.1))⟩
          case measure => simp [intOf]; omega
        · obtain rfl : k = n5 := by omega
          have hd : decide ((k : Int) < (k : Int)) = false := by simp
          have m0 := hmd.out.bx.cell
          have V3 : Hid (Boxed wr (w.heap.size + 1 + 1 + 1) 36 (.slice none 0 0)) := Lib.hid ((HB.out.block _ HZL.out).trans Z3.out)
          have f4 := V3.out.frozen
          have c4 := V3.out.cell
          have HF : Hid ((L.take k).map (tkW wh) = L.map (tkW wh)) := Lib.hid (by rw [List.take_of_length_le (by omega)])
          go_wp2_with fail
          have HO1 := ownsRow_setCell_below hmd.out.own (a := ⟨w.heap.size + 1 + 1 + 1, 0, none⟩) (by show w.heap.size + 1 + 1 + 1 < w6.heap.size; have h1 := HZL.out; have h2 := C6.out.2; omega) (.slice Av k cv)
          rw [HF.out] at HO1
          refine ends_Tak _ _ _ _ rfl rfl (V3.out.set (.slice Av k cv)).cell ⟨⟨Av, k, cv, rfl, own_sq HO1 ch_sz (by omega)⟩, B4.out.1.trans ((((G5.out.trans (C6.out.1.mono G5.out.size)).trans (HB.out.mono G5.out.size)).mono (by have := B4.out.2; omega)).setCell (p := ⟨w.heap.size + 1 + 1 + 1, 0, none⟩) (by simp; omega) _)⟩
  · have e0 : er = 150 := by rw [HEV.out]; rfl
    have e1 : Lr = [] := by rw [HLV.out, e0]; rfl
    subst e0 e1
    go_upto_region 2 with (first | (go_at_call 12; have T := HC.out; with_reducible refine Calls.mono T ?_; clear T; rintro e w5 ⟨⟨A5, n5, c5, rfl, hs5⟩, hb5⟩; have S5 := Lib.hid hs5; have G5 := Lib.hid hb5; clear hb5 hs5) | fail)
    have Y3 := Lib.hid (X3.out.kept (only_of_below G5.out none) (by simp))
    have f4 := Y3.out.frozen
    have c4 := Y3.out.cell
    clear q0 q1 q2
    go_wp2
    refine ends_Tak _ _ _ _ rfl rfl (Y3.out.set (.slice none 0 0)).cell ⟨⟨none, 0, 0, rfl, Sq.nil_ ch_sz⟩, B4.out.1.trans ((G5.out.mono (by have := B4.out.2; omega)).setCell (p := ⟨w.heap.size + 1 + 1 + 1, 0, none⟩) (by simp; omega) _)⟩
end Go.Proofs.Ytkdmlffnkomdhaa
