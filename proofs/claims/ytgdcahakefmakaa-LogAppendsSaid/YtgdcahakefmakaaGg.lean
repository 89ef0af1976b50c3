/-
  LOGS: the place of an index; whether a log has a place.
-/
import Derived.Test.YtgdcahakefmakaaGf
namespace Go.Proofs.Ytgdcahakefmakaa
set_option linter.unusedVariables false
set_option linter.unusedSimpArgs false
open Go.RowKit Go.WideShapes Go.ChangeShapes Go.Deep Go.Shelf
attribute [local go_sem] Oper.semAt_some
attribute [local irreducible] wpQuiet

theorem results_place (tmps : Array Value) (W : World) (b4 b5 : Nat) (i t : Nat) (k : Bool) (h4 : tmps.getD 4 undef = .pointer (some ⟨b4, 0, none⟩)) (h5 : tmps.getD 5 undef = .pointer (some ⟨b5, 0, none⟩)) (x4 : Bl W b4 24 (atC i t)) (x5 : Bl W b5 4 [.bool k]) :
    (results Try.f44 tmps).run Try.prog W = .ok (.tuple #[atV i t, .bool k]) W := by
  have h4' : tmps[4]?.getD undef = .pointer (some ⟨b4, 0, none⟩) := by simpa using h4
  have x4_0 := x4.cell 0
  have x4_1 := x4.cell 1
  simp only [atC, List.getElem?_cons_zero, List.getElem?_cons_succ] at x4_0 x4_1
  have h5' : tmps[5]?.getD undef = .pointer (some ⟨b5, 0, none⟩) := by simpa using h5
  have x5_0 := x5.cell 0
  simp only [atC, List.getElem?_cons_zero, List.getElem?_cons_succ] at x5_0
  simp [results, Try.f44, go_sem, h4', x4_0, x4_1, h5', x5_0]
theorem ends_place {W : World} {R : Ending → World → Prop} (tmps : Array Value) (b4 b5 : Nat) (i t : Nat) (k : Bool) (h4 : tmps.getD 4 undef = .pointer (some ⟨b4, 0, none⟩)) (h5 : tmps.getD 5 undef = .pointer (some ⟨b5, 0, none⟩)) (x4 : Bl W b4 24 (atC i t)) (x5 : Bl W b5 4 [.bool k])
    (h : R (.returned (.tuple #[atV i t, .bool k])) W) : bodyPostM Fence.wide 8 Try.prog Try.f44 R Exit.ret { tmps := tmps, defers := [] } W :=
  ⟨_, results_place tmps W _ _ _ _ _ h4 h5 x4 x5, h⟩
theorem ends2_place {W : World} {R : Ending → World → Prop} (tmps : Array Value) (D b4 b5 : Nat) (i t : Nat) (k : Bool) (h4 : tmps.getD 4 undef = .pointer (some ⟨b4, 0, none⟩)) (h5 : tmps.getD 5 undef = .pointer (some ⟨b5, 0, none⟩)) (hK : W.heap[D]? = some (.deferred (some []))) (x4 : Bl W b4 24 (atC i t)) (x5 : Bl W b5 4 [.bool k])
    (h : R (.returned (.tuple #[atV i t, .bool k])) (W.putObj D (.deferred none))) : bodyPostM Fence.wide 8 Try.prog Try.f44 R Exit.ret { tmps := tmps, defers := [{ target := Target.collected D, args := #[] }] } W := by
  have y4 : Bl (W.putObj D (.deferred none)) b4 24 (atC i t) := x4.grown (grownBy_putObj' W D _) (fun e => by injection e with e; subst e; have x4' : W.heap[b4]? = _ := x4; rw [x4'] at hK; cases hK)
  have y5 : Bl (W.putObj D (.deferred none)) b5 4 [.bool k] := x5.grown (grownBy_putObj' W D _) (fun e => by injection e with e; subst e; have x4' : W.heap[b5]? = _ := x5; rw [x4'] at hK; cases hK)
  exact ⟨by simp, .inl ⟨D, _, rfl, run_takeDeferred hK, _, results_place tmps _ _ _ _ _ _ h4 h5 y4 y5, h⟩⟩
/-- The place of an index, as it is told. -/
def placeV (o : Option Nat) (k : Nat) : Value := match o with | some u => .tuple #[atV k u, .bool true] | none => .tuple #[atV 0 0, .bool false]
structure PF (w V : World) (k : Nat) (pre : List Pl) (W : World) : Prop where
  ix : Bl W (w.heap.size + 1) 22 [.int .u64 (k : Int)]
  r0 : Bl W (w.heap.size + 1 + 1) 24 (atC 0 0)
  r1 : Bl W (w.heap.size + 1 + 1 + 1) 4 [.bool false]
  no : ∀ x ∈ pre, x.i ≠ k
  bel : Below w.heap.size w W
  sz : V.heap.size ≤ W.heap.size
theorem PF.step {w V : World} {k : Nat} {pre : List Pl} {W W' : World} (h : PF w V k pre W) (hb : Below W.heap.size W W') : PF w V k pre W' :=
  ⟨h.ix.below hb h.ix.lt, h.r0.below hb h.r0.lt, h.r1.below hb h.r1.lt, h.no, h.bel.trans (hb.mono h.bel.size), Nat.le_trans h.sz hb.size⟩
structure PX (w : World) (k : Nat) (pre : List Pl) (W : World) : Prop where
  hit : ∃ x, x ∈ pre ∧ x.i = k ∧ Bl W (w.heap.size + 1 + 1) 24 (atC x.i x.e.t)
  r1 : Bl W (w.heap.size + 1 + 1 + 1) 4 [.bool true]
  bel : Below w.heap.size w W
set_option maxRecDepth 100000 in
set_option maxHeartbeats 4000000 in
theorem place_any {w : World} {A : Option Addr} {n c : Nat} {es : List En} (hs : SqE w w.heap.size A n c es) (hn : n ≤ 1000) (i t : Nat) (hin : i + n < 18446744073709551616) (ht : t < 18446744073709551616) (k : Nat) (hk : k < 18446744073709551616) :
    Calls Try.prog 44 #[lgV i t A n c, .int .u64 (k : Int)] w fun e w' => e = .returned (placeV (placeW ⟨i, t, vsE es⟩ k) k) ∧ Below w.heap.size w w' := by
  obtain ⟨w1, hw1⟩ : ∃ w1, ((((w.alloc (.cells #[.int .u64 (i : Int), .int .u64 (t : Int), .slice A n c] 27)).alloc (.cells #[.int .u64 (k : Int)] 22)).alloc (.cells #[.int .u64 0, .int .u64 0] 24)).alloc (.cells #[.bool false] 4)) = w1 := ⟨_, rfl⟩
  have L0 : Bl w1 (w.heap.size) 27 [.int .u64 (i : Int), .int .u64 (t : Int), .slice A n c] := by
    rw [← hw1]
    have h := Bl.new w 27 [.int .u64 (i : Int), .int .u64 (t : Int), .slice A n c]
    (try simp only [World.size_alloc] at h)
    exact (((h.alloc _).alloc _).alloc _)
  have L1 : Bl w1 (w.heap.size + 1) 22 [.int .u64 (k : Int)] := by
    rw [← hw1]
    have h := Bl.new (w.alloc (.cells #[.int .u64 (i : Int), .int .u64 (t : Int), .slice A n c] 27)) 22 [.int .u64 (k : Int)]
    (try simp only [World.size_alloc] at h)
    exact ((h.alloc _).alloc _)
  have L2 : Bl w1 (w.heap.size + 1 + 1) 24 [.int .u64 0, .int .u64 0] := by
    rw [← hw1]
    have h := Bl.new ((w.alloc (.cells #[.int .u64 (i : Int), .int .u64 (t : Int), .slice A n c] 27)).alloc (.cells #[.int .u64 (k : Int)] 22)) 24 [.int .u64 0, .int .u64 0]
    (try simp only [World.size_alloc] at h)
    exact (h.alloc _)
  have L3 : Bl w1 (w.heap.size + 1 + 1 + 1) 4 [.bool false] := by
    rw [← hw1]
    have h := Bl.new (((w.alloc (.cells #[.int .u64 (i : Int), .int .u64 (t : Int), .slice A n c] 27)).alloc (.cells #[.int .u64 (k : Int)] 22)).alloc (.cells #[.int .u64 0, .int .u64 0] 24)) 4 [.bool false]
    (try simp only [World.size_alloc] at h)
    exact h
  have B1 : Below w.heap.size w w1 := by
    rw [← hw1]
    exact (((((Below.refl _ _).alloc (by simp <;> omega) _).alloc (by simp <;> omega) _).alloc (by simp <;> omega) _).alloc (by simp <;> omega) _)
  have Z1 : w1.heap.size = w.heap.size + 4 := by rw [← hw1]; simp
  have c0 := L0.cell 0
  have c1 := L0.cell 1
  have c2 := L0.cell 2
  have d0 := L1.cell 0
  have x0 := L2.cell 0
  have x1 := L2.cell 1
  have x2 := L3.cell 0
  have f0 := L2.frozen 0
  have f1 := L2.frozen 1
  have f2 := L3.frozen 0
  simp only [List.getElem?_cons_zero, List.getElem?_cons_succ] at c0 c1 c2 d0 x0 x1 x2
  have HW := Lib.hid hw1
  have HL1 := Lib.hid (show Bl w1 (w.heap.size + 1) 22 [.int .u64 (k : Int)] from L1)
  have HL2 := Lib.hid (show Bl w1 (w.heap.size + 1 + 1) 24 (atC 0 0) from L2)
  have HL3 := Lib.hid (show Bl w1 (w.heap.size + 1 + 1 + 1) 4 [.bool false] from L3)
  have HB1 := Lib.hid B1
  have HZ1 := Lib.hid Z1
  have HS := Lib.hid hs
  have HIN := Lib.hid hin
  have hlen := hs.len
  obtain ⟨r, hr⟩ : ∃ r, placeV (placeW ⟨i, t, vsE es⟩ k) k = r := ⟨_, rfl⟩
  have HE := Lib.hid hr
  rw [hr]
  clear hw1 L0 L1 L2 L3 B1 Z1 hs ht hin hr
  refine (callsIn_wide (n := 8)).1 ?_
  refine callsIn_of_wp_marks Try.func44 rfl trivial ?_ rfl
  simp only [Try.ntmps44, List.size_toArray, List.length_cons, List.length_nil, Nat.reduceAdd, Nat.reduceSub, Array.replicate_succ, Array.replicate_zero, List.push_toArray, List.append_toArray, List.nil_append, List.cons_append]
  refine wpIn_wide.2 ?_
  by_cases h0 : k = i
  · subst h0
    obtain rfl : r = .tuple #[atV k t, .bool true] := by
      rw [← HE.out]
      unfold placeW
      rw [if_pos rfl]
      rfl
    go_upto_region 1 with fail
    rw [HW.out]
    go_wp2_with fail
    have hx := bl_set2 HL2.out (.int .u64 (k : Int)) (.int .u64 (t : Int))
    refine ends_place _ _ _ k t true rfl rfl (hx.far (p := ⟨w.heap.size + 1 + 1 + 1, 0, none⟩) (by show w.heap.size + 1 + 1 ≠ w.heap.size + 1 + 1 + 1; omega) _) ?_ ⟨rfl, ?_⟩
    · exact ((HL3.out.far (p := ⟨w.heap.size + 1 + 1, 0, none⟩) (by show w.heap.size + 1 + 1 + 1 ≠ w.heap.size + 1 + 1; omega) _).far (p := ⟨w.heap.size + 1 + 1, 1, none⟩) (by show w.heap.size + 1 + 1 + 1 ≠ w.heap.size + 1 + 1; omega) _).set_ 0 (.bool true)
    · exact ((HB1.out.trans (below_cell (by omega) HB1.out.size)).trans (below_cell (by omega) (by simpa [World.setCell] using HB1.out.size))).trans (below_cell (by omega) (by simpa [World.setCell] using HB1.out.size))
  have hne0 : ((k : Int) == (i : Int)) = false := by simp; omega
  go_upto_region 1 with fail
  rw [HW.out]
  go_wp2_with fail
  refine (placed_any w1 i t A n c).mono ?_
  rintro e V ⟨Ba, Be, rfl, hba, hbe, hLa, hLe, hBV⟩
  clear c0 c1 c2 d0 x0 x1 x2 f0 f1 f2
  have TV : Hid (TP V w.heap.size Be Ba i t A n c es) := Lib.hid ⟨(HS.out.below HB1.out).below (hBV.mono HB1.out.size), Nat.le_trans HB1.out.size hBV.size, hLe, hLa⟩
  have HBV := Lib.hid hBV
  have HZ := Lib.hid (show Ba < V.heap.size ∧ Be < V.heap.size ∧ w.heap.size + 3 < Ba ∧ w.heap.size + 3 < Be ∧ w.heap.size + 4 ≤ V.heap.size by have := HZ1.out; have := hBV.size; exact ⟨hLa.lt, hLe.lt, by omega, by omega, by omega⟩)
  clear hba hbe hLa hLe hBV
  go_wp2_with fail
  have h00 : PF w V k [] V := ⟨HL1.out.below HBV.out HL1.out.lt, HL2.out.below HBV.out HL2.out.lt, HL3.out.below HBV.out HL3.out.lt, (fun x hx => by cases hx), HB1.out.trans (HBV.out.mono HB1.out.size), Nat.le_refl _⟩
  have H0 := Lib.hid h00
  clear h00 HL1 HL2 HL3
  refine wpIn_wide.1 (wpIn_rangeFunc_foll (n := 8) (gf := 59) (lb := #[.pointer (some ⟨Be, 0, none⟩), .pointer (some ⟨Ba, 0, none⟩)]) rfl (enters_of Try.func59 (by kernel_rfl) rfl)
    (placed_foll 7 (by omega) TV.out hn HIN.out) (fun h k => h.trans k) ?keep (Below.refl _ _) (fun _ => rfl)
    (fun pre W => PF w V k pre W)
    (fun c pre W => c = .ret ∧ PX w k pre W)
    (fun s W W' row hs hg hr => ⟨hs.ix.own hg hr, hs.r0.own hg hr, hs.r1.own hg hr, hs.no, below_own hs.bel (Nat.le_refl _) hg (Nat.le_trans (by omega) HZ.out.2.2.2.2) hr, Nat.le_trans hs.sz hg.size⟩)
    (fun c s W W' row hs hg hr => ⟨hs.1, hs.2.hit.imp fun x hx => ⟨hx.1, hx.2.1, hx.2.2.own hg hr⟩, hs.2.r1.own hg hr, below_own hs.2.bel (Nat.le_refl _) hg (Nat.le_trans (by omega) HZ.out.2.2.2.2) hr⟩) ?h0
    (fun x a' W => ∃ B1, (V.heap.size ≤ B1 ∧ Bl W B1 24 (atC x.i x.e.t)) ∧ a' = { tmps := #[lgV i t A n c, .int .u64 (k : Int), .pointer (some ⟨w.heap.size, 0, none⟩), .pointer (some ⟨w.heap.size + 1, 0, none⟩), .pointer (some ⟨w.heap.size + 1 + 1, 0, none⟩), .pointer (some ⟨w.heap.size + 1 + 1 + 1, 0, none⟩), .pointer (some ⟨B1, 0, none⟩), .int .u64 (k : Int), .pointer (some ⟨w.heap.size, 0, none⟩), .pointer (some ⟨w.heap.size, 0, none⟩), .int .u64 (i : Int), .bool false, undef, undef, .pointer (some ⟨w.heap.size, 0, none⟩), .agg #[.int .u64 (i : Int), .int .u64 (t : Int)], .pointer (some ⟨w.heap.size, 2, none⟩), .slice A n c, .func (.func 59) #[] #[.pointer (some ⟨Be, 0, none⟩), .pointer (some ⟨Ba, 0, none⟩)], atV x.i x.e.t, enV x.e, undef, undef, undef, undef, undef, undef], defers := [] })
    ?hax ?assign ?body ?done ?stop)
  case keep =>
    intro W k o o' hk ho hc hw
    exact kp_put HZ.out.2.1 HZ.out.1 (Nat.le_trans (by omega) HZ.out.2.2.2.2) hk o'
  case h0 => exact H0.out
  case hax =>
    intro x a' _ W W' row hs hg hr
    obtain ⟨B1, ⟨h1, h3⟩, ha⟩ := hs
    exact ⟨B1, ⟨h1, h3.own hg hr⟩, ha⟩
  case assign =>
    rintro lp pre x W K hi hK
    have HI := Lib.hid hi
    clear hi
    gi_wp2
    obtain ⟨Wb, hWb⟩ : ∃ Wb, W.alloc (.cells #[.int .u64 (x.i : Int), .int .u64 (x.e.t : Int)] 24) = Wb := ⟨_, rfl⟩
    have hb : Below W.heap.size W Wb := by rw [← hWb]; exact (Below.refl _ _).alloc (Nat.le_refl _) _
    rw [hWb]
    refine hK _ _ (keeps_below hb) (Mv.of_below hb _) (HI.out.step hb) ⟨W.heap.size, ⟨HI.out.sz, ?_⟩, rfl⟩
    rw [← hWb]
    exact Bl.new W 24 (atC x.i x.e.t)
  case body =>
    rintro lp pre x a' W hmf ⟨B1, ⟨hb1, hx1⟩, rfl⟩ hpr
    have HMF := Lib.hid hmf
    have z0 := hx1.cell 0
    have z1 := hx1.cell 1
    have y0 := hmf.ix.cell 0
    have x0 := hmf.r0.cell 0
    have x1 := hmf.r0.cell 1
    have x2 := hmf.r1.cell 0
    have f0 := hmf.r0.frozen 0
    have f1 := hmf.r0.frozen 1
    have f2 := hmf.r1.frozen 0
    simp only [atC, List.getElem?_cons_zero, List.getElem?_cons_succ] at y0 z0 z1 x0 x1 x2
    clear hmf hx1 hpr
    by_cases hxk : x.i = k
    · have hxe : ((x.i : Int) == (k : Int)) = true := by simp; omega
      have HXK := Lib.hid hxk
      clear hxk
      gi_wp2
      have hb := HMF.out.bel.size
      have hx := bl_set2 HMF.out.r0 (.int .u64 (x.i : Int)) (.int .u64 (x.e.t : Int))
      refine ⟨(keeps_set _ _ _).trans ((keeps_set _ _ _).trans (keeps_set _ _ _)), rfl, ⟨x, by simp, HXK.out, (hx.far (p := ⟨w.heap.size + 1 + 1 + 1, 0, none⟩) (by show w.heap.size + 1 + 1 ≠ w.heap.size + 1 + 1 + 1; omega) _)⟩, ?_, ?_⟩
      · exact ((HMF.out.r1.far (p := ⟨w.heap.size + 1 + 1, 0, none⟩) (by show w.heap.size + 1 + 1 + 1 ≠ w.heap.size + 1 + 1; omega) _).far (p := ⟨w.heap.size + 1 + 1, 1, none⟩) (by show w.heap.size + 1 + 1 + 1 ≠ w.heap.size + 1 + 1; omega) _).set_ 0 (.bool true)
      · exact ((HMF.out.bel.trans (below_cell (by omega) hb)).trans (below_cell (by omega) (by simpa [World.setCell] using hb))).trans (below_cell (by omega) (by simpa [World.setCell] using hb))
    · have hxe : ((x.i : Int) == (k : Int)) = false := by simp; omega
      have HXK := Lib.hid hxk
      clear hxk
      gi_wp2
      refine ⟨KeepsFrom.refl _ _, Mv.refl _ _, HMF.out.ix, HMF.out.r0, HMF.out.r1, ?_, HMF.out.bel, HMF.out.sz⟩
      intro y hy
      rcases List.mem_append.1 hy with h | h
      · exact HMF.out.no y h
      · simp at h
        subst h
        exact HXK.out
  case done =>
    rintro D ys W hD rfl hmf hK
    have HMF := Lib.hid hmf
    have HK := Lib.hid hK
    have x0 := hmf.r0.cell 0
    have x1 := hmf.r0.cell 1
    have x2 := hmf.r1.cell 0
    have f0 := hmf.r0.frozen 0
    have f1 := hmf.r0.frozen 1
    have f2 := hmf.r1.frozen 0
    simp only [atC, List.getElem?_cons_zero, List.getElem?_cons_succ] at x0 x1 x2
    obtain rfl : r = .tuple #[atV 0 0, .bool false] := by rw [← HE.out, placeW_no h0 hmf.no]; rfl
    clear hmf hK
    go_wp2
    have hz := HZ.out
    have hb := HMF.out.bel.size
    have HK2 : (((W.setCell ⟨w.heap.size + 1 + 1, 0, none⟩ (.int .u64 0)).setCell ⟨w.heap.size + 1 + 1, 1, none⟩ (.int .u64 0)).setCell ⟨w.heap.size + 1 + 1 + 1, 0, none⟩ (.bool false)).heap[D]? = some (.deferred (some [])) := by
      refine (Below.heap_setCell _ ⟨w.heap.size + 1 + 1 + 1, 0, none⟩ _ D (by show D ≠ w.heap.size + 1 + 1 + 1; omega)).trans ((Below.heap_setCell _ ⟨w.heap.size + 1 + 1, 1, none⟩ _ D (by show D ≠ w.heap.size + 1 + 1; omega)).trans ((Below.heap_setCell _ ⟨w.heap.size + 1 + 1, 0, none⟩ _ D (by show D ≠ w.heap.size + 1 + 1; omega)).trans HK.out))
    refine ends2_place _ D _ _ 0 0 false rfl rfl HK2 ((bl_set2 HMF.out.r0 (.int .u64 0) (.int .u64 0)).far (p := ⟨w.heap.size + 1 + 1 + 1, 0, none⟩) (by show w.heap.size + 1 + 1 ≠ w.heap.size + 1 + 1 + 1; omega) _) ?_ ⟨rfl, ?_⟩
    · exact ((HMF.out.r1.far (p := ⟨w.heap.size + 1 + 1, 0, none⟩) (by show w.heap.size + 1 + 1 + 1 ≠ w.heap.size + 1 + 1; omega) _).far (p := ⟨w.heap.size + 1 + 1, 1, none⟩) (by show w.heap.size + 1 + 1 + 1 ≠ w.heap.size + 1 + 1; omega) _).set_ 0 (.bool false)
    · exact (((HMF.out.bel.trans (below_cell (by omega) hb)).trans (below_cell (by omega) (by simpa [World.setCell] using hb))).trans (below_cell (by omega) (by simpa [World.setCell] using hb))).trans (below_put (by omega))
  case stop =>
    rintro D c pre W hD hSp ⟨rfl, hmf⟩ hK
    obtain ⟨x, hx, hxk, hxb⟩ := hmf.hit
    have hR1 := Lib.hid hmf.r1
    have hXB := Lib.hid hxb
    have hBL := Lib.hid hmf.bel
    have HK := Lib.hid hK
    obtain rfl : r = .tuple #[atV x.i x.e.t, .bool true] := by
      rw [← HE.out, ← hxk, placeW_mem (hSp.subset hx)]
      rfl
    clear hmf hK hx hxk hxb
    refine wpIn_wide.2 ?_
    go_wp2
    exact ends2_place _ D _ _ x.i x.e.t true rfl rfl HK.out hXB.out hR1.out ⟨rfl, hBL.out.trans (below_put (by have := HZ.out; omega))⟩
end Go.Proofs.Ytgdcahakefmakaa
