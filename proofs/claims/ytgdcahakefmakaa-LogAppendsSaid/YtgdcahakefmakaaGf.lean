/-
  LOGS: the last place; the place of an index.
-/
import Derived.Test.YtgdcahakefmakaaGe
namespace Go.Proofs.Ytgdcahakefmakaa
set_option linter.unusedVariables false
set_option linter.unusedSimpArgs false
open Go.RowKit Go.WideShapes Go.ChangeShapes Go.Deep Go.Shelf
attribute [local go_sem] Oper.semAt_some
attribute [local irreducible] wpQuiet

theorem placedL_mem {i : Nat} {es : List En} {x : Pl} (h : x ∈ placedL i es) : ∃ j, ∃ h : j < es.length, x = ⟨i + j + 1, es[j]⟩ := by
  obtain ⟨j, hj, e⟩ := List.getElem_of_mem h
  rw [placedL_len] at hj
  refine ⟨j, hj, ?_⟩
  have := placedL_at i es j hj
  rw [List.getElem?_eq_getElem (by rw [placedL_len]; exact hj), e] at this
  injection this
theorem placeW_mem {i t : Nat} {es : List En} {x : Pl} (h : x ∈ placedL i es) : placeW ⟨i, t, vsE es⟩ x.i = some x.e.t := by
  obtain ⟨j, hj, rfl⟩ := placedL_mem h
  unfold placeW
  rw [if_neg (by show ¬ (i + j + 1 = i); omega), if_pos (by show i < i + j + 1; omega)]
  show ((vsE es)[i + j + 1 - i - 1]?).map Ev.t = some (es[j]).t
  rw [show i + j + 1 - i - 1 = j by omega]
  unfold vsE
  rw [List.getElem?_map, List.getElem?_eq_getElem hj]
  rfl
theorem placeW_no {i t k : Nat} {es : List En} (h0 : k ≠ i) (h : ∀ x ∈ placedL i es, x.i ≠ k) : placeW ⟨i, t, vsE es⟩ k = none := by
  rcases hp : placeW ⟨i, t, vsE es⟩ k with _ | u
  · rfl
  · exfalso
    obtain ⟨h1, h2, _⟩ := placeW_some hp
    simp only [lastI, vsE_len] at h1 h2
    have hj : k - i - 1 < es.length := by omega
    have := placedL_at i es (k - i - 1) hj
    exact h _ (List.mem_of_getElem? this) (by show i + (k - i - 1) + 1 = k; omega)
theorem results_end (tmps : Array Value) (W : World) (b2 : Nat) (i t : Nat) (h2 : tmps.getD 2 undef = .pointer (some ⟨b2, 0, none⟩)) (x2 : Bl W b2 24 (atC i t)) :
    (results Try.f50 tmps).run Try.prog W = .ok (atV i t) W := by
  have h2' : tmps[2]?.getD undef = .pointer (some ⟨b2, 0, none⟩) := by simpa using h2
  have x2_0 := x2.cell 0
  have x2_1 := x2.cell 1
  simp only [atC, List.getElem?_cons_zero, List.getElem?_cons_succ] at x2_0 x2_1
  simp [results, Try.f50, go_sem, h2', x2_0, x2_1]
theorem ends_end {W : World} {R : Ending → World → Prop} (tmps : Array Value) (b2 : Nat) (i t : Nat) (h2 : tmps.getD 2 undef = .pointer (some ⟨b2, 0, none⟩)) (x2 : Bl W b2 24 (atC i t))
    (h : R (.returned (atV i t)) W) : bodyPostM Fence.wide 8 Try.prog Try.f50 R Exit.ret { tmps := tmps, defers := [] } W :=
  ⟨_, results_end tmps W _ _ _ h2 x2, h⟩
theorem ends2_end {W : World} {R : Ending → World → Prop} (tmps : Array Value) (D b2 : Nat) (i t : Nat) (h2 : tmps.getD 2 undef = .pointer (some ⟨b2, 0, none⟩)) (hK : W.heap[D]? = some (.deferred (some []))) (x2 : Bl W b2 24 (atC i t))
    (h : R (.returned (atV i t)) (W.putObj D (.deferred none))) : bodyPostM Fence.wide 8 Try.prog Try.f50 R Exit.ret { tmps := tmps, defers := [{ target := Target.collected D, args := #[] }] } W := by
  have y2 : Bl (W.putObj D (.deferred none)) b2 24 (atC i t) := x2.grown (grownBy_putObj' W D _) (fun e => by injection e with e; subst e; have x4' : W.heap[b2]? = _ := x2; rw [x4'] at hK; cases hK)
  exact ⟨by simp, .inl ⟨D, _, rfl, run_takeDeferred hK, _, results_end tmps _ _ _ _ h2 y2, h⟩⟩
structure EF (w V : World) (i t : Nat) (pre : List Pl) (W : World) : Prop where
  bx : Bl W (w.heap.size + 1 + 1) 24 (atC (i + pre.length) (lastT t (vsP pre)))
  rs : Bl W (w.heap.size + 1) 24 (atC 0 0)
  bel : Below w.heap.size w W
  sz : V.heap.size ≤ W.heap.size
theorem EF.step {w V : World} {i t : Nat} {pre : List Pl} {W W' : World} (h : EF w V i t pre W) (hb : Below W.heap.size W W') : EF w V i t pre W' :=
  ⟨h.bx.below hb h.bx.lt, h.rs.below hb h.rs.lt, h.bel.trans (hb.mono h.bel.size), Nat.le_trans h.sz hb.size⟩
set_option maxRecDepth 100000 in
set_option maxHeartbeats 4000000 in
theorem end_any {w : World} {A : Option Addr} {n c : Nat} {es : List En} (hs : SqE w w.heap.size A n c es) (hn : n ≤ 1000) (i t : Nat) (hin : i + n < 18446744073709551616) (ht : t < 18446744073709551616) :
    Calls Try.prog 50 #[lgV i t A n c] w fun e w' => e = .returned (atV (i + n) (lastT t (vsE es))) ∧ Below w.heap.size w w' := by
  obtain ⟨w1, hw1⟩ : ∃ w1, (((w.alloc (.cells #[.int .u64 (i : Int), .int .u64 (t : Int), .slice A n c] 27)).alloc (.cells #[.int .u64 0, .int .u64 0] 24)).alloc (.cells #[.int .u64 (i : Int), .int .u64 (t : Int)] 24)) = w1 := ⟨_, rfl⟩
  have L0 : Bl w1 (w.heap.size) 27 [.int .u64 (i : Int), .int .u64 (t : Int), .slice A n c] := by
    rw [← hw1]
    have h := Bl.new w 27 [.int .u64 (i : Int), .int .u64 (t : Int), .slice A n c]
    (try simp only [World.size_alloc] at h)
    exact ((h.alloc _).alloc _)
  have L1 : Bl w1 (w.heap.size + 1) 24 [.int .u64 0, .int .u64 0] := by
    rw [← hw1]
    have h := Bl.new (w.alloc (.cells #[.int .u64 (i : Int), .int .u64 (t : Int), .slice A n c] 27)) 24 [.int .u64 0, .int .u64 0]
    (try simp only [World.size_alloc] at h)
    exact (h.alloc _)
  have L2 : Bl w1 (w.heap.size + 1 + 1) 24 [.int .u64 (i : Int), .int .u64 (t : Int)] := by
    rw [← hw1]
    have h := Bl.new ((w.alloc (.cells #[.int .u64 (i : Int), .int .u64 (t : Int), .slice A n c] 27)).alloc (.cells #[.int .u64 0, .int .u64 0] 24)) 24 [.int .u64 (i : Int), .int .u64 (t : Int)]
    (try simp only [World.size_alloc] at h)
    exact h
  have B1 : Below w.heap.size w w1 := by
    rw [← hw1]
    exact ((((Below.refl _ _).alloc (by simp <;> omega) _).alloc (by simp <;> omega) _).alloc (by simp <;> omega) _)
  have Z1 : w1.heap.size = w.heap.size + 3 := by rw [← hw1]; simp
  have c0 := L0.cell 0
  have c1 := L0.cell 1
  have c2 := L0.cell 2
  simp only [List.getElem?_cons_zero, List.getElem?_cons_succ] at c0 c1 c2
  have HW := Lib.hid hw1
  have HL1 := Lib.hid (show Bl w1 (w.heap.size + 1) 24 (atC 0 0) from L1)
  have HL2 := Lib.hid (show Bl w1 (w.heap.size + 1 + 1) 24 (atC i t) from L2)
  have HB1 := Lib.hid B1
  have HZ1 := Lib.hid Z1
  have HS := Lib.hid hs
  have HIN := Lib.hid hin
  have hlen := hs.len
  clear hw1 L0 L1 L2 B1 Z1 hs ht hin
  refine (callsIn_wide (n := 8)).1 ?_
  refine callsIn_of_wp_marks Try.func50 rfl trivial ?_ rfl
  simp only [Try.ntmps50, List.size_toArray, List.length_cons, List.length_nil, Nat.reduceAdd, Nat.reduceSub, Array.replicate_succ, Array.replicate_zero, List.push_toArray, List.append_toArray, List.nil_append, List.cons_append]
  refine wpIn_wide.2 ?_
  go_upto_region 2 with fail
  rw [HW.out]
  go_wp2_with fail
  refine (placed_any w1 i t A n c).mono ?_
  rintro e V ⟨Ba, Be, rfl, hba, hbe, hLa, hLe, hBV⟩
  clear c0 c1 c2
  have TV : Hid (TP V w.heap.size Be Ba i t A n c es) := Lib.hid ⟨(HS.out.below HB1.out).below (hBV.mono HB1.out.size), Nat.le_trans HB1.out.size hBV.size, hLe, hLa⟩
  have HBV := Lib.hid hBV
  have HZ := Lib.hid (show Ba < V.heap.size ∧ Be < V.heap.size ∧ w.heap.size + 2 < Ba ∧ w.heap.size + 2 < Be ∧ w.heap.size + 3 ≤ V.heap.size by have := HZ1.out; have := hBV.size; exact ⟨hLa.lt, hLe.lt, by omega, by omega, by omega⟩)
  clear hba hbe hLa hLe hBV
  go_wp2_with fail
  have h0 : EF w V i t [] V := ⟨HL2.out.below HBV.out HL2.out.lt, HL1.out.below HBV.out HL1.out.lt, HB1.out.trans (HBV.out.mono HB1.out.size), Nat.le_refl _⟩
  have H0 := Lib.hid h0
  clear h0 HL1 HL2
  refine wpIn_wide.1 (wpIn_rangeFunc_foll (n := 8) (gf := 59) (lb := #[.pointer (some ⟨Be, 0, none⟩), .pointer (some ⟨Ba, 0, none⟩)]) rfl (enters_of Try.func59 (by kernel_rfl) rfl)
    (placed_foll 7 (by omega) TV.out hn HIN.out) (fun h k => h.trans k) ?keep (Below.refl _ _) (fun _ => rfl)
    (fun pre W => EF w V i t pre W)
    (fun c pre W => False)
    (fun s W W' row hs hg hr => ⟨hs.bx.own hg hr, hs.rs.own hg hr, below_own hs.bel (Nat.le_refl _) hg (Nat.le_trans (by omega) HZ.out.2.2.2.2) hr, Nat.le_trans hs.sz hg.size⟩)
    (fun c s W W' row hs hg hr => hs) ?h0
    (fun x a' W => ∃ B1, (V.heap.size ≤ B1 ∧ Bl W B1 24 (atC x.i x.e.t)) ∧ a' = { tmps := #[lgV i t A n c, .pointer (some ⟨w.heap.size, 0, none⟩), .pointer (some ⟨w.heap.size + 1, 0, none⟩), .pointer (some ⟨w.heap.size + 1 + 1, 0, none⟩), .pointer (some ⟨B1, 0, none⟩), .pointer (some ⟨w.heap.size, 0, none⟩), .agg #[.int .u64 (i : Int), .int .u64 (t : Int)], .pointer (some ⟨w.heap.size, 0, none⟩), .agg #[.int .u64 (i : Int), .int .u64 (t : Int)], .pointer (some ⟨w.heap.size, 2, none⟩), .slice A n c, .func (.func 59) #[] #[.pointer (some ⟨Be, 0, none⟩), .pointer (some ⟨Ba, 0, none⟩)], atV x.i x.e.t, enV x.e, undef, undef], defers := [] })
    ?hax ?assign ?body ?done ?stop)
  case keep =>
    intro W k o o' hk ho hc hw
    exact kp_put HZ.out.2.1 HZ.out.1 (Nat.le_trans (by omega) HZ.out.2.2.2.2) hk o'
  case h0 => exact H0.out
  case hax =>
    intro x a' _ W W' row hs hg hr
    obtain ⟨B1, ⟨h1, h3⟩, ha⟩ := hs
    exact ⟨B1, ⟨h1, h3.own hg hr⟩, ha⟩
  case assign =>
    rintro lp pre x W K hi hK
    have HI := Lib.hid hi
    clear hi
    gi_wp2
    obtain ⟨Wb, hWb⟩ : ∃ Wb, W.alloc (.cells #[.int .u64 (x.i : Int), .int .u64 (x.e.t : Int)] 24) = Wb := ⟨_, rfl⟩
    have hb : Below W.heap.size W Wb := by rw [← hWb]; exact (Below.refl _ _).alloc (Nat.le_refl _) _
    rw [hWb]
    refine hK _ _ (keeps_below hb) (Mv.of_below hb _) (HI.out.step hb) ⟨W.heap.size, ⟨HI.out.sz, ?_⟩, rfl⟩
    rw [← hWb]
    exact Bl.new W 24 (atC x.i x.e.t)
  case body =>
    rintro lp pre x a' W hmf ⟨B1, ⟨hb1, hx1⟩, rfl⟩ hpr
    obtain ⟨hpl, ⟨hpl', hxe⟩, _⟩ := placedL_next hpr
    have hxi : x.i = i + pre.length + 1 := by rw [hxe]
    have HMF := Lib.hid hmf
    have HXI := Lib.hid hxi
    have z0 := hx1.cell 0
    have z1 := hx1.cell 1
    have y0 := hmf.bx.cell 0
    have y1 := hmf.bx.cell 1
    have g0 := hmf.bx.frozen 0
    have g1 := hmf.bx.frozen 1
    simp only [atC, List.getElem?_cons_zero, List.getElem?_cons_succ] at y0 y1 z0 z1
    clear hmf hx1 hxe hpl' hpr hxi
    gi_wp2
    have hne : w.heap.size + 1 + 1 ≠ Be ∧ w.heap.size + 1 + 1 ≠ Ba ∧ w.heap.size ≤ W.heap.size := by have := HZ.out; have := HMF.out.bel.size; exact ⟨by omega, by omega, this⟩
    refine ⟨(keeps_set _ _ _).trans (keeps_set _ _ _), ((Mv.refl _ _).set_ (p := ⟨w.heap.size + 1 + 1, 0, none⟩) (.inl ⟨by show w.heap.size ≤ w.heap.size + 1 + 1; omega, hne.1, hne.2.1⟩) _).set_ (p := ⟨w.heap.size + 1 + 1, 1, none⟩) (.inl ⟨by show w.heap.size ≤ w.heap.size + 1 + 1; omega, hne.1, hne.2.1⟩) _, ?_, ?_, ?_, ?_⟩
    · have hx := bl_set2 HMF.out.bx (.int .u64 (x.i : Int)) (.int .u64 (x.e.t : Int))
      rw [vsP_snoc, lastT_snoc, show x.e.v.t = x.e.t from rfl, List.length_append, show i + (pre.length + [x].length) = x.i by rw [HXI.out]; simp; omega]
      exact hx
    · exact (HMF.out.rs.far (p := ⟨w.heap.size + 1 + 1, 0, none⟩) (by show w.heap.size + 1 ≠ w.heap.size + 1 + 1; omega) _).far (p := ⟨w.heap.size + 1 + 1, 1, none⟩) (by show w.heap.size + 1 ≠ w.heap.size + 1 + 1; omega) _
    · exact (HMF.out.bel.trans (below_cell (by omega) hne.2.2)).trans (below_cell (by omega) (by simpa [World.setCell] using hne.2.2))
    · simpa [World.setCell] using HMF.out.sz
  case done =>
    rintro D ys W hD rfl hmf hK
    have HMF := Lib.hid hmf
    have HK := Lib.hid hK
    have x0 := hmf.rs.cell 0
    have x1 := hmf.rs.cell 1
    have f0 := hmf.rs.frozen 0
    have f1 := hmf.rs.frozen 1
    have y0 := hmf.bx.cell 0
    have y1 := hmf.bx.cell 1
    simp only [atC, List.getElem?_cons_zero, List.getElem?_cons_succ] at x0 x1 y0 y1
    rw [placedL_len, hlen] at y0
    rw [vsP_placed] at y1
    clear hmf hK
    go_wp2
    have hz := HZ.out
    have HK2 := (Below.heap_setCell (W.setCell ⟨w.heap.size + 1, 0, none⟩ (.int .u64 ((i + n : Nat) : Int))) ⟨w.heap.size + 1, 1, none⟩ (.int .u64 (lastT t (vsE es) : Int)) D (by show D ≠ w.heap.size + 1; omega)).trans ((Below.heap_setCell W ⟨w.heap.size + 1, 0, none⟩ (.int .u64 ((i + n : Nat) : Int)) D (by show D ≠ w.heap.size + 1; omega)).trans HK.out)
    refine ends2_end _ D _ (i + n) (lastT t (vsE es)) rfl HK2 (bl_set2 HMF.out.rs _ _) ⟨rfl, ?_⟩
    exact ((HMF.out.bel.trans (below_cell (Nat.le_succ _) HMF.out.bel.size)).trans (below_cell (Nat.le_succ _) (by simpa [World.setCell] using HMF.out.bel.size))).trans (below_put (by omega))
  case stop =>
    rintro D c pre W hD hSp hmf hK
    exact hmf.elim
end Go.Proofs.Ytgdcahakefmakaa
