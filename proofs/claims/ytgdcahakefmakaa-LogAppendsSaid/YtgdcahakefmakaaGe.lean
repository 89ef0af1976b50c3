/-
  LOGS: whether entries may follow a place; whether a log may be.
-/
import Derived.Test.YtgdcahakefmakaaGd
namespace Go.Proofs.Ytgdcahakefmakaa
set_option linter.unusedVariables false
set_option linter.unusedSimpArgs false
open Go.RowKit Go.WideShapes Go.ChangeShapes Go.Deep Go.Shelf
attribute [local go_sem] Oper.semAt_some
attribute [local irreducible] wpQuiet

def vsP (pre : List Pl) : List Ev := pre.map fun x => x.e.v
theorem vsP_snoc (pre : List Pl) (x : Pl) : vsP (pre ++ [x]) = vsP pre ++ [x.e.v] := by simp [vsP]
theorem vsP_placed (i : Nat) (l : List En) : vsP (placedL i l) = vsE l := by
  induction l generalizing i with
  | nil => rfl
  | cons e r ih =>
    have := ih (i + 1)
    unfold vsP vsE at this ⊢
    simp only [placedL, List.map_cons, this]
theorem lastT_snoc (t : Nat) (l : List Ev) (e : Ev) : lastT t (l ++ [e]) = e.t := by rw [lastT_app]; rfl
theorem riseE_snoc (t : Nat) (l : List Ev) (e : Ev) : riseE t (l ++ [e]) = (riseE t l && (okE e && decide (lastT t l ≤ e.t))) := by
  rw [riseE_app]
  simp only [riseE, Bool.and_true]
theorem dec_lt (a b v : Nat) (hv : v = a) : decide (a < b) = !(decide (b ≤ v)) := by
  subst hv
  rcases Nat.lt_or_ge v b with h | h
  · rw [decide_eq_true (by omega), decide_eq_false (by omega)]; rfl
  · rw [decide_eq_false (by omega), decide_eq_true (by omega)]; rfl
theorem beq0 (i : Nat) : ((i : Int) == 0) = decide (i = 0) := by
  by_cases h : i = 0
  · simp [h]
  · have : ((i : Int) == 0) = false := by simp; omega
    rw [this]
    simp [h]
/-- The loop of mayFollow. -/
structure MF (w V : World) (i t : Nat) (pre : List Pl) (W : World) : Prop where
  bx : Bl W w.heap.size 24 (atC (i + pre.length) (lastT t (vsP pre)))
  ok : riseE t (vsP pre) = true
  rs : Bl W (w.heap.size + 1) 4 [.bool false]
  bel : Below w.heap.size w W
  sz : V.heap.size ≤ W.heap.size
structure MFx (w V : World) (t : Nat) (pre : List Pl) (W : World) : Prop where
  no : riseE t (vsP pre) = false
  rs : Bl W (w.heap.size + 1) 4 [.bool false]
  bel : Below w.heap.size w W
theorem MF.step {w V : World} {i t : Nat} {pre : List Pl} {W W' : World} (h : MF w V i t pre W) (hb : Below W.heap.size W W') : MF w V i t pre W' :=
  ⟨h.bx.below hb h.bx.lt, h.ok, h.rs.below hb h.rs.lt, h.bel.trans (hb.mono h.bel.size), Nat.le_trans h.sz hb.size⟩
theorem rise_pre {t : Nat} {pre : List Pl} {L : List Pl} (h : pre <+: L) (hn : riseE t (vsP pre) = false) : riseE t (vsP L) = false := by
  obtain ⟨r, rfl⟩ := h
  have : vsP (pre ++ r) = vsP pre ++ vsP r := by simp [vsP]
  rw [this, riseE_app, hn]
  rfl
theorem results_may (tmps : Array Value) (W : World) (b4 : Nat) (k : Bool) (h4 : tmps.getD 4 undef = .pointer (some ⟨b4, 0, none⟩)) (x4 : W.cell? ⟨b4, 0, none⟩ = some (.bool k)) :
    (results Try.f40 tmps).run Try.prog W = .ok (.bool k) W := by
  have h4' : tmps[4]?.getD undef = .pointer (some ⟨b4, 0, none⟩) := by simpa using h4
  simp [results, Try.f40, go_sem, h4', x4]
theorem ends_may {W : World} {R : Ending → World → Prop} (tmps : Array Value) (b4 : Nat) (k : Bool) (h4 : tmps.getD 4 undef = .pointer (some ⟨b4, 0, none⟩)) (x4 : Bl W b4 4 [.bool k])
    (h : R (.returned (.bool k)) W) : bodyPostM Fence.wide 8 Try.prog Try.f40 R Exit.ret { tmps := tmps, defers := [] } W :=
  ⟨_, results_may tmps W b4 k h4 (by have := x4.cell 0; simpa using this), h⟩
theorem ends2_may {W : World} {R : Ending → World → Prop} (tmps : Array Value) (D b4 : Nat) (k : Bool) (h4 : tmps.getD 4 undef = .pointer (some ⟨b4, 0, none⟩)) (hK : W.heap[D]? = some (.deferred (some []))) (x4 : Bl W b4 4 [.bool k])
    (h : R (.returned (.bool k)) (W.putObj D (.deferred none))) : bodyPostM Fence.wide 8 Try.prog Try.f40 R Exit.ret { tmps := tmps, defers := [{ target := Target.collected D, args := #[] }] } W := by
  have y4 : Bl (W.putObj D (.deferred none)) b4 4 [.bool k] := x4.grown (grownBy_putObj' W D _) (fun e => by injection e with e; subst e; have x4' : W.heap[b4]? = _ := x4; rw [x4'] at hK; cases hK)
  exact ⟨by simp, .inl ⟨D, _, rfl, run_takeDeferred hK, _, results_may tmps _ b4 k h4 (by have := y4.cell 0; simpa using this), h⟩⟩

set_option maxRecDepth 100000 in
set_option maxHeartbeats 4000000 in
theorem mayFollow_any {w : World} {A : Option Addr} {n c : Nat} {es : List En} (hs : SqE w w.heap.size A n c es) (hn : n ≤ 1000) (i t : Nat) (hi : i < 18446744073709551616) (ht : t < 18446744073709551616) :
    Calls Try.prog 40 #[atV i t, .slice A n c] w fun e w' => e = .returned (.bool (mayW i t (vsE es))) ∧ Below w.heap.size w w' := by
  obtain ⟨w1, hw1⟩ : ∃ w1, (w.alloc (.cells #[.int .u64 (i : Int), .int .u64 (t : Int)] 24)).alloc (.cells #[.bool false] 4) = w1 := ⟨_, rfl⟩
  have L1 : Bl w1 w.heap.size 24 (atC i t) := by rw [← hw1]; exact (Bl.new w 24 (atC i t)).alloc _
  have L2 : Bl w1 (w.heap.size + 1) 4 [.bool false] := by
    rw [← hw1]
    have := Bl.new (w.alloc (.cells #[.int .u64 (i : Int), .int .u64 (t : Int)] 24)) 4 [.bool false]
    rwa [World.size_alloc] at this
  have B1 : Below w.heap.size w w1 := by rw [← hw1]; exact ((Below.refl _ _).alloc (Nat.le_refl _) _).alloc (by simp) _
  have Z1 : w1.heap.size = w.heap.size + 2 := by rw [← hw1]; simp
  have HW := Lib.hid hw1
  have HL1 := Lib.hid L1
  have HL2 := Lib.hid L2
  have HB1 := Lib.hid B1
  have HZ1 := Lib.hid Z1
  have c0 := L1.cell 0
  have c1 := L1.cell 1
  simp only [atC, List.getElem?_cons_zero, List.getElem?_cons_succ] at c0 c1
  have x0 := (HL2.out).cell 0
  have f0 := (HL2.out).frozen 0
  simp only [List.getElem?_cons_zero] at x0
  have HS := Lib.hid hs
  have HIT := Lib.hid (And.intro hi ht)
  have hlen := hs.len
  clear hw1 L1 L2 B1 Z1 hs ht
  have HM := Lib.hid (show mayW i t (vsE es) = (decide (i ≤ topI) && (decide (es.length ≤ topI - i) && riseE t (vsE es))) by unfold mayW; rw [vsE_len])
  obtain ⟨r, hr⟩ : ∃ r, mayW i t (vsE es) = r := ⟨_, rfl⟩
  have HE := Lib.hid hr
  rw [hr]
  clear hr
  refine (callsIn_wide (n := 8)).1 ?_
  refine callsIn_of_wp_marks Try.func40 rfl trivial ?_ rfl
  simp only [Try.ntmps40, List.size_toArray, List.length_cons, List.length_nil, Nat.reduceAdd, Nat.reduceSub, Array.replicate_succ, Array.replicate_zero, List.push_toArray, List.append_toArray, List.nil_append, List.cons_append]
  refine wpIn_wide.2 ?_
  by_cases h1 : i ≤ topI
  · by_cases h2 : n ≤ topI - i
    · have HR := Lib.hid (show mayW i t (vsE es) = riseE t (vsE es) by rw [HM.out, hlen]; simp [h1, h2])
      have d1 : decide ((18446744073709551614 : Int) < (i : Int)) = false := by unfold topI at h1; simp; omega
      have d2 : decide ((18446744073709551614 : Int) - (i : Int) < (n : Int)) = false := by unfold topI at h1 h2; simp; omega
      unfold topI at h1 h2
      go_upto_region 1 with fail
      rw [HW.out]
      go_wp2_with fail
      refine (placed_any w1 i t A n c).mono ?_
      rintro e V ⟨Ba, Be, rfl, hba, hbe, hLa, hLe, hBV⟩
      clear c0 c1 x0 f0
      have TV : Hid (TP V w.heap.size Be Ba i t A n c es) := Lib.hid ⟨(HS.out.below HB1.out).below (hBV.mono HB1.out.size), Nat.le_trans HB1.out.size hBV.size, hLe, hLa⟩
      have HBV := Lib.hid hBV
      have HZ := Lib.hid (show Ba < V.heap.size ∧ Be < V.heap.size ∧ w.heap.size + 1 < Ba ∧ w.heap.size + 1 < Be ∧ w.heap.size + 2 ≤ V.heap.size by have := HZ1.out; have := hBV.size; exact ⟨hLa.lt, hLe.lt, by omega, by omega, by omega⟩)
      clear hba hbe hLa hLe hBV
      go_wp2_with fail
      have h0 : MF w V i t [] V := ⟨HL1.out.below HBV.out HL1.out.lt, rfl, HL2.out.below HBV.out HL2.out.lt, HB1.out.trans (HBV.out.mono HB1.out.size), Nat.le_refl _⟩
      have H0 := Lib.hid h0
      clear h0 HL1 HL2
      have HI64 := Lib.hid (show i + n < 18446744073709551616 by omega)
      refine wpIn_wide.1 (wpIn_rangeFunc_foll (n := 8) (gf := 59) (lb := #[.pointer (some ⟨Be, 0, none⟩), .pointer (some ⟨Ba, 0, none⟩)]) rfl (enters_of Try.func59 (by kernel_rfl) rfl)
    (placed_foll 7 (by omega) TV.out hn HI64.out) (fun h k => h.trans k) ?keep (Below.refl _ _) (fun _ => rfl)
    (fun pre W => MF w V i t pre W)
    (fun c pre W => c = .ret ∧ MFx w V t pre W)
    (fun s W W' row hs hg hr => ⟨hs.bx.own hg hr, hs.ok, hs.rs.own hg hr, below_own hs.bel (Nat.le_refl _) hg (Nat.le_trans (by omega) HZ.out.2.2.2.2) hr, Nat.le_trans hs.sz hg.size⟩)
    (fun c s W W' row hs hg hr => ⟨hs.1, hs.2.no, hs.2.rs.own hg hr, below_own hs.2.bel (Nat.le_refl _) hg (Nat.le_trans (by omega) HZ.out.2.2.2.2) hr⟩) ?h0
    (fun x a' W => ∃ B1 B2, (V.heap.size ≤ B1 ∧ V.heap.size ≤ B2 ∧ Bl W B1 24 (atC x.i x.e.t) ∧ Bl W B2 44 x.e.cells) ∧ a' = { tmps := #[atV i t, .slice A n c, .pointer (some ⟨w.heap.size, 0, none⟩), undef, .pointer (some ⟨w.heap.size + 1, 0, none⟩), .pointer (some ⟨B1, 0, none⟩), .pointer (some ⟨B2, 0, none⟩), .pointer (some ⟨w.heap.size, 0, none⟩), .int .u64 (i : Int), .bool false, .bool false, .slice A n c, .int .i64 (n : Int), .int .u64 (n : Int), .pointer (some ⟨w.heap.size, 0, none⟩), .int .u64 (i : Int), .int .u64 (18446744073709551614 - (i : Int)), .bool false, .bool false, .agg #[.int .u64 (i : Int), .int .u64 (t : Int)], .slice A n c, .func (.func 59) #[] #[.pointer (some ⟨Be, 0, none⟩), .pointer (some ⟨Ba, 0, none⟩)], atV x.i x.e.t, enV x.e, undef, undef, undef, undef, undef, undef, undef, undef, undef, undef, undef], defers := [] })
    ?hax ?assign ?body ?done ?stop)
      case keep =>
        intro W k o o' hk ho hc hw
        exact kp_put HZ.out.2.1 HZ.out.1 (Nat.le_trans (by omega) HZ.out.2.2.2.2) hk o'
      case h0 => exact H0.out
      case hax =>
        intro x a' _ W W' row hs hg hr
        obtain ⟨B1, B2, ⟨h1, h2, h3, h4⟩, ha⟩ := hs
        exact ⟨B1, B2, ⟨h1, h2, h3.own hg hr, h4.own hg hr⟩, ha⟩
      case assign =>
        rintro lp pre x W K hi hK
        have HI := Lib.hid hi
        clear hi
        gi_wp2
        obtain ⟨Wb, hWb⟩ : ∃ Wb, (W.alloc (.cells #[.int .u64 (x.i : Int), .int .u64 (x.e.t : Int)] 24)).alloc (.cells #[.int .u64 (x.e.t : Int), .int .i64 x.e.k, .slice x.e.D.a x.e.D.n x.e.D.c] 44) = Wb := ⟨_, rfl⟩
        have hb : Below W.heap.size W Wb := by rw [← hWb]; exact ((Below.refl _ _).alloc (Nat.le_refl _) _).alloc (by simp) _
        rw [hWb]
        refine hK _ _ (keeps_below hb) (Mv.of_below hb _) (HI.out.step hb) ⟨W.heap.size, W.heap.size + 1, ⟨HI.out.sz, Nat.le_succ_of_le HI.out.sz, ?_, ?_⟩, rfl⟩
        · rw [← hWb]
          exact (Bl.new W 24 (atC x.i x.e.t)).alloc _
        · rw [← hWb]
          have := Bl.new (W.alloc (.cells #[.int .u64 (x.i : Int), .int .u64 (x.e.t : Int)] 24)) 44 x.e.cells
          rwa [World.size_alloc] at this
      case body =>
        rintro lp pre x a' W hmf ⟨B1, B2, ⟨hb1, hb2, hx1, hx2⟩, rfl⟩ hpr
        obtain ⟨hpl, ⟨hpl', hxe⟩, _⟩ := placedL_next hpr
        have hxi : x.i = i + pre.length + 1 := by rw [hxe]
        have hein : EnIn W W.heap.size x.e := by
          have : x.e ∈ es := by rw [hxe]; exact List.getElem_mem hpl
          exact ((HS.out.e _ this).below hmf.bel).more hmf.bel.size
        have CE := Lib.hid (isEntry_any hein)
        have HMF := Lib.hid hmf
        have HX1 := Lib.hid hx1
        have HX2 := Lib.hid hx2
        have HXI := Lib.hid hxi
        have HBB := Lib.hid (And.intro hb1 hb2)
        have q0 := hx2.cell 0
        have q1 := hx2.cell 1
        have q2 := hx2.cell 2
        simp only [En.cells, List.getElem?_cons_zero, List.getElem?_cons_succ] at q0 q1 q2
        obtain ⟨ok, hok⟩ : ∃ ok, okE x.e.v = ok := ⟨_, rfl⟩
        have HOK := Lib.hid hok
        have HSN := Lib.hid (riseE_snoc t (vsP pre) x.e.v)
        rw [← vsP_snoc] at HSN
        rw [hmf.ok, hok] at HSN
        rw [hok] at CE
        have ht1 : x.e.v.t = x.e.t := rfl
        have HT1 := Lib.hid ht1
        clear hmf hx1 hx2 hxe hpl' hein hok hpr hb1 hb2 hxi ht1
        have hfn1 : Fence.wide.fn 51 := trivial
        cases ok
        · gi_wp2_with (first | (gi_at_call 51; with_reducible refine CallsIn.mono (CallsIn.inRound lp (callsIn_wide.2 CE.out)) ?_; rintro e w5 ⟨rfl, hb5⟩; have BW5 := Lib.hid hb5; clear hb5; have x0 := (HMF.out.step BW5.out).rs.cell 0; have f0 := (HMF.out.step BW5.out).rs.frozen 0; simp only [List.getElem?_cons_zero] at x0; clear q0 q1 q2) | fail)
          have M5 := HMF.out.step BW5.out
          refine ⟨(keeps_below BW5.out).trans (keeps_set _ _ _), rfl, by rw [HSN]; rfl, M5.rs.set_ 0 (.bool false), M5.bel.trans (below_cell (Nat.le_succ _) M5.bel.size)⟩
        · obtain ⟨q, hq⟩ : ∃ q, decide (lastT t (vsP pre) ≤ x.e.v.t) = q := ⟨_, rfl⟩
          rw [hq] at HSN
          have dq : decide (x.e.t < lastT t (vsP pre)) = !q := by
            rw [← hq]
            exact dec_lt _ _ _ HT1.out
          have HQ := Lib.hid hq
          clear hq
          cases q
          · gi_wp2_with (first | (gi_at_call 51; with_reducible refine CallsIn.mono (CallsIn.inRound lp (callsIn_wide.2 CE.out)) ?_; rintro e w5 ⟨rfl, hb5⟩; have BW5 := Lib.hid hb5; clear hb5; have M5 := Lib.hid (HMF.out.step BW5.out); have x0 := M5.out.rs.cell 0; have f0 := M5.out.rs.frozen 0; have y0 := M5.out.bx.cell 0; have y1 := M5.out.bx.cell 1; have g0 := M5.out.bx.frozen 0; have g1 := M5.out.bx.frozen 1; have z0 := (HX1.out.below BW5.out HX1.out.lt).cell 0; have z1 := (HX1.out.below BW5.out HX1.out.lt).cell 1; simp only [atC, List.getElem?_cons_zero, List.getElem?_cons_succ] at x0 y0 y1 z0 z1; clear q0 q1 q2) | fail)
            exact ⟨(keeps_below BW5.out).trans (keeps_set _ _ _), rfl, by rw [HSN]; rfl, M5.out.rs.set_ 0 (.bool false), M5.out.bel.trans (below_cell (Nat.le_succ _) M5.out.bel.size)⟩
          · gi_wp2_with (first | (gi_at_call 51; with_reducible refine CallsIn.mono (CallsIn.inRound lp (callsIn_wide.2 CE.out)) ?_; rintro e w5 ⟨rfl, hb5⟩; have BW5 := Lib.hid hb5; clear hb5; have M5 := Lib.hid (HMF.out.step BW5.out); have x0 := M5.out.rs.cell 0; have f0 := M5.out.rs.frozen 0; have y0 := M5.out.bx.cell 0; have y1 := M5.out.bx.cell 1; have g0 := M5.out.bx.frozen 0; have g1 := M5.out.bx.frozen 1; have z0 := (HX1.out.below BW5.out HX1.out.lt).cell 0; have z1 := (HX1.out.below BW5.out HX1.out.lt).cell 1; simp only [atC, List.getElem?_cons_zero, List.getElem?_cons_succ] at x0 y0 y1 z0 z1; clear q0 q1 q2) | fail)
            have hne : w.heap.size ≠ Be ∧ w.heap.size ≠ Ba ∧ w.heap.size ≤ w5.heap.size := by have := HZ.out; have := M5.out.bel.size; exact ⟨by omega, by omega, this⟩
            refine ⟨(keeps_below BW5.out).trans ((keeps_set _ _ _).trans (keeps_set _ _ _)), ((Mv.of_below BW5.out _).set_ (p := ⟨w.heap.size, 0, none⟩) (.inl ⟨Nat.le_refl _, hne.1, hne.2.1⟩) _).set_ (p := ⟨w.heap.size, 1, none⟩) (.inl ⟨Nat.le_refl _, hne.1, hne.2.1⟩) _, ?_, by rw [HSN]; rfl, ?_, ?_, ?_⟩
            · have hx := bl_set2 M5.out.bx (.int .u64 (x.i : Int)) (.int .u64 (x.e.t : Int))
              rw [vsP_snoc, lastT_snoc, HT1.out, List.length_append, show i + (pre.length + [x].length) = x.i by rw [HXI.out]; simp; omega]
              exact hx
            · exact (M5.out.rs.far (p := ⟨w.heap.size, 0, none⟩) (by show w.heap.size + 1 ≠ w.heap.size; omega) _).far (p := ⟨w.heap.size, 1, none⟩) (by show w.heap.size + 1 ≠ w.heap.size; omega) _
            · exact (M5.out.bel.trans (below_cell (Nat.le_refl _) hne.2.2)).trans (below_cell (Nat.le_refl _) (by simpa [World.setCell] using hne.2.2))
            · simpa [World.setCell] using M5.out.sz
      case done =>
        rintro D ys W hD rfl hmf hK
        have HMF := Lib.hid hmf
        have HK := Lib.hid hK
        have x0 := hmf.rs.cell 0
        have f0 := hmf.rs.frozen 0
        simp only [List.getElem?_cons_zero] at x0
        obtain rfl : r = true := by rw [← HE.out, HR.out, ← vsP_placed i es]; exact hmf.ok
        clear hmf hK
        go_wp2
        have HK2 := (Below.heap_setCell W ⟨w.heap.size + 1, 0, none⟩ (.bool true) D (by show D ≠ w.heap.size + 1; have := HZ.out; omega)).trans HK.out
        refine ends2_may _ D _ true rfl HK2 (HMF.out.rs.set_ 0 (.bool true)) ⟨rfl, ?_⟩
        exact (HMF.out.bel.trans (below_cell (Nat.le_succ _) HMF.out.bel.size)).trans (below_put (by have := HZ.out; omega))
      case stop =>
        rintro D c pre W hD hSp ⟨rfl, hmf⟩ hK
        have HMF := Lib.hid hmf
        have HK := Lib.hid hK
        obtain rfl : r = false := by rw [← HE.out, HR.out, ← vsP_placed i es]; exact rise_pre hSp hmf.no
        clear hmf hK
        refine wpIn_wide.2 ?_
        go_wp2
        exact ends2_may _ D _ false rfl HK.out HMF.out.rs ⟨rfl, HMF.out.bel.trans (below_put (by have := HZ.out; omega))⟩
    · have e0 : mayW i t (vsE es) = false := by rw [HM.out, hlen]; simp [h2]
      obtain rfl : r = false := by rw [← HE.out]; exact e0
      have d1 : decide ((18446744073709551614 : Int) < (i : Int)) = false := by unfold topI at h1; simp; omega
      have d2 : decide ((18446744073709551614 : Int) - (i : Int) < (n : Int)) = true := by unfold topI at h1 h2; simp; omega
      unfold topI at h1 h2
      clear e0
      go_upto_region 1 with fail
      rw [HW.out]
      go_wp2_with fail
      exact ends_may _ _ false rfl (HL2.out.set_ 0 (.bool false)) ⟨rfl, HB1.out.trans (below_cell (Nat.le_succ _) HB1.out.size)⟩
  · have e0 : mayW i t (vsE es) = false := by rw [HM.out]; simp [h1]
    obtain rfl : r = false := by rw [← HE.out]; exact e0
    have d1 : decide ((18446744073709551614 : Int) < (i : Int)) = true := by unfold topI at h1; simp; omega
    unfold topI at h1
    clear e0
    go_upto_region 1 with fail
    rw [HW.out]
    go_wp2_with fail
    exact ends_may _ _ false rfl (HL2.out.set_ 0 (.bool false)) ⟨rfl, HB1.out.trans (below_cell (Nat.le_succ _) HB1.out.size)⟩
set_option maxRecDepth 100000 in
set_option maxHeartbeats 2000000 in
theorem isLog_any {w : World} {A : Option Addr} {n c : Nat} {es : List En} (hs : SqE w w.heap.size A n c es) (hn : n ≤ 1000) (i t : Nat) (hi : i < 18446744073709551616) (ht : t < 18446744073709551616) :
    Calls Try.prog 39 #[lgV i t A n c] w fun e w' => e = .returned (.bool (isLogW ⟨i, t, vsE es⟩)) ∧ Below w.heap.size w w' := by
  obtain ⟨w1, hw1⟩ : ∃ w1, w.alloc (.cells #[.int .u64 (i : Int), .int .u64 (t : Int), .slice A n c] 27) = w1 := ⟨_, rfl⟩
  have L1 : Bl w1 w.heap.size 27 (lgC i t A n c) := by rw [← hw1]; exact Bl.new w 27 (lgC i t A n c)
  have B1 : Below w.heap.size w w1 := by rw [← hw1]; exact (Below.refl _ _).alloc (Nat.le_refl _) _
  have HM := Lib.hid (mayFollow_any ((hs.below B1).more B1.size) hn i t hi ht)
  have c0 := L1.cell 0
  have c1 := L1.cell 1
  have c2 := L1.cell 2
  simp only [lgC, List.getElem?_cons_zero, List.getElem?_cons_succ] at c0 c1 c2
  have HW := Lib.hid hw1
  have HB := Lib.hid B1
  have hlen := hs.len
  have e0 : isLogW ⟨i, t, vsE es⟩ = ((decide (i = 0) == decide (t = 0)) && (decide (n ≤ 16) && mayW i t (vsE es))) := by
    unfold isLogW
    rw [vsE_len, hlen]
  rw [e0]
  clear hw1 L1 B1 e0 hs
  obtain ⟨q, hq⟩ : ∃ q, (decide (i = 0) == decide (t = 0)) = q := ⟨_, rfl⟩
  have dq : (((i : Int) == 0) == ((t : Int) == 0)) = q := by
    rw [← hq]
    rw [beq0, beq0]
  rw [hq]
  have HQ := Lib.hid hq
  clear hq
  cases q
  · go_enter Try.func39, Try.ntmps39
    go_upto_region 1 with fail
    rw [HW.out]
    go_wp2_with fail
    go_ret
    exact ⟨rfl, HB.out⟩
  by_cases h16 : n ≤ 16
  · have d16 : decide ((n : Int) ≤ 16) = true := by simp; omega
    go_enter Try.func39, Try.ntmps39
    go_upto_region 1 with fail
    rw [HW.out]
    go_wp2_with (first | (go_at_call 40; refine HM.out.mono ?_; rintro e w2 ⟨rfl, hb2⟩; have HB2 := Lib.hid hb2; clear hb2 c0 c1 c2) | fail)
    go_ret
    exact ⟨by simp [h16], HB.out.trans (HB2.out.mono HB.out.size)⟩
  · have d16 : decide ((n : Int) ≤ 16) = false := by simp; omega
    go_enter Try.func39, Try.ntmps39
    go_upto_region 1 with fail
    rw [HW.out]
    go_wp2_with fail
    go_ret
    exact ⟨by simp [h16], HB.out⟩
end Go.Proofs.Ytgdcahakefmakaa
