/-
  LOGS: how many of the entries a log knows.
-/
import Derived.Test.YtgdcahakefmakaaGh
namespace Go.Proofs.Ytgdcahakefmakaa
set_option linter.unusedVariables false
set_option linter.unusedSimpArgs false
open Go.RowKit Go.WideShapes Go.ChangeShapes Go.Deep Go.Shelf
attribute [local go_sem] Oper.semAt_some
attribute [local irreducible] wpQuiet

structure KF (w V : World) (i t : Nat) (A : Option Addr) (n c : Nat) (l : Lg) (pre : List Pl) (W : World) : Prop where
  lg : Bl W w.heap.size 27 (lgC i t A n c)
  ct : Bl W (w.heap.size + 1 + 1) 3 [.int .i64 (pre.length : Int)]
  ok : ∀ x ∈ pre, okK l x = true
  bel : Below w.heap.size w W
  sz : V.heap.size ≤ W.heap.size
theorem KF.step {w V : World} {i t : Nat} {A : Option Addr} {n c : Nat} {l : Lg} {pre : List Pl} {W W' : World} (h : KF w V i t A n c l pre W) (hb : Below W.heap.size W W') : KF w V i t A n c l pre W' :=
  ⟨h.lg.below hb h.lg.lt, h.ct.below hb h.ct.lt, h.ok, h.bel.trans (hb.mono h.bel.size), Nat.le_trans h.sz hb.size⟩
structure KX (w : World) (l : Lg) (pre : List Pl) (W : World) : Prop where
  hit : ∃ q x, pre = q ++ [x] ∧ (∀ y ∈ q, okK l y = true) ∧ okK l x = false ∧ Bl W (w.heap.size + 1 + 1) 3 [.int .i64 (q.length : Int)]
  bel : Below w.heap.size w W
theorem results_known (tmps : Array Value) (W : World) (k : Int) (h6 : tmps.getD 6 undef = .int .i64 k) : (results Try.f42 tmps).run Try.prog W = .ok (.int .i64 k) W := by
  have h6' : tmps[6]?.getD undef = .int .i64 k := by simpa using h6
  simp [results, Try.f42, go_sem, h6']
theorem ends2_known {W : World} {R : Ending → World → Prop} (tmps : Array Value) (D : Nat) (k : Int) (h6 : tmps.getD 6 undef = .int .i64 k) (hK : W.heap[D]? = some (.deferred (some [])))
    (h : R (.returned (.int .i64 k)) (W.putObj D (.deferred none))) : bodyPostM Fence.wide 8 Try.prog Try.f42 R Exit.ret { tmps := tmps, defers := [{ target := Target.collected D, args := #[] }] } W :=
  ⟨by simp, .inl ⟨D, _, rfl, run_takeDeferred hK, _, results_known tmps _ k h6, h⟩⟩
set_option maxRecDepth 100000 in
set_option maxHeartbeats 4000000 in
theorem known_any {w : World} {A : Option Addr} {n c : Nat} {es : List En} (hs : SqE w w.heap.size A n c es) (hn : n ≤ 1000) (i t : Nat) (hin : i + n < 18446744073709551616) (ht : t < 18446744073709551616)
    {A' : Option Addr} {n' c' : Nat} {xs : List En} (hs' : SqE w w.heap.size A' n' c' xs) (hn' : n' ≤ 1000) (pi pt : Nat) (hpin : pi + n' < 18446744073709551616) :
    Calls Try.prog 42 #[lgV i t A n c, atV pi pt, .slice A' n' c'] w fun e w' => e = .returned (.int .i64 (knownW ⟨i, t, vsE es⟩ pi (vsE xs) : Int)) ∧ Below w.heap.size w w' := by
  obtain ⟨w1, hw1⟩ : ∃ w1, (((w.alloc (.cells #[.int .u64 (i : Int), .int .u64 (t : Int), .slice A n c] 27)).alloc (.cells #[.int .u64 (pi : Int), .int .u64 (pt : Int)] 24)).alloc (.cells #[.int .i64 0] 3)) = w1 := ⟨_, rfl⟩
  have L0 : Bl w1 (w.heap.size) 27 [.int .u64 (i : Int), .int .u64 (t : Int), .slice A n c] := by
    rw [← hw1]
    have h := Bl.new w 27 [.int .u64 (i : Int), .int .u64 (t : Int), .slice A n c]
    (try simp only [World.size_alloc] at h)
    exact ((h.alloc _).alloc _)
  have L1 : Bl w1 (w.heap.size + 1) 24 [.int .u64 (pi : Int), .int .u64 (pt : Int)] := by
    rw [← hw1]
    have h := Bl.new (w.alloc (.cells #[.int .u64 (i : Int), .int .u64 (t : Int), .slice A n c] 27)) 24 [.int .u64 (pi : Int), .int .u64 (pt : Int)]
    (try simp only [World.size_alloc] at h)
    exact (h.alloc _)
  have L2 : Bl w1 (w.heap.size + 1 + 1) 3 [.int .i64 0] := by
    rw [← hw1]
    have h := Bl.new ((w.alloc (.cells #[.int .u64 (i : Int), .int .u64 (t : Int), .slice A n c] 27)).alloc (.cells #[.int .u64 (pi : Int), .int .u64 (pt : Int)] 24)) 3 [.int .i64 0]
    (try simp only [World.size_alloc] at h)
    exact h
  have B1 : Below w.heap.size w w1 := by
    rw [← hw1]
    exact ((((Below.refl _ _).alloc (by simp <;> omega) _).alloc (by simp <;> omega) _).alloc (by simp <;> omega) _)
  have Z1 : w1.heap.size = w.heap.size + 3 := by rw [← hw1]; simp
  have d0 := L1.cell 0
  have d1 := L1.cell 1
  simp only [List.getElem?_cons_zero, List.getElem?_cons_succ] at d0 d1
  have HW := Lib.hid hw1
  have HL0 := Lib.hid (show Bl w1 w.heap.size 27 (lgC i t A n c) from L0)
  have HL2 := Lib.hid (show Bl w1 (w.heap.size + 1 + 1) 3 [.int .i64 0] from L2)
  have HB1 := Lib.hid B1
  have HZ1 := Lib.hid Z1
  have HS := Lib.hid hs
  have HS' := Lib.hid hs'
  have HIN := Lib.hid (And.intro hin ht)
  have HPN := Lib.hid hpin
  have hlen := hs'.len
  obtain ⟨r, hr⟩ : ∃ r, knownW ⟨i, t, vsE es⟩ pi (vsE xs) = r := ⟨_, rfl⟩
  have HE := Lib.hid (show ((placedL pi xs).takeWhile (okK ⟨i, t, vsE es⟩)).length = r by rw [← knownW_placed]; exact hr)
  rw [hr]
  clear hw1 L0 L1 L2 B1 Z1 hs hs' ht hin hpin hr
  refine (callsIn_wide (n := 8)).1 ?_
  refine callsIn_of_wp_marks Try.func42 rfl trivial ?_ rfl
  simp only [Try.ntmps42, List.size_toArray, List.length_cons, List.length_nil, Nat.reduceAdd, Nat.reduceSub, Array.replicate_succ, Array.replicate_zero, List.push_toArray, List.append_toArray, List.nil_append, List.cons_append]
  refine wpIn_wide.2 ?_
  go_upto_region 2 with fail
  refine wp_scope_straight ?_
  go_wp2_with fail
  rw [HW.out]
  refine wp_label ?_
  go_wp2_with fail
  refine (placed_any w1 pi pt A' n' c').mono ?_
  rintro e V ⟨Ba, Be, rfl, hba, hbe, hLa, hLe, hBV⟩
  clear d0 d1
  have TV : Hid (TP V w.heap.size Be Ba pi pt A' n' c' xs) := Lib.hid ⟨(HS'.out.below HB1.out).below (hBV.mono HB1.out.size), Nat.le_trans HB1.out.size hBV.size, hLe, hLa⟩
  have HBV := Lib.hid hBV
  have HZ := Lib.hid (show Ba < V.heap.size ∧ Be < V.heap.size ∧ w.heap.size + 2 < Ba ∧ w.heap.size + 2 < Be ∧ w.heap.size + 3 ≤ V.heap.size by have := HZ1.out; have := hBV.size; exact ⟨hLa.lt, hLe.lt, by omega, by omega, by omega⟩)
  clear hba hbe hLa hLe hBV
  go_wp2_with fail
  have h0 : KF w V i t A n c ⟨i, t, vsE es⟩ [] V := ⟨HL0.out.below HBV.out HL0.out.lt, HL2.out.below HBV.out HL2.out.lt, (fun x hx => by cases hx), HB1.out.trans (HBV.out.mono HB1.out.size), Nat.le_refl _⟩
  have H0 := Lib.hid h0
  clear h0 HL0 HL2
  refine wpIn_wide.1 (wpIn_rangeFunc_foll (n := 8) (gf := 59) (lb := #[.pointer (some ⟨Be, 0, none⟩), .pointer (some ⟨Ba, 0, none⟩)]) rfl (enters_of Try.func59 (by kernel_rfl) rfl)
    (placed_foll 7 (by omega) TV.out hn' HPN.out) (fun h k => h.trans k) ?keep (Below.refl _ _) (fun _ => rfl)
    (fun pre W => KF w V i t A n c ⟨i, t, vsE es⟩ pre W)
    (fun cd pre W => cd = .exit 0 ∧ KX w ⟨i, t, vsE es⟩ pre W)
    (fun s W W' row hs hg hr => ⟨hs.lg.own hg hr, hs.ct.own hg hr, hs.ok, below_own hs.bel (Nat.le_refl _) hg (Nat.le_trans (by omega) HZ.out.2.2.2.2) hr, Nat.le_trans hs.sz hg.size⟩)
    (fun cd s W W' row hs hg hr => ⟨hs.1, hs.2.hit.imp fun q h => h.imp fun x h => ⟨h.1, h.2.1, h.2.2.1, h.2.2.2.own hg hr⟩, below_own hs.2.bel (Nat.le_refl _) hg (Nat.le_trans (by omega) HZ.out.2.2.2.2) hr⟩) ?h0
    (fun x a' W => ∃ B1, (V.heap.size ≤ B1 ∧ Bl W B1 24 (atC x.i x.e.t)) ∧ a' = { tmps := #[lgV i t A n c, atV pi pt, .slice A' n' c', .pointer (some ⟨w.heap.size, 0, none⟩), .pointer (some ⟨w.heap.size + 1, 0, none⟩), undef, .int .i64 0, .pointer (some ⟨w.heap.size + 1 + 1, 0, none⟩), .pointer (some ⟨B1, 0, none⟩), .agg #[.int .u64 (pi : Int), .int .u64 (pt : Int)], .slice A' n' c', .func (.func 59) #[] #[.pointer (some ⟨Be, 0, none⟩), .pointer (some ⟨Ba, 0, none⟩)], atV x.i x.e.t, enV x.e, undef, undef, undef, undef, undef, undef, undef, undef, undef, undef, undef, undef, undef, undef], defers := [] })
    ?hax ?assign ?body ?done ?stop)
  case keep =>
    intro W k o o' hk ho hc hw
    exact kp_put HZ.out.2.1 HZ.out.1 (Nat.le_trans (by omega) HZ.out.2.2.2.2) hk o'
  case h0 => exact H0.out
  case hax =>
    intro x a' _ W W' row hs hg hr
    obtain ⟨B1, ⟨h1, h3⟩, ha⟩ := hs
    exact ⟨B1, ⟨h1, h3.own hg hr⟩, ha⟩
  case assign =>
    rintro lp pre x W K hi hK
    have HI := Lib.hid hi
    clear hi
    gi_wp2
    obtain ⟨Wb, hWb⟩ : ∃ Wb, W.alloc (.cells #[.int .u64 (x.i : Int), .int .u64 (x.e.t : Int)] 24) = Wb := ⟨_, rfl⟩
    have hb : Below W.heap.size W Wb := by rw [← hWb]; exact (Below.refl _ _).alloc (Nat.le_refl _) _
    rw [hWb]
    refine hK _ _ (keeps_below hb) (Mv.of_below hb _) (HI.out.step hb) ⟨W.heap.size, ⟨HI.out.sz, ?_⟩, rfl⟩
    rw [← hWb]
    exact Bl.new W 24 (atC x.i x.e.t)
  case body =>
    rintro lp pre x a' W hmf ⟨B1, ⟨hb1, hx1⟩, rfl⟩ hpr
    obtain ⟨hpl, ⟨hpl', hxe⟩, _⟩ := placedL_next hpr
    have hxi : x.i = pi + pre.length + 1 := by rw [hxe]
    have hx64 : x.i < 18446744073709551616 := by have := HPN.out; rw [hxi]; omega
    have HMF := Lib.hid hmf
    have z0 := hx1.cell 0
    have z1 := hx1.cell 1
    have y0 := hmf.lg.cell 0
    have y1 := hmf.lg.cell 1
    have y2 := hmf.lg.cell 2
    have x0 := hmf.ct.cell 0
    have f0 := hmf.ct.frozen 0
    simp only [atC, lgC, List.getElem?_cons_zero, List.getElem?_cons_succ] at y0 y1 y2 z0 z1 x0
    have hsW : SqE W W.heap.size A n c es := HS.out.next (Nat.le_refl _) hmf.bel
    have CH := Lib.hid (has_any hsW hn i t HIN.out.1 HIN.out.2 x.i x.e.t hx64)
    have HOK := Lib.hid (show okK ⟨i, t, vsE es⟩ x = (decide (x.i ≤ i) || hasW ⟨i, t, vsE es⟩ x.i x.e.t) from rfl)
    have hpl1000 : pre.length < 1000 := by omega
    have hfn1 : Fence.wide.fn 41 := trivial
    clear hmf hx1 hpr hxe hpl hpl' hsW hxi
    have fin : ∀ W2, Below W.heap.size W W2 → okK ⟨i, t, vsE es⟩ x = true → ∃ v, v = (W2.setCell ⟨w.heap.size + 1 + 1, 0, none⟩ (.int .i64 ((pre.length : Int) + 1))) ∧ KeepsFrom V.heap.size W v ∧ Mv (TnP w.heap.size Be Ba) W v ∧ KF w V i t A n c ⟨i, t, vsE es⟩ (pre ++ [x]) v := fun W2 hb hk => by
      have M := HMF.out.step hb
      have hz := HZ.out
      have hs := M.bel.size
      refine ⟨_, rfl, (keeps_below hb).trans (keeps_set _ _ _), (Mv.of_below hb _).set_ (p := ⟨w.heap.size + 1 + 1, 0, none⟩) (.inl ⟨by show w.heap.size ≤ w.heap.size + 1 + 1; omega, by show w.heap.size + 1 + 1 ≠ Be; omega, by show w.heap.size + 1 + 1 ≠ Ba; omega⟩) _, ?_, ?_, ?_, ?_, ?_⟩
      · exact M.lg.far (p := ⟨w.heap.size + 1 + 1, 0, none⟩) (by show w.heap.size ≠ w.heap.size + 1 + 1; omega) _
      · have h := M.ct.set_ 0 (.int .i64 ((pre.length : Int) + 1))
        rw [List.length_append, show ((pre.length + [x].length : Nat) : Int) = (pre.length : Int) + 1 by simp]
        exact h
      · intro y hy
        rcases List.mem_append.1 hy with h | h
        · exact M.ok y h
        · simp at h
          subst h
          exact hk
      · exact M.bel.trans (below_cell (by omega) hs)
      · simpa [World.setCell] using M.sz
    have FIN := Lib.hid fin
    clear fin
    by_cases hle : x.i ≤ i
    · have d1 : decide ((x.i : Int) ≤ (i : Int)) = true := by simp; omega
      have hk : okK ⟨i, t, vsE es⟩ x = true := by rw [HOK.out]; simp [hle]
      have HK := Lib.hid hk
      clear hk CH
      gi_wp2
      obtain ⟨v, rfl, h1, h2, h3⟩ := FIN.out W (Below.refl _ _) HK.out
      exact ⟨h1, h2, h3⟩
    · have d1 : decide ((x.i : Int) ≤ (i : Int)) = false := by simp; omega
      obtain ⟨q, hq⟩ : ∃ q, hasW ⟨i, t, vsE es⟩ x.i x.e.t = q := ⟨_, rfl⟩
      have hk : okK ⟨i, t, vsE es⟩ x = q := by rw [HOK.out, hq]; simp [hle]
      rw [hq] at CH
      have HK := Lib.hid hk
      clear hk hq
      cases q
      · gi_wp2_with (first | (gi_at_call 41; with_reducible refine CallsIn.mono (CallsIn.inRound lp (callsIn_wide.2 CH.out)) ?_; rintro e w5 ⟨rfl, hb5⟩; have BW5 := Lib.hid hb5; clear hb5 x0 f0; have M5 := Lib.hid (HMF.out.step BW5.out); have x0 := M5.out.ct.cell 0; have f0 := M5.out.ct.frozen 0; simp only [List.getElem?_cons_zero] at x0; clear y0 y1 y2 z0 z1) | fail)
        exact ⟨keeps_below BW5.out, rfl, ⟨pre, x, rfl, M5.out.ok, HK.out, M5.out.ct⟩, M5.out.bel⟩
      · gi_wp2_with (first | (gi_at_call 41; with_reducible refine CallsIn.mono (CallsIn.inRound lp (callsIn_wide.2 CH.out)) ?_; rintro e w5 ⟨rfl, hb5⟩; have BW5 := Lib.hid hb5; clear hb5 x0 f0; have M5 := Lib.hid (HMF.out.step BW5.out); have x0 := M5.out.ct.cell 0; have f0 := M5.out.ct.frozen 0; simp only [List.getElem?_cons_zero] at x0; clear y0 y1 y2 z0 z1) | fail)
        obtain ⟨v, rfl, h1, h2, h3⟩ := FIN.out w5 BW5.out HK.out
        exact ⟨h1, h2, h3⟩
  case done =>
    rintro D ys W hD rfl hmf hK
    have HMF := Lib.hid hmf
    have HK := Lib.hid hK
    have x0 := hmf.ct.cell 0
    simp only [List.getElem?_cons_zero] at x0
    obtain rfl : (placedL pi xs).length = r := by rw [← HE.out, takeWhile_all hmf.ok]
    clear hmf hK
    go_wp2
    rw [Exit.noGoto_ret]
    exact ends2_known _ D _ rfl HK.out ⟨rfl, HMF.out.bel.trans (below_put (by have := HZ.out; omega))⟩
  case stop =>
    rintro D cd pre W hD hSp ⟨rfl, hmf⟩ hK
    obtain ⟨q, x, hq, h1, h2, h3⟩ := hmf.hit
    have hBL := Lib.hid hmf.bel
    have HK := Lib.hid hK
    have x0 := h3.cell 0
    simp only [List.getElem?_cons_zero] at x0
    obtain rfl : q.length = r := by
      rw [← HE.out]
      obtain ⟨rest, hr⟩ := hSp
      rw [← hr, hq, List.append_assoc, show [x] ++ rest = x :: rest from rfl, takeWhile_pre h2 h1]
    clear hmf hK hq h1 h2 h3 hSp
    refine wpIn_wide.2 ?_
    go_wp2
    rw [Exit.noGoto_ret]
    exact ends2_known _ D _ rfl HK.out ⟨rfl, hBL.out.trans (below_put (by have := HZ.out; omega))⟩
end Go.Proofs.Ytgdcahakefmakaa
