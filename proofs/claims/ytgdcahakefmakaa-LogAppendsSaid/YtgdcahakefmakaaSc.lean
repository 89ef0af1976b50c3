/-
  LOGS, THE DOCUMENT'S ANSWER: a log with an entry more.
-/
import Derived.Test.YtgdcahakefmakaaSk
namespace Go.Proofs.Ytgdcahakefmakaa
set_option linter.unusedVariables false
set_option linter.unusedSimpArgs false
open Go.RowKit Go.WideShapes Go.ChangeShapes Go.Deep Go.Shelf
attribute [local irreducible] wpQuiet

theorem results_rappend (tmps : Array Value) (W : World) (b b' i t : Nat) (A : Option Addr) (n c : Nat) (x y : Nat) (k : Int) (h4 : tmps.getD 4 undef = .pointer (some ⟨b, 0, none⟩)) (h5 : tmps.getD 5 undef = .pointer (some ⟨b', 0, none⟩)) (h6 : tmps.getD 6 undef = .int .i64 k) (hx : Bl W b 27 (lgC i t A n c)) (hy : Bl W b' 24 (atC x y)) :
    (results Try.f20 tmps).run Try.prog W = .ok (.tuple #[lgV i t A n c, atV x y, .int .i64 k]) W := by
  have h4' : tmps[4]?.getD undef = .pointer (some ⟨b, 0, none⟩) := by simpa using h4
  have h5' : tmps[5]?.getD undef = .pointer (some ⟨b', 0, none⟩) := by simpa using h5
  have h6' : tmps[6]?.getD undef = .int .i64 k := by simpa using h6
  have x0 := hx.cell 0
  have x1 := hx.cell 1
  have x2 := hx.cell 2
  have y0 := hy.cell 0
  have y1 := hy.cell 1
  simp only [lgC, atC, List.getElem?_cons_zero, List.getElem?_cons_succ] at x0 x1 x2 y0 y1
  simp [results, Try.f20, go_sem, h4', h5', h6', x0, x1, x2, y0, y1]
theorem ends_rappend {W : World} {R : Ending → World → Prop} (tmps : Array Value) (b b' i t : Nat) (A : Option Addr) (n c : Nat) (x y : Nat) (k : Int) (h4 : tmps.getD 4 undef = .pointer (some ⟨b, 0, none⟩)) (h5 : tmps.getD 5 undef = .pointer (some ⟨b', 0, none⟩)) (h6 : tmps.getD 6 undef = .int .i64 k) (hx : Bl W b 27 (lgC i t A n c)) (hy : Bl W b' 24 (atC x y))
    (h : R (.returned (.tuple #[lgV i t A n c, atV x y, .int .i64 k])) W) : bodyPost Try.prog Try.f20 R Exit.ret { tmps := tmps, defers := [] } W := bodyPost_ret (results_rappend tmps W b b' i t A n c x y k h4 h5 h6 hx hy) rfl h
set_option maxRecDepth 100000 in
set_option maxHeartbeats 8000000 in
theorem refAppend_any {w : World} {A : Option Addr} {n c : Nat} {l : List En} (hs : SqE w w.heap.size A n c l) (hn : n ≤ 1000) (heb : ∀ x ∈ l, EnB x) (i t : Nat) (hi : i < 18446744073709551616) (hR : isLogW ⟨i, t, vsE l⟩ = true) {x : En} (hx : EnIn w w.heap.size x) (hxb : EnB x) :
    Calls Try.prog 20 #[lgV i t A n c, enV x] w fun e w' => (∃ v, e = .returned (.tuple #[v, atV (appendW ⟨i, t, vsE l⟩ x.v).2.1.1 (appendW ⟨i, t, vsE l⟩ x.v).2.1.2, .int .i64 (appendW ⟨i, t, vsE l⟩ x.v).2.2]) ∧ LgM w.heap.size w' (appendW ⟨i, t, vsE l⟩ x.v).1 v) ∧ Below w.heap.size w w' := by
  obtain ⟨w1, hw1⟩ : ∃ w1, ((((w.alloc (.cells #[.int .u64 (i : Int), .int .u64 (t : Int), .slice A n c] 27)).alloc (.cells #[.int .u64 (x.t : Int), .int .i64 x.k, .slice x.D.a x.D.n x.D.c] 44)).alloc (.cells #[.int .u64 0, .int .u64 0, .slice none 0 0] 27)).alloc (.cells #[.int .u64 0, .int .u64 0] 24)) = w1 := ⟨_, rfl⟩
  have L0 : Bl w1 (w.heap.size) 27 [.int .u64 (i : Int), .int .u64 (t : Int), .slice A n c] := by
    rw [← hw1]
    have h := Bl.new w 27 [.int .u64 (i : Int), .int .u64 (t : Int), .slice A n c]
    (try simp only [World.size_alloc] at h)
    exact (((h.alloc _).alloc _).alloc _)
  have L1 : Bl w1 (w.heap.size + 1) 44 [.int .u64 (x.t : Int), .int .i64 x.k, .slice x.D.a x.D.n x.D.c] := by
    rw [← hw1]
    have h := Bl.new (w.alloc (.cells #[.int .u64 (i : Int), .int .u64 (t : Int), .slice A n c] 27)) 44 [.int .u64 (x.t : Int), .int .i64 x.k, .slice x.D.a x.D.n x.D.c]
    (try simp only [World.size_alloc] at h)
    exact ((h.alloc _).alloc _)
  have L2 : Bl w1 (w.heap.size + 1 + 1) 27 [.int .u64 0, .int .u64 0, .slice none 0 0] := by
    rw [← hw1]
    have h := Bl.new ((w.alloc (.cells #[.int .u64 (i : Int), .int .u64 (t : Int), .slice A n c] 27)).alloc (.cells #[.int .u64 (x.t : Int), .int .i64 x.k, .slice x.D.a x.D.n x.D.c] 44)) 27 [.int .u64 0, .int .u64 0, .slice none 0 0]
    (try simp only [World.size_alloc] at h)
    exact (h.alloc _)
  have L3 : Bl w1 (w.heap.size + 1 + 1 + 1) 24 [.int .u64 0, .int .u64 0] := by
    rw [← hw1]
    have h := Bl.new (((w.alloc (.cells #[.int .u64 (i : Int), .int .u64 (t : Int), .slice A n c] 27)).alloc (.cells #[.int .u64 (x.t : Int), .int .i64 x.k, .slice x.D.a x.D.n x.D.c] 44)).alloc (.cells #[.int .u64 0, .int .u64 0, .slice none 0 0] 27)) 24 [.int .u64 0, .int .u64 0]
    (try simp only [World.size_alloc] at h)
    exact h
  have B1 : Below w.heap.size w w1 := by
    rw [← hw1]
    exact (((((Below.refl _ _).alloc (by simp <;> omega) _).alloc (by simp <;> omega) _).alloc (by simp <;> omega) _).alloc (by simp <;> omega) _)
  have Z1 : w1.heap.size = w.heap.size + 4 := by rw [← hw1]; simp
  have HW := Lib.hid hw1
  have HB1 := Lib.hid B1
  have hlen := hs.len
  have HL2 := Lib.hid (show Bl w1 (w.heap.size + 1 + 1) 27 (lgC 0 0 none 0 0) from L2)
  have HL3 := Lib.hid (show Bl w1 (w.heap.size + 1 + 1 + 1) 24 (atC 0 0) from L3)
  have KS := Lib.hid (fun (W : World) (hw : Below w1.heap.size w1 W) => (show W.cell? ⟨w.heap.size, 0, none⟩ = some (.int .u64 (i : Int)) ∧ W.cell? ⟨w.heap.size, 1, none⟩ = some (.int .u64 (t : Int)) ∧ W.cell? ⟨w.heap.size, 2, none⟩ = some (.slice A n c) ∧ W.cell? ⟨w.heap.size + 1, 0, none⟩ = some (.int .u64 (x.t : Int)) ∧ W.cell? ⟨w.heap.size + 1, 1, none⟩ = some (.int .i64 x.k) ∧ W.cell? ⟨w.heap.size + 1, 2, none⟩ = some (.slice x.D.a x.D.n x.D.c) from
    ⟨(L0.below hw L0.lt).cell 0, (L0.below hw L0.lt).cell 1, (L0.below hw L0.lt).cell 2, (L1.below hw L1.lt).cell 0, (L1.below hw L1.lt).cell 1, (L1.below hw L1.lt).cell 2⟩))
  have HS := Lib.hid (fun (W : World) (hw : Below w1.heap.size w1 W) => hs.next (Nat.le_refl _) (B1.trans (hw.mono B1.size)))
  have HX := Lib.hid (fun (W : World) (hw : Below w1.heap.size w1 W) => (show EnIn W W.heap.size x from ((hx.below (B1.trans (hw.mono B1.size))).more (B1.trans (hw.mono B1.size)).size)))
  have HR := Lib.hid (fun (W : World) (hw : Below w1.heap.size w1 W) => (show (W.cell? ⟨w.heap.size + 1 + 1, 0, none⟩ = some (.int .u64 ((0 : Nat) : Int)) ∧ W.cell? ⟨w.heap.size + 1 + 1, 1, none⟩ = some (.int .u64 ((0 : Nat) : Int)) ∧ W.cell? ⟨w.heap.size + 1 + 1, 2, none⟩ = some (.slice none 0 0) ∧ W.cell? ⟨w.heap.size + 1 + 1 + 1, 0, none⟩ = some (.int .u64 ((0 : Nat) : Int)) ∧ W.cell? ⟨w.heap.size + 1 + 1 + 1, 1, none⟩ = some (.int .u64 ((0 : Nat) : Int))) ∧ W.frozen? ⟨w.heap.size + 1 + 1, 0, none⟩ = false ∧ W.frozen? ⟨w.heap.size + 1 + 1, 1, none⟩ = false ∧ W.frozen? ⟨w.heap.size + 1 + 1, 2, none⟩ = false ∧ W.frozen? ⟨w.heap.size + 1 + 1 + 1, 0, none⟩ = false ∧ W.frozen? ⟨w.heap.size + 1 + 1 + 1, 1, none⟩ = false from
    ⟨⟨(HL2.out.below hw HL2.out.lt).cell 0, (HL2.out.below hw HL2.out.lt).cell 1, (HL2.out.below hw HL2.out.lt).cell 2, (HL3.out.below hw HL3.out.lt).cell 0, (HL3.out.below hw HL3.out.lt).cell 1⟩, (HL2.out.below hw HL2.out.lt).frozen 0, (HL2.out.below hw HL2.out.lt).frozen 1, (HL2.out.below hw HL2.out.lt).frozen 2, (HL3.out.below hw HL3.out.lt).frozen 0, (HL3.out.below hw HL3.out.lt).frozen 1⟩))
  obtain ⟨hn16, hin⟩ := isLog_sum hR hlen
  have CE := Lib.hid (fun (W : World) (hw : Below w1.heap.size w1 W) => (show Calls Try.prog 52 #[.agg #[.int .u64 (x.t : Int), .int .i64 x.k, .slice x.D.a x.D.n x.D.c]] W _ from refEntry_any (HX.out W hw)))
  have CL := Lib.hid (fun (W : World) (hw : Below w1.heap.size w1 W) => (show Calls Try.prog 23 #[.agg #[.int .u64 (i : Int), .int .u64 (t : Int), .slice A n c]] W _ from refLast_any (HS.out W hw) hn i t (by omega)))
  have CC := Lib.hid (fun (W : World) (hw : Below w1.heap.size w1 W) => (show Calls Try.prog 48 #[.agg #[.int .u64 (i : Int), .int .u64 (t : Int), .slice A n c]] W _ from refCopy_any (HS.out W hw) hn heb i t))
  obtain ⟨r, hr⟩ : ∃ r, appendW ⟨i, t, vsE l⟩ x.v = r := ⟨_, rfl⟩
  rw [hr]
  have HRR := Lib.hid hr
  have HIN := Lib.hid hin
  have HRW := Lib.hid hR
  have HLEN := Lib.hid hlen
  obtain ⟨u, hu⟩ : ∃ u, lastT t (vsE l) = u := ⟨_, rfl⟩
  obtain ⟨s, hsI⟩ : ∃ s, lastI ⟨i, t, vsE l⟩ = s := ⟨_, rfl⟩
  rw [hu, hsI] at CL
  have HU := Lib.hid hu
  have HSI := Lib.hid hsI
  have fld1' := fun (w : World) => fldA0 s u w
  clear hw1 L0 L1 L2 L3 B1 Z1 hs heb hx hR hr hu hsI hin hlen
  have hb1 := Below.refl w1.heap.size w1
  rcases hok : okE x.v with _ | _
  · obtain rfl : r = (zLg, (0, 0), 2) := by rw [← HRR.out]; exact ap2 HRW.out (.inl hok)
    rw [hok] at CE
    clear hok
    go_enter Try.func20, Try.ntmps20
    go_upto_region 1 with fail
    rw [HW.out]
    have K0 := Lib.hid (KS.out _ hb1.drew)
    refine wp_region_noPanic (wp_region_any (by kernel_rfl) (wpAny_of_bk (S := (fun W => W.cell? ⟨w.heap.size, 0, none⟩ = some (.int .u64 (i : Int)) ∧ W.cell? ⟨w.heap.size, 1, none⟩ = some (.int .u64 (t : Int)) ∧ W.cell? ⟨w.heap.size, 2, none⟩ = some (.slice A n c) ∧ W.cell? ⟨w.heap.size + 1, 0, none⟩ = some (.int .u64 (x.t : Int)) ∧ W.cell? ⟨w.heap.size + 1, 1, none⟩ = some (.int .i64 x.k) ∧ W.cell? ⟨w.heap.size + 1, 2, none⟩ = some (.slice x.D.a x.D.n x.D.c))) (m := 11) _ _ _ _ ?_))
    show wpBk _ _ _ _ _ _ 11 _ _ _
    refine wpBk_take (i := 0) rfl (by kernel_rfl) (fun _ _ _ _ h => h) (.inl ⟨rfl, fun w' hw' => (by obtain ⟨a0, a1, a2, a3, a4, a5⟩ := hw'; go_simp; rfl)⟩) K0.out ?_
    simp only [List.getElem_toArray, List.getElem_cons_zero, List.getElem_cons_succ, Act.put, List.setIfInBounds_toArray, List.set_cons_succ, List.set_cons_zero]
    refine wpBk_one (i := 1) rfl (by rfl) (by kernel_rfl) (fun K hK => ?_)
    refine wp_fn (f := 52) (xs := #[.agg #[.int .u64 (x.t : Int), .int .i64 x.k, .slice x.D.a x.D.n x.D.c]]) (by first | (go_simp; done) | (go_simp; rfl)) (Calls.mono (CE.out _ hb1.drew) ?_)
    rintro e w2 ⟨rfl, h2⟩
    have hb2 : Below w1.heap.size w1 w2 := hb1.drew.trans (h2.mono hb1.drew.size)
    have K1 := Lib.hid (KS.out _ hb2)
    clear h2
    refine ⟨_, rfl, hK _ _ ⟨fun _ _ => K1.out, ?_⟩⟩
    simp only [List.getElem_toArray, List.getElem_cons_zero, List.getElem_cons_succ, Act.put, List.setIfInBounds_toArray, List.set_cons_succ, List.set_cons_zero]
    refine wpBk_takeP (i := 2) rfl (by kernel_rfl) (fun _ _ _ _ h => h) (.inl ⟨rfl, fun w' _ => (by go_simp; rfl)⟩) ?_
    simp only [List.getElem_toArray, List.getElem_cons_zero, List.getElem_cons_succ, Act.put, List.setIfInBounds_toArray, List.set_cons_succ, List.set_cons_zero]
    refine wpBk_takeP (i := 3) rfl (by kernel_rfl) (fun _ _ _ _ h => h) (.inl ⟨rfl, fun w' _ => (by go_simp; rfl)⟩) ?_
    simp only [List.getElem_toArray, List.getElem_cons_zero, List.getElem_cons_succ, Act.put, List.setIfInBounds_toArray, List.set_cons_succ, List.set_cons_zero]
    refine wpBk_takeP (i := 4) rfl (by kernel_rfl) (fun _ _ _ _ h => h) (.inr ⟨by rfl, rfl⟩) ?_
    simp only [List.getElem_toArray, List.getElem_cons_zero, List.getElem_cons_succ, Act.put, List.setIfInBounds_toArray, List.set_cons_succ, List.set_cons_zero]
    refine wpBk_takeP (i := 5) rfl (by kernel_rfl) (fun _ _ _ _ h => h) (.inr ⟨by rfl, rfl⟩) ?_
    simp only [List.getElem_toArray, List.getElem_cons_zero, List.getElem_cons_succ, Act.put, List.setIfInBounds_toArray, List.set_cons_succ, List.set_cons_zero]
    refine wpBk_takeP (i := 6) rfl (by kernel_rfl) (fun _ _ _ _ h => h) (.inr ⟨by rfl, rfl⟩) ?_
    simp only [List.getElem_toArray, List.getElem_cons_zero, List.getElem_cons_succ, Act.put, List.setIfInBounds_toArray, List.set_cons_succ, List.set_cons_zero]
    refine wpBk_takeP (i := 7) rfl (by kernel_rfl) (fun _ _ _ _ h => h) (.inr ⟨by rfl, rfl⟩) ?_
    simp only [List.getElem_toArray, List.getElem_cons_zero, List.getElem_cons_succ, Act.put, List.setIfInBounds_toArray, List.set_cons_succ, List.set_cons_zero]
    refine wpBk_takeP (i := 8) rfl (by kernel_rfl) (fun _ _ _ _ h => h) (.inr ⟨by rfl, rfl⟩) ?_
    simp only [List.getElem_toArray, List.getElem_cons_zero, List.getElem_cons_succ, Act.put, List.setIfInBounds_toArray, List.set_cons_succ, List.set_cons_zero]
    refine wpBk_takeP (i := 9) rfl (by kernel_rfl) (fun _ _ _ _ h => h) (.inr ⟨by rfl, rfl⟩) ?_
    simp only [List.getElem_toArray, List.getElem_cons_zero, List.getElem_cons_succ, Act.put, List.setIfInBounds_toArray, List.set_cons_succ, List.set_cons_zero]
    refine wpBk_takeP (i := 10) rfl (by kernel_rfl) (fun _ _ _ _ h => h) (.inl ⟨rfl, fun w' _ => (by go_simp; rfl)⟩) ?_
    simp only [List.getElem_toArray, List.getElem_cons_zero, List.getElem_cons_succ, Act.put, List.setIfInBounds_toArray, List.set_cons_succ, List.set_cons_zero]
    refine ⟨by kernel_rfl, ?_⟩
    refine NoPanic.normal ?_
    obtain ⟨⟨r0, r1, r2, r3, r4⟩, f0, f1, f2, f3, f4⟩ := HR.out _ hb2
    go_wp2_with fail
    obtain ⟨R1, R2, R3⟩ := res5 (HL2.out.below hb2 HL2.out.lt) (HL3.out.below hb2 HL3.out.lt) (HB1.out.trans (Below.mono hb2 HB1.out.size)) (show w.heap.size ≤ w.heap.size + 1 + 1 by omega) (show w.heap.size ≤ w.heap.size + 1 + 1 + 1 by omega) 0 0 none 0 0 0 0
    exact ends_rappend _ _ _ 0 0 none 0 0 0 0 2 rfl rfl rfl R1 R2 ⟨⟨_, rfl, LgM.zero _ _⟩, R3⟩
  obtain ⟨uu, huu⟩ : ∃ uu, decide (x.t < u) = uu := ⟨_, rfl⟩
  rw [hok] at CE
  have hgu : decide ((x.t : Int) < (u : Int)) = uu := by rw [← huu]; by_cases h : x.t < u <;> simp [h] <;> omega
  rcases uu with _ | _
  rotate_left
  · obtain rfl : r = (zLg, (0, 0), 2) := by rw [← HRR.out]; exact ap2 HRW.out (.inr (by rw [HU.out]; show x.t < u; simpa using huu))
    clear hok
    go_enter Try.func20, Try.ntmps20
    go_upto_region 1 with fail
    rw [HW.out]
    have K0 := Lib.hid (KS.out _ hb1.drew)
    refine wp_region_noPanic (wp_region_any (by kernel_rfl) (wpAny_of_bk (S := (fun W => W.cell? ⟨w.heap.size, 0, none⟩ = some (.int .u64 (i : Int)) ∧ W.cell? ⟨w.heap.size, 1, none⟩ = some (.int .u64 (t : Int)) ∧ W.cell? ⟨w.heap.size, 2, none⟩ = some (.slice A n c) ∧ W.cell? ⟨w.heap.size + 1, 0, none⟩ = some (.int .u64 (x.t : Int)) ∧ W.cell? ⟨w.heap.size + 1, 1, none⟩ = some (.int .i64 x.k) ∧ W.cell? ⟨w.heap.size + 1, 2, none⟩ = some (.slice x.D.a x.D.n x.D.c))) (m := 11) _ _ _ _ ?_))
    show wpBk _ _ _ _ _ _ 11 _ _ _
    refine wpBk_take (i := 0) rfl (by kernel_rfl) (fun _ _ _ _ h => h) (.inl ⟨rfl, fun w' hw' => (by obtain ⟨a0, a1, a2, a3, a4, a5⟩ := hw'; go_simp; rfl)⟩) K0.out ?_
    simp only [List.getElem_toArray, List.getElem_cons_zero, List.getElem_cons_succ, Act.put, List.setIfInBounds_toArray, List.set_cons_succ, List.set_cons_zero]
    refine wpBk_one (i := 1) rfl (by rfl) (by kernel_rfl) (fun K hK => ?_)
    refine wp_fn (f := 52) (xs := #[.agg #[.int .u64 (x.t : Int), .int .i64 x.k, .slice x.D.a x.D.n x.D.c]]) (by first | (go_simp; done) | (go_simp; rfl)) (Calls.mono (CE.out _ hb1.drew) ?_)
    rintro e w2 ⟨rfl, h2⟩
    have hb2 : Below w1.heap.size w1 w2 := hb1.drew.trans (h2.mono hb1.drew.size)
    have K1 := Lib.hid (KS.out _ hb2)
    clear h2
    refine ⟨_, rfl, hK _ _ ⟨fun _ _ => K1.out, ?_⟩⟩
    simp only [List.getElem_toArray, List.getElem_cons_zero, List.getElem_cons_succ, Act.put, List.setIfInBounds_toArray, List.set_cons_succ, List.set_cons_zero]
    refine wpBk_takeP (i := 2) rfl (by kernel_rfl) (fun _ _ _ _ h => h) (.inl ⟨rfl, fun w' _ => (by go_simp; rfl)⟩) ?_
    simp only [List.getElem_toArray, List.getElem_cons_zero, List.getElem_cons_succ, Act.put, List.setIfInBounds_toArray, List.set_cons_succ, List.set_cons_zero]
    refine wpBk_takeP (i := 3) rfl (by kernel_rfl) (fun _ _ _ _ h => h) (.inl ⟨rfl, fun w' _ => (by go_simp; rfl)⟩) ?_
    simp only [List.getElem_toArray, List.getElem_cons_zero, List.getElem_cons_succ, Act.put, List.setIfInBounds_toArray, List.set_cons_succ, List.set_cons_zero]
    refine wpBk_takeP (i := 4) rfl (by kernel_rfl) (fun _ _ _ _ h => h) (.inl ⟨rfl, fun w' _ => (by go_simp; rfl)⟩) ?_
    simp only [List.getElem_toArray, List.getElem_cons_zero, List.getElem_cons_succ, Act.put, List.setIfInBounds_toArray, List.set_cons_succ, List.set_cons_zero]
    refine wpBk_take (i := 5) rfl (by kernel_rfl) (fun _ _ _ _ h => h) (.inl ⟨rfl, fun w' hw' => (by obtain ⟨a0, a1, a2, a3, a4, a5⟩ := hw'; go_simp; rfl)⟩) K1.out ?_
    simp only [List.getElem_toArray, List.getElem_cons_zero, List.getElem_cons_succ, Act.put, List.setIfInBounds_toArray, List.set_cons_succ, List.set_cons_zero]
    refine wpBk_take (i := 6) rfl (by kernel_rfl) (fun _ _ _ _ h => h) (.inl ⟨rfl, fun w' hw' => (by obtain ⟨a0, a1, a2, a3, a4, a5⟩ := hw'; go_simp; rfl)⟩) K1.out ?_
    simp only [List.getElem_toArray, List.getElem_cons_zero, List.getElem_cons_succ, Act.put, List.setIfInBounds_toArray, List.set_cons_succ, List.set_cons_zero]
    refine wpBk_one (i := 7) rfl (by rfl) (by kernel_rfl) (fun K hK => ?_)
    refine wp_fn (f := 23) (xs := #[.agg #[.int .u64 (i : Int), .int .u64 (t : Int), .slice A n c]]) (by first | (go_simp; done) | (go_simp; rfl)) (Calls.mono (CL.out _ hb2) ?_)
    rintro e w3 ⟨rfl, h3⟩
    have hb3 : Below w1.heap.size w1 w3 := hb2.trans (h3.mono hb2.size)
    have K2 := Lib.hid (KS.out _ hb3)
    clear h3
    refine ⟨_, rfl, hK _ _ ⟨fun _ _ => K2.out, ?_⟩⟩
    simp only [List.getElem_toArray, List.getElem_cons_zero, List.getElem_cons_succ, Act.put, List.setIfInBounds_toArray, List.set_cons_succ, List.set_cons_zero]
    refine wpBk_takeP (i := 8) rfl (by kernel_rfl) (fun _ _ _ _ h => h) (.inl ⟨rfl, fun w' _ => (by go_simp; rfl)⟩) ?_
    simp only [List.getElem_toArray, List.getElem_cons_zero, List.getElem_cons_succ, Act.put, List.setIfInBounds_toArray, List.set_cons_succ, List.set_cons_zero]
    refine wpBk_takeP (i := 9) rfl (by kernel_rfl) (fun _ _ _ _ h => h) (.inl ⟨rfl, fun w' _ => (by go_simp; rfl)⟩) ?_
    simp only [List.getElem_toArray, List.getElem_cons_zero, List.getElem_cons_succ, Act.put, List.setIfInBounds_toArray, List.set_cons_succ, List.set_cons_zero]
    refine wpBk_takeP (i := 10) rfl (by kernel_rfl) (fun _ _ _ _ h => h) (.inl ⟨rfl, fun w' _ => (by go_simp; rfl)⟩) ?_
    simp only [List.getElem_toArray, List.getElem_cons_zero, List.getElem_cons_succ, Act.put, List.setIfInBounds_toArray, List.set_cons_succ, List.set_cons_zero]
    refine ⟨by kernel_rfl, ?_⟩
    refine NoPanic.normal ?_
    obtain ⟨⟨r0, r1, r2, r3, r4⟩, f0, f1, f2, f3, f4⟩ := HR.out _ hb3
    go_wp2_with fail
    obtain ⟨R1, R2, R3⟩ := res5 (HL2.out.below hb3 HL2.out.lt) (HL3.out.below hb3 HL3.out.lt) (HB1.out.trans (Below.mono hb3 HB1.out.size)) (show w.heap.size ≤ w.heap.size + 1 + 1 by omega) (show w.heap.size ≤ w.heap.size + 1 + 1 + 1 by omega) 0 0 none 0 0 0 0
    exact ends_rappend _ _ _ 0 0 none 0 0 0 0 2 rfl rfl rfl R1 R2 ⟨⟨_, rfl, LgM.zero _ _⟩, R3⟩
  have HN2 := Lib.hid (show ¬ (okE x.v = false ∨ x.v.t < lastT t (vsE l)) by rw [hok, HU.out]; show ¬ (true = false ∨ x.t < u); simp at huu; simp; omega)
  have n16 : ((n : Int) == 16) = decide (n = 16) := by by_cases h : n = 16 <;> simp [h] <;> omega
  have s64 : ((s : Int) == 18446744073709551614) = decide (s = 18446744073709551614) := by by_cases h : s = 18446744073709551614 <;> simp [h] <;> omega
  clear hok
  by_cases h16 : n = 16
  · have d16 : decide (n = 16) = true := by simpa using h16
    obtain rfl : r = (zLg, (0, 0), 6) := by rw [← HRR.out]; exact ap3 HRW.out HN2.out (.inl (by show (vsE l).length = 16; rw [vsE_len, HLEN.out]; exact h16))
    rw [d16] at n16
    clear h16 s64
    go_enter Try.func20, Try.ntmps20
    go_upto_region 1 with fail
    rw [HW.out]
    have K0 := Lib.hid (KS.out _ hb1.drew)
    refine wp_region_noPanic (wp_region_any (by kernel_rfl) (wpAny_of_bk (S := (fun W => W.cell? ⟨w.heap.size, 0, none⟩ = some (.int .u64 (i : Int)) ∧ W.cell? ⟨w.heap.size, 1, none⟩ = some (.int .u64 (t : Int)) ∧ W.cell? ⟨w.heap.size, 2, none⟩ = some (.slice A n c) ∧ W.cell? ⟨w.heap.size + 1, 0, none⟩ = some (.int .u64 (x.t : Int)) ∧ W.cell? ⟨w.heap.size + 1, 1, none⟩ = some (.int .i64 x.k) ∧ W.cell? ⟨w.heap.size + 1, 2, none⟩ = some (.slice x.D.a x.D.n x.D.c))) (m := 11) _ _ _ _ ?_))
    show wpBk _ _ _ _ _ _ 11 _ _ _
    refine wpBk_take (i := 0) rfl (by kernel_rfl) (fun _ _ _ _ h => h) (.inl ⟨rfl, fun w' hw' => (by obtain ⟨a0, a1, a2, a3, a4, a5⟩ := hw'; go_simp; rfl)⟩) K0.out ?_
    simp only [List.getElem_toArray, List.getElem_cons_zero, List.getElem_cons_succ, Act.put, List.setIfInBounds_toArray, List.set_cons_succ, List.set_cons_zero]
    refine wpBk_one (i := 1) rfl (by rfl) (by kernel_rfl) (fun K hK => ?_)
    refine wp_fn (f := 52) (xs := #[.agg #[.int .u64 (x.t : Int), .int .i64 x.k, .slice x.D.a x.D.n x.D.c]]) (by first | (go_simp; done) | (go_simp; rfl)) (Calls.mono (CE.out _ hb1.drew) ?_)
    rintro e w2 ⟨rfl, h2⟩
    have hb2 : Below w1.heap.size w1 w2 := hb1.drew.trans (h2.mono hb1.drew.size)
    have K1 := Lib.hid (KS.out _ hb2)
    clear h2
    refine ⟨_, rfl, hK _ _ ⟨fun _ _ => K1.out, ?_⟩⟩
    simp only [List.getElem_toArray, List.getElem_cons_zero, List.getElem_cons_succ, Act.put, List.setIfInBounds_toArray, List.set_cons_succ, List.set_cons_zero]
    refine wpBk_takeP (i := 2) rfl (by kernel_rfl) (fun _ _ _ _ h => h) (.inl ⟨rfl, fun w' _ => (by go_simp; rfl)⟩) ?_
    simp only [List.getElem_toArray, List.getElem_cons_zero, List.getElem_cons_succ, Act.put, List.setIfInBounds_toArray, List.set_cons_succ, List.set_cons_zero]
    refine wpBk_takeP (i := 3) rfl (by kernel_rfl) (fun _ _ _ _ h => h) (.inl ⟨rfl, fun w' _ => (by go_simp; rfl)⟩) ?_
    simp only [List.getElem_toArray, List.getElem_cons_zero, List.getElem_cons_succ, Act.put, List.setIfInBounds_toArray, List.set_cons_succ, List.set_cons_zero]
    refine wpBk_takeP (i := 4) rfl (by kernel_rfl) (fun _ _ _ _ h => h) (.inl ⟨rfl, fun w' _ => (by go_simp; rfl)⟩) ?_
    simp only [List.getElem_toArray, List.getElem_cons_zero, List.getElem_cons_succ, Act.put, List.setIfInBounds_toArray, List.set_cons_succ, List.set_cons_zero]
    refine wpBk_take (i := 5) rfl (by kernel_rfl) (fun _ _ _ _ h => h) (.inl ⟨rfl, fun w' hw' => (by obtain ⟨a0, a1, a2, a3, a4, a5⟩ := hw'; go_simp; rfl)⟩) K1.out ?_
    simp only [List.getElem_toArray, List.getElem_cons_zero, List.getElem_cons_succ, Act.put, List.setIfInBounds_toArray, List.set_cons_succ, List.set_cons_zero]
    refine wpBk_take (i := 6) rfl (by kernel_rfl) (fun _ _ _ _ h => h) (.inl ⟨rfl, fun w' hw' => (by obtain ⟨a0, a1, a2, a3, a4, a5⟩ := hw'; go_simp; rfl)⟩) K1.out ?_
    simp only [List.getElem_toArray, List.getElem_cons_zero, List.getElem_cons_succ, Act.put, List.setIfInBounds_toArray, List.set_cons_succ, List.set_cons_zero]
    refine wpBk_one (i := 7) rfl (by rfl) (by kernel_rfl) (fun K hK => ?_)
    refine wp_fn (f := 23) (xs := #[.agg #[.int .u64 (i : Int), .int .u64 (t : Int), .slice A n c]]) (by first | (go_simp; done) | (go_simp; rfl)) (Calls.mono (CL.out _ hb2) ?_)
    rintro e w3 ⟨rfl, h3⟩
    have hb3 : Below w1.heap.size w1 w3 := hb2.trans (h3.mono hb2.size)
    have K2 := Lib.hid (KS.out _ hb3)
    clear h3
    refine ⟨_, rfl, hK _ _ ⟨fun _ _ => K2.out, ?_⟩⟩
    simp only [List.getElem_toArray, List.getElem_cons_zero, List.getElem_cons_succ, Act.put, List.setIfInBounds_toArray, List.set_cons_succ, List.set_cons_zero]
    refine wpBk_takeP (i := 8) rfl (by kernel_rfl) (fun _ _ _ _ h => h) (.inl ⟨rfl, fun w' _ => (by go_simp; rfl)⟩) ?_
    simp only [List.getElem_toArray, List.getElem_cons_zero, List.getElem_cons_succ, Act.put, List.setIfInBounds_toArray, List.set_cons_succ, List.set_cons_zero]
    refine wpBk_takeP (i := 9) rfl (by kernel_rfl) (fun _ _ _ _ h => h) (.inl ⟨rfl, fun w' _ => (by go_simp; rfl)⟩) ?_
    simp only [List.getElem_toArray, List.getElem_cons_zero, List.getElem_cons_succ, Act.put, List.setIfInBounds_toArray, List.set_cons_succ, List.set_cons_zero]
    refine wpBk_takeP (i := 10) rfl (by kernel_rfl) (fun _ _ _ _ h => h) (.inl ⟨rfl, fun w' _ => (by go_simp; rfl)⟩) ?_
    simp only [List.getElem_toArray, List.getElem_cons_zero, List.getElem_cons_succ, Act.put, List.setIfInBounds_toArray, List.set_cons_succ, List.set_cons_zero]
    refine ⟨by kernel_rfl, ?_⟩
    refine NoPanic.normal ?_
    obtain ⟨a0, a1, a2, a3, a4, a5⟩ := KS.out _ hb3
    obtain ⟨⟨r0, r1, r2, r3, r4⟩, f0, f1, f2, f3, f4⟩ := HR.out _ hb3
    go_wp2_with fail
    obtain ⟨R1, R2, R3⟩ := res5 (HL2.out.below hb3 HL2.out.lt) (HL3.out.below hb3 HL3.out.lt) (HB1.out.trans (Below.mono hb3 HB1.out.size)) (show w.heap.size ≤ w.heap.size + 1 + 1 by omega) (show w.heap.size ≤ w.heap.size + 1 + 1 + 1 by omega) 0 0 none 0 0 0 0
    exact ends_rappend _ _ _ 0 0 none 0 0 0 0 6 rfl rfl rfl R1 R2 ⟨⟨_, rfl, LgM.zero _ _⟩, R3⟩
  have d16 : decide (n = 16) = false := by simpa using h16
  rw [d16] at n16
  by_cases htop : s = 18446744073709551614
  · have dtop : decide (s = 18446744073709551614) = true := by simpa using htop
    obtain rfl : r = (zLg, (0, 0), 6) := by rw [← HRR.out]; exact ap3 HRW.out HN2.out (.inr (by rw [HSI.out]; exact htop))
    rw [dtop] at s64
    clear h16 htop
    go_enter Try.func20, Try.ntmps20
    go_upto_region 1 with fail
    rw [HW.out]
    have K0 := Lib.hid (KS.out _ hb1.drew)
    refine wp_region_noPanic (wp_region_any (by kernel_rfl) (wpAny_of_bk (S := (fun W => W.cell? ⟨w.heap.size, 0, none⟩ = some (.int .u64 (i : Int)) ∧ W.cell? ⟨w.heap.size, 1, none⟩ = some (.int .u64 (t : Int)) ∧ W.cell? ⟨w.heap.size, 2, none⟩ = some (.slice A n c) ∧ W.cell? ⟨w.heap.size + 1, 0, none⟩ = some (.int .u64 (x.t : Int)) ∧ W.cell? ⟨w.heap.size + 1, 1, none⟩ = some (.int .i64 x.k) ∧ W.cell? ⟨w.heap.size + 1, 2, none⟩ = some (.slice x.D.a x.D.n x.D.c))) (m := 11) _ _ _ _ ?_))
    show wpBk _ _ _ _ _ _ 11 _ _ _
    refine wpBk_take (i := 0) rfl (by kernel_rfl) (fun _ _ _ _ h => h) (.inl ⟨rfl, fun w' hw' => (by obtain ⟨a0, a1, a2, a3, a4, a5⟩ := hw'; go_simp; rfl)⟩) K0.out ?_
    simp only [List.getElem_toArray, List.getElem_cons_zero, List.getElem_cons_succ, Act.put, List.setIfInBounds_toArray, List.set_cons_succ, List.set_cons_zero]
    refine wpBk_one (i := 1) rfl (by rfl) (by kernel_rfl) (fun K hK => ?_)
    refine wp_fn (f := 52) (xs := #[.agg #[.int .u64 (x.t : Int), .int .i64 x.k, .slice x.D.a x.D.n x.D.c]]) (by first | (go_simp; done) | (go_simp; rfl)) (Calls.mono (CE.out _ hb1.drew) ?_)
    rintro e w2 ⟨rfl, h2⟩
    have hb2 : Below w1.heap.size w1 w2 := hb1.drew.trans (h2.mono hb1.drew.size)
    have K1 := Lib.hid (KS.out _ hb2)
    clear h2
    refine ⟨_, rfl, hK _ _ ⟨fun _ _ => K1.out, ?_⟩⟩
    simp only [List.getElem_toArray, List.getElem_cons_zero, List.getElem_cons_succ, Act.put, List.setIfInBounds_toArray, List.set_cons_succ, List.set_cons_zero]
    refine wpBk_takeP (i := 2) rfl (by kernel_rfl) (fun _ _ _ _ h => h) (.inl ⟨rfl, fun w' _ => (by go_simp; rfl)⟩) ?_
    simp only [List.getElem_toArray, List.getElem_cons_zero, List.getElem_cons_succ, Act.put, List.setIfInBounds_toArray, List.set_cons_succ, List.set_cons_zero]
    refine wpBk_takeP (i := 3) rfl (by kernel_rfl) (fun _ _ _ _ h => h) (.inl ⟨rfl, fun w' _ => (by go_simp; rfl)⟩) ?_
    simp only [List.getElem_toArray, List.getElem_cons_zero, List.getElem_cons_succ, Act.put, List.setIfInBounds_toArray, List.set_cons_succ, List.set_cons_zero]
    refine wpBk_takeP (i := 4) rfl (by kernel_rfl) (fun _ _ _ _ h => h) (.inl ⟨rfl, fun w' _ => (by go_simp; rfl)⟩) ?_
    simp only [List.getElem_toArray, List.getElem_cons_zero, List.getElem_cons_succ, Act.put, List.setIfInBounds_toArray, List.set_cons_succ, List.set_cons_zero]
    refine wpBk_take (i := 5) rfl (by kernel_rfl) (fun _ _ _ _ h => h) (.inl ⟨rfl, fun w' hw' => (by obtain ⟨a0, a1, a2, a3, a4, a5⟩ := hw'; go_simp; rfl)⟩) K1.out ?_
    simp only [List.getElem_toArray, List.getElem_cons_zero, List.getElem_cons_succ, Act.put, List.setIfInBounds_toArray, List.set_cons_succ, List.set_cons_zero]
    refine wpBk_take (i := 6) rfl (by kernel_rfl) (fun _ _ _ _ h => h) (.inl ⟨rfl, fun w' hw' => (by obtain ⟨a0, a1, a2, a3, a4, a5⟩ := hw'; go_simp; rfl)⟩) K1.out ?_
    simp only [List.getElem_toArray, List.getElem_cons_zero, List.getElem_cons_succ, Act.put, List.setIfInBounds_toArray, List.set_cons_succ, List.set_cons_zero]
    refine wpBk_one (i := 7) rfl (by rfl) (by kernel_rfl) (fun K hK => ?_)
    refine wp_fn (f := 23) (xs := #[.agg #[.int .u64 (i : Int), .int .u64 (t : Int), .slice A n c]]) (by first | (go_simp; done) | (go_simp; rfl)) (Calls.mono (CL.out _ hb2) ?_)
    rintro e w3 ⟨rfl, h3⟩
    have hb3 : Below w1.heap.size w1 w3 := hb2.trans (h3.mono hb2.size)
    have K2 := Lib.hid (KS.out _ hb3)
    clear h3
    refine ⟨_, rfl, hK _ _ ⟨fun _ _ => K2.out, ?_⟩⟩
    simp only [List.getElem_toArray, List.getElem_cons_zero, List.getElem_cons_succ, Act.put, List.setIfInBounds_toArray, List.set_cons_succ, List.set_cons_zero]
    refine wpBk_takeP (i := 8) rfl (by kernel_rfl) (fun _ _ _ _ h => h) (.inl ⟨rfl, fun w' _ => (by go_simp; rfl)⟩) ?_
    simp only [List.getElem_toArray, List.getElem_cons_zero, List.getElem_cons_succ, Act.put, List.setIfInBounds_toArray, List.set_cons_succ, List.set_cons_zero]
    refine wpBk_takeP (i := 9) rfl (by kernel_rfl) (fun _ _ _ _ h => h) (.inl ⟨rfl, fun w' _ => (by go_simp; rfl)⟩) ?_
    simp only [List.getElem_toArray, List.getElem_cons_zero, List.getElem_cons_succ, Act.put, List.setIfInBounds_toArray, List.set_cons_succ, List.set_cons_zero]
    refine wpBk_takeP (i := 10) rfl (by kernel_rfl) (fun _ _ _ _ h => h) (.inl ⟨rfl, fun w' _ => (by go_simp; rfl)⟩) ?_
    simp only [List.getElem_toArray, List.getElem_cons_zero, List.getElem_cons_succ, Act.put, List.setIfInBounds_toArray, List.set_cons_succ, List.set_cons_zero]
    refine ⟨by kernel_rfl, ?_⟩
    refine NoPanic.normal ?_
    obtain ⟨a0, a1, a2, a3, a4, a5⟩ := KS.out _ hb3
    go_upto_region 4 with (first
      | (go_at_call 23; go_loud (with_reducible refine Calls.mono (CL.out _ hb3) ?_); go_loud (rintro e w4 ⟨rfl, h4⟩); go_loud (have hb4 : Below w1.heap.size w1 w4 := hb3.trans (h4.mono hb3.size)); go_loud (clear h4); go_loud (clear a0 a1 a2 a3 a4 a5); go_loud (obtain ⟨a0, a1, a2, a3, a4, a5⟩ := KS.out _ hb4))
      | fail)
    obtain ⟨⟨r0, r1, r2, r3, r4⟩, f0, f1, f2, f3, f4⟩ := HR.out _ hb4
    go_wp2_with fail
    obtain ⟨R1, R2, R3⟩ := res5 (HL2.out.below hb4 HL2.out.lt) (HL3.out.below hb4 HL3.out.lt) (HB1.out.trans (Below.mono hb4 HB1.out.size)) (show w.heap.size ≤ w.heap.size + 1 + 1 by omega) (show w.heap.size ≤ w.heap.size + 1 + 1 + 1 by omega) 0 0 none 0 0 0 0
    exact ends_rappend _ _ _ 0 0 none 0 0 0 0 6 rfl rfl rfl R1 R2 ⟨⟨_, rfl, LgM.zero _ _⟩, R3⟩
  have dtop : decide (s = 18446744073709551614) = false := by simpa using htop
  rw [dtop] at s64
  obtain rfl : r = (⟨i, t, vsE l ++ [x.v]⟩, (s + 1, x.t), 0) := by
    rw [← HRR.out, ap4 HRW.out HN2.out (by rw [HSI.out]; show ¬ ((vsE l).length = 16 ∨ s = topI); rw [vsE_len, HLEN.out]; unfold topI; omega), HSI.out]
    rfl
  clear h16
  go_enter Try.func20, Try.ntmps20
  go_upto_region 1 with fail
  rw [HW.out]
  have K0 := Lib.hid (KS.out _ hb1.drew)
  refine wp_region_noPanic (wp_region_any (by kernel_rfl) (wpAny_of_bk (S := (fun W => W.cell? ⟨w.heap.size, 0, none⟩ = some (.int .u64 (i : Int)) ∧ W.cell? ⟨w.heap.size, 1, none⟩ = some (.int .u64 (t : Int)) ∧ W.cell? ⟨w.heap.size, 2, none⟩ = some (.slice A n c) ∧ W.cell? ⟨w.heap.size + 1, 0, none⟩ = some (.int .u64 (x.t : Int)) ∧ W.cell? ⟨w.heap.size + 1, 1, none⟩ = some (.int .i64 x.k) ∧ W.cell? ⟨w.heap.size + 1, 2, none⟩ = some (.slice x.D.a x.D.n x.D.c))) (m := 11) _ _ _ _ ?_))
  show wpBk _ _ _ _ _ _ 11 _ _ _
  refine wpBk_take (i := 0) rfl (by kernel_rfl) (fun _ _ _ _ h => h) (.inl ⟨rfl, fun w' hw' => (by obtain ⟨a0, a1, a2, a3, a4, a5⟩ := hw'; go_simp; rfl)⟩) K0.out ?_
  simp only [List.getElem_toArray, List.getElem_cons_zero, List.getElem_cons_succ, Act.put, List.setIfInBounds_toArray, List.set_cons_succ, List.set_cons_zero]
  refine wpBk_one (i := 1) rfl (by rfl) (by kernel_rfl) (fun K hK => ?_)
  refine wp_fn (f := 52) (xs := #[.agg #[.int .u64 (x.t : Int), .int .i64 x.k, .slice x.D.a x.D.n x.D.c]]) (by first | (go_simp; done) | (go_simp; rfl)) (Calls.mono (CE.out _ hb1.drew) ?_)
  rintro e w2 ⟨rfl, h2⟩
  have hb2 : Below w1.heap.size w1 w2 := hb1.drew.trans (h2.mono hb1.drew.size)
  have K1 := Lib.hid (KS.out _ hb2)
  clear h2
  refine ⟨_, rfl, hK _ _ ⟨fun _ _ => K1.out, ?_⟩⟩
  simp only [List.getElem_toArray, List.getElem_cons_zero, List.getElem_cons_succ, Act.put, List.setIfInBounds_toArray, List.set_cons_succ, List.set_cons_zero]
  refine wpBk_takeP (i := 2) rfl (by kernel_rfl) (fun _ _ _ _ h => h) (.inl ⟨rfl, fun w' _ => (by go_simp; rfl)⟩) ?_
  simp only [List.getElem_toArray, List.getElem_cons_zero, List.getElem_cons_succ, Act.put, List.setIfInBounds_toArray, List.set_cons_succ, List.set_cons_zero]
  refine wpBk_takeP (i := 3) rfl (by kernel_rfl) (fun _ _ _ _ h => h) (.inl ⟨rfl, fun w' _ => (by go_simp; rfl)⟩) ?_
  simp only [List.getElem_toArray, List.getElem_cons_zero, List.getElem_cons_succ, Act.put, List.setIfInBounds_toArray, List.set_cons_succ, List.set_cons_zero]
  refine wpBk_takeP (i := 4) rfl (by kernel_rfl) (fun _ _ _ _ h => h) (.inl ⟨rfl, fun w' _ => (by go_simp; rfl)⟩) ?_
  simp only [List.getElem_toArray, List.getElem_cons_zero, List.getElem_cons_succ, Act.put, List.setIfInBounds_toArray, List.set_cons_succ, List.set_cons_zero]
  refine wpBk_take (i := 5) rfl (by kernel_rfl) (fun _ _ _ _ h => h) (.inl ⟨rfl, fun w' hw' => (by obtain ⟨a0, a1, a2, a3, a4, a5⟩ := hw'; go_simp; rfl)⟩) K1.out ?_
  simp only [List.getElem_toArray, List.getElem_cons_zero, List.getElem_cons_succ, Act.put, List.setIfInBounds_toArray, List.set_cons_succ, List.set_cons_zero]
  refine wpBk_take (i := 6) rfl (by kernel_rfl) (fun _ _ _ _ h => h) (.inl ⟨rfl, fun w' hw' => (by obtain ⟨a0, a1, a2, a3, a4, a5⟩ := hw'; go_simp; rfl)⟩) K1.out ?_
  simp only [List.getElem_toArray, List.getElem_cons_zero, List.getElem_cons_succ, Act.put, List.setIfInBounds_toArray, List.set_cons_succ, List.set_cons_zero]
  refine wpBk_one (i := 7) rfl (by rfl) (by kernel_rfl) (fun K hK => ?_)
  refine wp_fn (f := 23) (xs := #[.agg #[.int .u64 (i : Int), .int .u64 (t : Int), .slice A n c]]) (by first | (go_simp; done) | (go_simp; rfl)) (Calls.mono (CL.out _ hb2) ?_)
  rintro e w3 ⟨rfl, h3⟩
  have hb3 : Below w1.heap.size w1 w3 := hb2.trans (h3.mono hb2.size)
  have K2 := Lib.hid (KS.out _ hb3)
  clear h3
  refine ⟨_, rfl, hK _ _ ⟨fun _ _ => K2.out, ?_⟩⟩
  simp only [List.getElem_toArray, List.getElem_cons_zero, List.getElem_cons_succ, Act.put, List.setIfInBounds_toArray, List.set_cons_succ, List.set_cons_zero]
  refine wpBk_takeP (i := 8) rfl (by kernel_rfl) (fun _ _ _ _ h => h) (.inl ⟨rfl, fun w' _ => (by go_simp; rfl)⟩) ?_
  simp only [List.getElem_toArray, List.getElem_cons_zero, List.getElem_cons_succ, Act.put, List.setIfInBounds_toArray, List.set_cons_succ, List.set_cons_zero]
  refine wpBk_takeP (i := 9) rfl (by kernel_rfl) (fun _ _ _ _ h => h) (.inl ⟨rfl, fun w' _ => (by go_simp; rfl)⟩) ?_
  simp only [List.getElem_toArray, List.getElem_cons_zero, List.getElem_cons_succ, Act.put, List.setIfInBounds_toArray, List.set_cons_succ, List.set_cons_zero]
  refine wpBk_takeP (i := 10) rfl (by kernel_rfl) (fun _ _ _ _ h => h) (.inl ⟨rfl, fun w' _ => (by go_simp; rfl)⟩) ?_
  simp only [List.getElem_toArray, List.getElem_cons_zero, List.getElem_cons_succ, Act.put, List.setIfInBounds_toArray, List.set_cons_succ, List.set_cons_zero]
  refine ⟨by kernel_rfl, ?_⟩
  refine NoPanic.normal ?_
  obtain ⟨a0, a1, a2, a3, a4, a5⟩ := KS.out _ hb3
  go_upto_region 6 with (first
    | (go_at_call 48; go_loud (with_reducible refine Calls.mono (CC.out _ hb4) ?_); go_loud (rintro e w5 ⟨⟨A5, c5, l5, rfl, ho5, hv5⟩, h5⟩); go_loud (have hb5 : Below w1.heap.size w1 w5 := hb4.trans (h5.mono hb4.size)); go_loud (have HO5 := Lib.hid (ho5.base_ (base' := w1.heap.size) hb4.size)); go_loud (have HV5 := Lib.hid hv5); go_loud (clear h5 ho5 hv5 a0 a1 a2 a3 a4 a5))
    | (go_at_call 23; go_loud (with_reducible refine Calls.mono (CL.out _ hb3) ?_); go_loud (rintro e w4 ⟨rfl, h4⟩); go_loud (have hb4 : Below w1.heap.size w1 w4 := hb3.trans (h4.mono hb3.size)); go_loud (clear h4); go_loud (clear a0 a1 a2 a3 a4 a5); go_loud (obtain ⟨a0, a1, a2, a3, a4, a5⟩ := KS.out _ hb4))
    | fail)
  obtain ⟨w6, hw6⟩ : ∃ w6, w5.alloc (.cells #[.int .u64 (i : Int), .int .u64 (t : Int), .slice A5 n c5] 27) = w6 := ⟨_, rfl⟩
  have HN6 := Lib.hid (show Bl w6 w5.heap.size 27 (lgC i t A5 n c5) by rw [← hw6]; exact Bl.new w5 27 (lgC i t A5 n c5))
  have hb56 : Below w5.heap.size w5 w6 := by rw [← hw6]; exact (Below.refl _ _).alloc (Nat.le_refl _) _
  have hb6 : Below w1.heap.size w1 w6 := hb5.trans (hb56.mono hb5.size)
  have HO6 := Lib.hid (HO5.out.below hb56)
  have HG5 := Lib.hid (show w1.heap.size ≤ w5.heap.size from hb5.size)
  rw [hw6]
  have HHB6 := Lib.hid hb6
  clear hw6 hb1 hb2 hb3 hb4 hb5 hb56 n16 s64 d16 dtop huu hgu fld1'
  have KT := Lib.hid (fun (W : World) (hw : Below w6.heap.size w6 W) => (show W.cell? ⟨w5.heap.size, 2, none⟩ = some (.slice A5 n c5) ∧ W.cell? ⟨w.heap.size + 1, 0, none⟩ = some (.int .u64 (x.t : Int)) ∧ W.cell? ⟨w.heap.size + 1, 1, none⟩ = some (.int .i64 x.k) ∧ W.cell? ⟨w.heap.size + 1, 2, none⟩ = some (.slice x.D.a x.D.n x.D.c) from
    ⟨(HN6.out.below hw HN6.out.lt).cell 2, (KS.out W (HHB6.out.trans (hw.mono HHB6.out.size))).2.2.2⟩))
  obtain ⟨wD, hwD⟩ : ∃ wD, w6.drew = wD := ⟨_, rfl⟩
  have hb6D : Below w6.heap.size w6 wD := by rw [← hwD]; exact (Below.refl _ _).drew
  have KD := Lib.hid (KT.out _ hb6D)
  have OD := Lib.hid (HO6.out.below hb6D)
  obtain ⟨wE, hwE⟩ : ∃ wE, wD.alloc (.cells #[.int .u64 (x.t : Int), .int .i64 x.k, .slice x.D.a x.D.n x.D.c] 44) = wE := ⟨_, rfl⟩
  have hbDE : Below wD.heap.size wD wE := by rw [← hwE]; exact (Below.refl _ _).alloc (Nat.le_refl _) _
  have hb6E : Below w6.heap.size w6 wE := hb6D.trans (hbDE.mono hb6D.size)
  have KE := Lib.hid (KT.out _ hb6E)
  have OE := Lib.hid (OD.out.below hbDE)
  have SE := one_en (HX.out wD (HHB6.out.trans (hb6D.mono HHB6.out.size)))
  rw [hwE] at SE
  have CEN := Lib.hid (show Calls Try.prog 49 #[.slice (some ⟨wD.heap.size, 0, none⟩) 1 1] wE _ from refEntries_any SE (by omega) (fun y hy => by simp at hy; subst hy; exact hxb))
  have HWE := Lib.hid hwE
  have HB6E := Lib.hid hb6E
  clear hwE hbDE hb6E SE hb6D
  refine wp_region_noPanic (wp_region_any (by kernel_rfl) (wpAny_of_bk (S := (fun W => W.cell? ⟨w5.heap.size, 2, none⟩ = some (.slice A5 n c5) ∧ W.cell? ⟨w.heap.size + 1, 0, none⟩ = some (.int .u64 (x.t : Int)) ∧ W.cell? ⟨w.heap.size + 1, 1, none⟩ = some (.int .i64 x.k) ∧ W.cell? ⟨w.heap.size + 1, 2, none⟩ = some (.slice x.D.a x.D.n x.D.c))) (m := 6) _ _ _ _ ?_))
  show wpBk _ _ _ _ _ _ 8 _ _ w6.drew
  rw [hwD]
  clear hwD
  refine wpBk_takeP (i := 0) rfl (by kernel_rfl) (fun _ _ _ _ h => h) (.inl ⟨rfl, fun w' _ => (by go_simp; rfl)⟩) ?_
  simp only [List.getElem_toArray, List.getElem_cons_zero, List.getElem_cons_succ, Act.put, List.setIfInBounds_toArray, List.set_cons_succ, List.set_cons_zero]
  refine wpBk_take (i := 1) rfl (by kernel_rfl) (fun _ _ _ _ h => h) (.inl ⟨rfl, fun w' hw' => (by obtain ⟨a0, a1, a2, a3⟩ := hw'; go_simp; rfl)⟩) KD.out ?_
  simp only [List.getElem_toArray, List.getElem_cons_zero, List.getElem_cons_succ, Act.put, List.setIfInBounds_toArray, List.set_cons_succ, List.set_cons_zero]
  refine wpBk_take (i := 2) rfl (by kernel_rfl) (fun _ _ _ _ h => h) (.inl ⟨rfl, fun w' hw' => (by obtain ⟨a0, a1, a2, a3⟩ := hw'; go_simp; rfl)⟩) KD.out ?_
  simp only [List.getElem_toArray, List.getElem_cons_zero, List.getElem_cons_succ, Act.put, List.setIfInBounds_toArray, List.set_cons_succ, List.set_cons_zero]
  refine wpBk_one (i := 3) rfl (by rfl) (by kernel_rfl) (fun K hK => ?_)
  refine wp_oneE (.tmp 37) rfl x rfl ?_
  rw [HWE.out]
  refine hK _ _ ⟨fun _ _ => KE.out, ?_⟩
  simp only [List.getElem_toArray, List.getElem_cons_zero, List.getElem_cons_succ, Act.put, List.setIfInBounds_toArray, List.set_cons_succ, List.set_cons_zero]
  refine wpBk_one (i := 4) rfl (by rfl) (by kernel_rfl) (fun K hK => ?_)
  refine wp_fn (f := 49) (xs := #[.slice (some ⟨wD.heap.size, 0, none⟩) 1 1]) (by first | (go_simp; done) | (go_simp; rfl)) (Calls.mono (CEN.out) ?_)
  rintro e w7 ⟨⟨A7, c7, l7, rfl, ho7, hv7⟩, h7⟩
  have hb7 : Below w6.heap.size w6 w7 := HB6E.out.trans (h7.mono HB6E.out.size)
  have K7 := Lib.hid (KT.out _ hb7)
  have O7 := Lib.hid (OE.out.below h7)
  have HO7 := Lib.hid (ho7.base_ (base' := w1.heap.size) (Nat.le_trans HHB6.out.size HB6E.out.size))
  have HV7 := Lib.hid hv7
  have HB7 := Lib.hid hb7
  clear h7 ho7 hv7 hb7
  refine ⟨_, rfl, hK _ _ ⟨fun _ _ => K7.out, ?_⟩⟩
  simp only [List.getElem_toArray, List.getElem_cons_zero, List.getElem_cons_succ, Act.put, List.setIfInBounds_toArray, List.set_cons_succ, List.set_cons_zero]
  obtain ⟨i0, hi0, hz0, hz1, hz2⟩ := info_parts info_en
  refine wpBk_one (i := 5) rfl (by rfl) (by kernel_rfl) (fun K hK => ?_)
  refine wp_append_sq (f := En.cells) (k := 3) (.tmp 36) (.tmp 39) 25 rfl w1.heap.size 44 i0 (.agg zEn.cells.toArray) 40 Try.underlying25 hi0 hz0 hz1 hz2 rfl (by omega) (.slice A5 n c5) n l5 rfl O7.out.row rfl HO7.out.sq.s (en_one _) (by omega) (by omega) (Nat.le_trans HHB6.out.size HB7.out.size) ?_
  intro v8 w8 hown8 hg8
  obtain ⟨A8, c8, rfl⟩ := own_shape hown8
  have HOW := Lib.hid (O7.out.cat HO7.out hown8 hg8)
  have N7 := HN6.out.below HB7.out HN6.out.lt

  have B8 : Below w1.heap.size w1 w8 := HHB6.out.trans ((HB7.out.mono HHB6.out.size).trans (below_own2 O7.out.row hg8 (Nat.le_trans HHB6.out.size HB7.out.size)))
  have N8 := Lib.hid (bl_own N7 O7.out.row (by decide) hg8)
  have K8 := Lib.hid (show w8.cell? ⟨w5.heap.size, 2, none⟩ = some (.slice A5 n c5) ∧ w8.cell? ⟨w.heap.size + 1, 0, none⟩ = some (.int .u64 (x.t : Int)) ∧ w8.cell? ⟨w.heap.size + 1, 1, none⟩ = some (.int .i64 x.k) ∧ w8.cell? ⟨w.heap.size + 1, 2, none⟩ = some (.slice x.D.a x.D.n x.D.c) from ⟨N8.out.cell 2, (KS.out w8 B8).2.2.2⟩)
  have HB8 := Lib.hid B8
  clear hown8 hg8 N7 B8
  refine hK _ _ ⟨fun _ _ => K8.out, ?_⟩
  simp only [List.getElem_toArray, List.getElem_cons_zero, List.getElem_cons_succ, Act.put, List.setIfInBounds_toArray, List.set_cons_succ, List.set_cons_zero]
  refine bk_drop 6 2 rfl (Nat.le_refl _) (by kernel_rfl) ?_
  simp only [List.drop_succ_cons, List.drop_zero]
  have z2 := N8.out.cell 2
  have f2 := N8.out.frozen 2
  simp only [lgC, List.getElem?_cons_zero, List.getElem?_cons_succ] at z2
  go_wp2_with fail
  refine NoPanic.normal ?_
  clear z2 f2 K8 K7 KE KD KT OE OD O7 HO7 HO6 HO5 HN6 CEN HWE
  obtain ⟨w9, hw9⟩ : ∃ w9, w8.setCell ⟨w5.heap.size, 2, none⟩ (.slice A8 (n + 1) c8) = w9 := ⟨_, rfl⟩
  have N9 := Lib.hid (show Bl w9 w5.heap.size 27 (lgC i t A8 (n + 1) c8) by rw [← hw9]; exact N8.out.set_ 2 _)
  have O9 := Lib.hid (show OwnM w9 w1.heap.size A8 (n + 1) c8 (l5 ++ l7) by rw [← hw9]; exact HOW.out.box N8.out (by decide) (by decide) 2 _)
  have HB9 := Lib.hid (show Below w1.heap.size w1 w9 by rw [← hw9]; exact HB8.out.setCell (p := ⟨w5.heap.size, 2, none⟩) HG5.out _)
  try rw [hw9]
  obtain ⟨s1, hs1⟩ : ∃ s1 : Nat, s + 1 = s1 := ⟨_, rfl⟩
  have hvv : vsE (l5 ++ l7) = vsE l ++ [x.v] := by rw [vsE_app, HV5.out, HV7.out]; rfl
  have hL1 : lastI ⟨i, t, vsE (l5 ++ l7)⟩ = s1 := by rw [hvv, ← hs1, ← HSI.out]; unfold lastI; show i + (vsE l ++ [x.v]).length = i + (vsE l).length + 1; rw [List.length_append]; rfl
  have hL2 : lastT t (vsE (l5 ++ l7)) = x.t := by rw [hvv, lastT_app]; rfl
  have CL9 := Lib.hid (fun (W : World) (hw : Below w9.heap.size w9 W) => (show Calls Try.prog 23 #[.agg #[.int .u64 (i : Int), .int .u64 (t : Int), .slice A8 (n + 1) c8]] W _ from refLast_any (O9.out.below hw).sq (by omega) i t (by
    have h1 := HSI.out
    have h2 : i + (vsE l).length = s := h1
    rw [vsE_len, HLEN.out] at h2
    have h3 := HIN.out
    omega)))
  rw [hL1, hL2] at CL9
  have HVV := Lib.hid hvv
  have HS1 := Lib.hid hs1
  clear hw9 N8 HOW HB8 hL1 hL2 hvv hs1 htop
  have K9 := Lib.hid (fun (W : World) (hw : Below w9.heap.size w9 W) => (show W.cell? ⟨w5.heap.size, 0, none⟩ = some (.int .u64 (i : Int)) ∧ W.cell? ⟨w5.heap.size, 1, none⟩ = some (.int .u64 (t : Int)) ∧ W.cell? ⟨w5.heap.size, 2, none⟩ = some (.slice A8 (n + 1) c8) from ⟨(N9.out.below hw N9.out.lt).cell 0, (N9.out.below hw N9.out.lt).cell 1, (N9.out.below hw N9.out.lt).cell 2⟩))
  have HNE := Lib.hid (show w5.heap.size ≠ w.heap.size + 1 + 1 ∧ w5.heap.size ≠ w.heap.size + 1 + 1 + 1 by have := HG5.out; have := HL3.out.lt; constructor <;> omega)
  have FAR := Lib.hid (fun (W : World) (p : Addr) (v : Value) (h1 : w5.heap.size ≠ p.block) (h : W.cell? ⟨w5.heap.size, 0, none⟩ = some (.int .u64 (i : Int)) ∧ W.cell? ⟨w5.heap.size, 1, none⟩ = some (.int .u64 (t : Int)) ∧ W.cell? ⟨w5.heap.size, 2, none⟩ = some (.slice A8 (n + 1) c8)) => (show (W.setCell p v).cell? ⟨w5.heap.size, 0, none⟩ = some (.int .u64 (i : Int)) ∧ (W.setCell p v).cell? ⟨w5.heap.size, 1, none⟩ = some (.int .u64 (t : Int)) ∧ (W.setCell p v).cell? ⟨w5.heap.size, 2, none⟩ = some (.slice A8 (n + 1) c8) from ⟨cell_far h.1 h1, cell_far h.2.1 h1, cell_far h.2.2 h1⟩))
  have K9D := Lib.hid (K9.out _ (Below.refl _ _).drew)
  go_upto_region 7 with fail
  go_region_held3 (fun W => W.cell? ⟨w5.heap.size, 0, none⟩ = some (.int .u64 (i : Int)) ∧ W.cell? ⟨w5.heap.size, 1, none⟩ = some (.int .u64 (t : Int)) ∧ W.cell? ⟨w5.heap.size, 2, none⟩ = some (.slice A8 (n + 1) c8))
    (first | with_reducible exact K9D.out | with_reducible exact K10.out | with_reducible exact K11.out | with_reducible exact K12.out | fail)
    (first
      | (go_at_call 23; go_loud (with_reducible refine Calls.mono (CL9.out _ (Below.refl _ _).drew) ?_); go_loud (rintro e w10 ⟨rfl, h10⟩); go_loud (have hb10 : Below w9.heap.size w9 w10 := (Below.refl w9.heap.size w9).drew.trans (h10.mono (Nat.le_refl _))); go_loud (have HB10 := Lib.hid hb10); go_loud (have HA10 := Lib.hid (HB9.out.trans (hb10.mono HB9.out.size))); go_loud (have K10 := Lib.hid (K9.out _ hb10)); go_loud (have K11 := Lib.hid (FAR.out _ ⟨w.heap.size + 1 + 1, 2, none⟩ (.slice A8 (n + 1) c8) HNE.out.1 (FAR.out _ ⟨w.heap.size + 1 + 1, 1, none⟩ (.int .u64 (t : Int)) HNE.out.1 (FAR.out _ ⟨w.heap.size + 1 + 1, 0, none⟩ (.int .u64 (i : Int)) HNE.out.1 K10.out)))); go_loud (have K12 := Lib.hid (FAR.out _ ⟨w.heap.size + 1 + 1 + 1, 1, none⟩ (.int .u64 (x.t : Int)) HNE.out.2 (FAR.out _ ⟨w.heap.size + 1 + 1 + 1, 0, none⟩ (.int .u64 (s1 : Int)) HNE.out.2 K11.out))); go_loud (clear hb10 h10); go_loud (obtain ⟨⟨r0, r1, r2, r3, r4⟩, f0, f1, f2, f3, f4⟩ := HR.out _ HA10.out))
      | fail)
  go_wp2_with fail
  obtain ⟨R1, R2, R3⟩ := res5 (HL2.out.below HA10.out HL2.out.lt) (HL3.out.below HA10.out HL3.out.lt) (HB1.out.trans (HA10.out.mono HB1.out.size)) (show w.heap.size ≤ w.heap.size + 1 + 1 by omega) (show w.heap.size ≤ w.heap.size + 1 + 1 + 1 by omega) i t A8 (n + 1) c8 s1 x.t
  have hs1 := HS1.out
  subst hs1
  refine ends_rappend _ _ _ i t A8 (n + 1) c8 (s + 1) x.t 0 rfl rfl rfl R1 R2 ⟨⟨_, rfl, A8, n + 1, c8, l5 ++ l7, rfl, ?_, HVV.out⟩, R3⟩
  have hl2 := HL2.out.lt
  have hl3 := HL3.out.lt
  exact ((((((O9.out.below HB10.out).far1 (p := ⟨w.heap.size + 1 + 1, 0, none⟩) hl2 _).far1 (p := ⟨w.heap.size + 1 + 1, 1, none⟩) hl2 _).far1 (p := ⟨w.heap.size + 1 + 1, 2, none⟩) hl2 _).far1 (p := ⟨w.heap.size + 1 + 1 + 1, 0, none⟩) hl3 _).far1 (p := ⟨w.heap.size + 1 + 1 + 1, 1, none⟩) hl3 _).base_ HB1.out.size
end Go.Proofs.Ytgdcahakefmakaa
