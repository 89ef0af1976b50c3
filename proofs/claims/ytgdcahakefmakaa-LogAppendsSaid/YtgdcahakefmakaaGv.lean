/-
  LOGS: Append.
-/
import Derived.Test.YtgdcahakefmakaaGu
namespace Go.Proofs.Ytgdcahakefmakaa
set_option linter.unusedVariables false
set_option linter.unusedSimpArgs false
open Go.RowKit Go.WideShapes Go.ChangeShapes Go.Deep Go.Shelf
attribute [local irreducible] wpQuiet

theorem results_append (tmps : Array Value) (W : World) (b b' i t : Nat) (A : Option Addr) (n c : Nat) (x y : Nat) (k : Int) (h4 : tmps.getD 4 undef = .pointer (some ⟨b, 0, none⟩)) (h5 : tmps.getD 5 undef = .pointer (some ⟨b', 0, none⟩)) (h6 : tmps.getD 6 undef = .int .i64 k) (hx : Bl W b 27 (lgC i t A n c)) (hy : Bl W b' 24 (atC x y)) :
    (results Try.f19 tmps).run Try.prog W = .ok (.tuple #[lgV i t A n c, atV x y, .int .i64 k]) W := by
  have h4' : tmps[4]?.getD undef = .pointer (some ⟨b, 0, none⟩) := by simpa using h4
  have h5' : tmps[5]?.getD undef = .pointer (some ⟨b', 0, none⟩) := by simpa using h5
  have h6' : tmps[6]?.getD undef = .int .i64 k := by simpa using h6
  have x0 := hx.cell 0
  have x1 := hx.cell 1
  have x2 := hx.cell 2
  have y0 := hy.cell 0
  have y1 := hy.cell 1
  simp only [lgC, atC, List.getElem?_cons_zero, List.getElem?_cons_succ] at x0 x1 x2 y0 y1
  simp [results, Try.f19, go_sem, h4', h5', h6', x0, x1, x2, y0, y1]
theorem ends_append {W : World} {R : Ending → World → Prop} (tmps : Array Value) (b b' i t : Nat) (A : Option Addr) (n c : Nat) (x y : Nat) (k : Int) (h4 : tmps.getD 4 undef = .pointer (some ⟨b, 0, none⟩)) (h5 : tmps.getD 5 undef = .pointer (some ⟨b', 0, none⟩)) (h6 : tmps.getD 6 undef = .int .i64 k) (hx : Bl W b 27 (lgC i t A n c)) (hy : Bl W b' 24 (atC x y))
    (h : R (.returned (.tuple #[lgV i t A n c, atV x y, .int .i64 k])) W) : bodyPost Try.prog Try.f19 R Exit.ret { tmps := tmps, defers := [] } W := bodyPost_ret (results_append tmps W b b' i t A n c x y k h4 h5 h6 hx hy) rfl h
section
variable {l : Lg} {e : Ev}
theorem ap1 (h : isLogW l = false) : appendW l e = (zLg, (0, 0), 220) := by unfold appendW; rw [if_pos h]
theorem ap2 (h : isLogW l = true) (h2 : okE e = false ∨ e.t < lastT l.bt l.es) : appendW l e = (zLg, (0, 0), 2) := by unfold appendW; rw [if_neg (by rw [h]; simp), if_pos h2]
theorem ap3 (h : isLogW l = true) (h2 : ¬ (okE e = false ∨ e.t < lastT l.bt l.es)) (h3 : l.es.length = 16 ∨ lastI l = topI) : appendW l e = (zLg, (0, 0), 6) := by unfold appendW; rw [if_neg (by rw [h]; simp), if_neg h2, if_pos h3]
theorem ap4 (h : isLogW l = true) (h2 : ¬ (okE e = false ∨ e.t < lastT l.bt l.es)) (h3 : ¬ (l.es.length = 16 ∨ lastI l = topI)) : appendW l e = (⟨l.bi, l.bt, l.es ++ [e]⟩, (lastI l + 1, e.t), 0) := by unfold appendW; rw [if_neg (by rw [h]; simp), if_neg h2, if_neg h3]
end
/-- Five cells of results that are stored. -/
theorem res5 {w w' : World} {b b' : Nat} {u0 u1 u2 y0 y1 : Value} (hL : Bl w' b 27 [u0, u1, u2]) (hA : Bl w' b' 24 [y0, y1]) (hB : Below w.heap.size w w') (hb : w.heap.size ≤ b) (hb' : w.heap.size ≤ b') (i t : Nat) (A : Option Addr) (n c : Nat) (x y : Nat) :
    Bl (((((w'.setCell ⟨b, 0, none⟩ (.int .u64 (i : Int))).setCell ⟨b, 1, none⟩ (.int .u64 (t : Int))).setCell ⟨b, 2, none⟩ (.slice A n c)).setCell ⟨b', 0, none⟩ (.int .u64 (x : Int))).setCell ⟨b', 1, none⟩ (.int .u64 (y : Int))) b 27 (lgC i t A n c) ∧
    Bl (((((w'.setCell ⟨b, 0, none⟩ (.int .u64 (i : Int))).setCell ⟨b, 1, none⟩ (.int .u64 (t : Int))).setCell ⟨b, 2, none⟩ (.slice A n c)).setCell ⟨b', 0, none⟩ (.int .u64 (x : Int))).setCell ⟨b', 1, none⟩ (.int .u64 (y : Int))) b' 24 (atC x y) ∧
    Below w.heap.size w (((((w'.setCell ⟨b, 0, none⟩ (.int .u64 (i : Int))).setCell ⟨b, 1, none⟩ (.int .u64 (t : Int))).setCell ⟨b, 2, none⟩ (.slice A n c)).setCell ⟨b', 0, none⟩ (.int .u64 (x : Int))).setCell ⟨b', 1, none⟩ (.int .u64 (y : Int))) := by
  have hz := hB.size
  have hne : b ≠ b' := bl_ne hL hA (by decide)
  have R := res3 (w := w) (w1 := w) hL hB hb i t A n c
  have hA3 := ((hA.far (p := ⟨b, 0, none⟩) (Ne.symm hne) (.int .u64 (i : Int))).far (p := ⟨b, 1, none⟩) (Ne.symm hne) (.int .u64 (t : Int))).far (p := ⟨b, 2, none⟩) (Ne.symm hne) (.slice A n c)
  have R2 := res2 hA3 R.2 hb' x y
  exact ⟨(R.1.far (p := ⟨b', 0, none⟩) hne _).far (p := ⟨b', 1, none⟩) hne _, R2.1, R2.2⟩
theorem run_one_en (w : World) (x : En) : (Instr.buildSlice 25 1 #[(0, .agg #[.int .u64 (x.t : Int), .int .i64 x.k, .slice x.D.a x.D.n x.D.c])]).run Try.prog w = .ok (.slice (some ⟨w.heap.size, 0, none⟩) 1 1) (w.alloc (.cells #[.int .u64 (x.t : Int), .int .i64 x.k, .slice x.D.a x.D.n x.D.c] 44)) := by
  kernel_rfl
theorem one_en {w : World} {x : En} (h : EnIn w w.heap.size x) : SqE (w.alloc (.cells #[.int .u64 (x.t : Int), .int .i64 x.k, .slice x.D.a x.D.n x.D.c] 44)) (w.alloc (.cells #[.int .u64 (x.t : Int), .int .i64 x.k, .slice x.D.a x.D.n x.D.c] 44)).heap.size (some ⟨w.heap.size, 0, none⟩) 1 1 [x] :=
  ⟨⟨rfl, Nat.le_refl _, by unfold maxLen; omega, (fun e => by cases e), en_sz, fun _ => ⟨_, 0, rfl, by simp, by
    have := (Lies.new w x.cells 44).rg
    rw [List.flatMap_cons, List.flatMap_nil, List.append_nil]
    exact this⟩⟩, fun y hy => by
    rcases List.mem_cons.1 hy with rfl | hy
    · exact (h.below ((Below.refl _ _).alloc (Nat.le_refl _) _)).more (by simp)
    · cases hy⟩
theorem cell_far {W : World} {a p : Addr} {v u : Value} (h : W.cell? a = some u) (hn : a.block ≠ p.block) : (W.setCell p v).cell? a = some u := (World.cell?_of_block (Below.heap_setCell W p v a.block hn)).trans h
set_option maxRecDepth 100000 in
set_option maxHeartbeats 20000000 in
theorem Append_any {w : World} {A : Option Addr} {n c : Nat} {es : List En} (hs : SqE w w.heap.size A n c es) (hn : n ≤ 1000) (i t : Nat) (hi : i < 18446744073709551616) (ht : t < 18446744073709551616) {x : En} (hx : EnIn w w.heap.size x) (hxb : EnB x) :
    Calls Try.prog 19 #[lgV i t A n c, enV x] w fun e w' => (∃ v, e = .returned (.tuple #[v, atV (appendW ⟨i, t, vsE es⟩ x.v).2.1.1 (appendW ⟨i, t, vsE es⟩ x.v).2.1.2, .int .i64 (appendW ⟨i, t, vsE es⟩ x.v).2.2]) ∧ LgOut w.heap.size w' (appendW ⟨i, t, vsE es⟩ x.v).1 v) ∧ Below w.heap.size w w' := by
  obtain ⟨w1, hw1⟩ : ∃ w1, ((((w.alloc (.cells #[.int .u64 (i : Int), .int .u64 (t : Int), .slice A n c] 27)).alloc (.cells #[.int .u64 (x.t : Int), .int .i64 x.k, .slice x.D.a x.D.n x.D.c] 44)).alloc (.cells #[.int .u64 0, .int .u64 0, .slice none 0 0] 27)).alloc (.cells #[.int .u64 0, .int .u64 0] 24)) = w1 := ⟨_, rfl⟩
  have L0 : Bl w1 (w.heap.size) 27 [.int .u64 (i : Int), .int .u64 (t : Int), .slice A n c] := by
    rw [← hw1]
    have h := Bl.new w 27 [.int .u64 (i : Int), .int .u64 (t : Int), .slice A n c]
    (try simp only [World.size_alloc] at h)
    exact (((h.alloc _).alloc _).alloc _)
  have L1 : Bl w1 (w.heap.size + 1) 44 [.int .u64 (x.t : Int), .int .i64 x.k, .slice x.D.a x.D.n x.D.c] := by
    rw [← hw1]
    have h := Bl.new (w.alloc (.cells #[.int .u64 (i : Int), .int .u64 (t : Int), .slice A n c] 27)) 44 [.int .u64 (x.t : Int), .int .i64 x.k, .slice x.D.a x.D.n x.D.c]
    (try simp only [World.size_alloc] at h)
    exact ((h.alloc _).alloc _)
  have L2 : Bl w1 (w.heap.size + 1 + 1) 27 [.int .u64 0, .int .u64 0, .slice none 0 0] := by
    rw [← hw1]
    have h := Bl.new ((w.alloc (.cells #[.int .u64 (i : Int), .int .u64 (t : Int), .slice A n c] 27)).alloc (.cells #[.int .u64 (x.t : Int), .int .i64 x.k, .slice x.D.a x.D.n x.D.c] 44)) 27 [.int .u64 0, .int .u64 0, .slice none 0 0]
    (try simp only [World.size_alloc] at h)
    exact (h.alloc _)
  have L3 : Bl w1 (w.heap.size + 1 + 1 + 1) 24 [.int .u64 0, .int .u64 0] := by
    rw [← hw1]
    have h := Bl.new (((w.alloc (.cells #[.int .u64 (i : Int), .int .u64 (t : Int), .slice A n c] 27)).alloc (.cells #[.int .u64 (x.t : Int), .int .i64 x.k, .slice x.D.a x.D.n x.D.c] 44)).alloc (.cells #[.int .u64 0, .int .u64 0, .slice none 0 0] 27)) 24 [.int .u64 0, .int .u64 0]
    (try simp only [World.size_alloc] at h)
    exact h
  have B1 : Below w.heap.size w w1 := by
    rw [← hw1]
    exact (((((Below.refl _ _).alloc (by simp <;> omega) _).alloc (by simp <;> omega) _).alloc (by simp <;> omega) _).alloc (by simp <;> omega) _)
  have Z1 : w1.heap.size = w.heap.size + 4 := by rw [← hw1]; simp
  have HQ : Hid (∀ w', Below w1.heap.size w1 w' → w'.cell? ⟨w.heap.size, 0, none⟩ = some (.int .u64 (i : Int)) ∧ w'.cell? ⟨w.heap.size, 1, none⟩ = some (.int .u64 (t : Int)) ∧ w'.cell? ⟨w.heap.size, 2, none⟩ = some (.slice A n c)) := Lib.hid fun w' hw => by
    have := L0.below hw L0.lt
    have q0 := this.cell 0
    have q1 := this.cell 1
    have q2 := this.cell 2
    simp only [List.getElem?_cons_zero, List.getElem?_cons_succ] at q0 q1 q2
    exact ⟨q0, q1, q2⟩
  have HP : Hid (∀ w', Below w1.heap.size w1 w' → w'.cell? ⟨w.heap.size + 1, 0, none⟩ = some (.int .u64 (x.t : Int)) ∧ w'.cell? ⟨w.heap.size + 1, 1, none⟩ = some (.int .i64 x.k) ∧ w'.cell? ⟨w.heap.size + 1, 2, none⟩ = some (.slice x.D.a x.D.n x.D.c)) := Lib.hid fun w' hw => by
    have := L1.below hw L1.lt
    have q0 := this.cell 0
    have q1 := this.cell 1
    have q2 := this.cell 2
    simp only [List.getElem?_cons_zero, List.getElem?_cons_succ] at q0 q1 q2
    exact ⟨q0, q1, q2⟩
  obtain ⟨c0, c1, c2⟩ := HQ.out _ (Below.refl _ _)
  have HW := Lib.hid hw1
  have HB1 := Lib.hid B1
  have HL2 := Lib.hid (show Bl w1 (w.heap.size + 1 + 1) 27 (lgC 0 0 none 0 0) from L2)
  have HL3 := Lib.hid (show Bl w1 (w.heap.size + 1 + 1 + 1) 24 (atC 0 0) from L3)
  have HL0 := Lib.hid L0
  have HLE := Lib.hid L1
  have HR : Hid (∀ w', Below w1.heap.size w1 w' → (w'.cell? ⟨w.heap.size + 1 + 1, 0, none⟩ = some (.int .u64 0) ∧ w'.cell? ⟨w.heap.size + 1 + 1, 1, none⟩ = some (.int .u64 0) ∧ w'.cell? ⟨w.heap.size + 1 + 1, 2, none⟩ = some (.slice none 0 0) ∧ w'.cell? ⟨w.heap.size + 1 + 1 + 1, 0, none⟩ = some (.int .u64 0) ∧ w'.cell? ⟨w.heap.size + 1 + 1 + 1, 1, none⟩ = some (.int .u64 0)) ∧ (w'.frozen? ⟨w.heap.size + 1 + 1, 0, none⟩ = false ∧ w'.frozen? ⟨w.heap.size + 1 + 1, 1, none⟩ = false ∧ w'.frozen? ⟨w.heap.size + 1 + 1, 2, none⟩ = false ∧ w'.frozen? ⟨w.heap.size + 1 + 1 + 1, 0, none⟩ = false ∧ w'.frozen? ⟨w.heap.size + 1 + 1 + 1, 1, none⟩ = false)) := Lib.hid fun w' hw => by
    have M := HL2.out.below hw HL2.out.lt
    have M' := HL3.out.below hw HL3.out.lt
    exact ⟨⟨M.cell 0, M.cell 1, M.cell 2, M'.cell 0, M'.cell 1⟩, M.frozen 0, M.frozen 1, M.frozen 2, M'.frozen 0, M'.frozen 1⟩
  have HS := Lib.hid (fun (w' : World) (hw : Below w1.heap.size w1 w') => hs.next (Nat.le_refl _) (B1.trans (hw.mono B1.size)))
  have HX := Lib.hid (fun (w' : World) (hw : Below w1.heap.size w1 w') => (hx.below (B1.trans (hw.mono B1.size))).more (Nat.le_trans B1.size hw.size))
  have CL := Lib.hid (isLog_any (HS.out _ (Below.refl _ _)) hn i t hi ht)
  have CE := Lib.hid (fun (w' : World) (hw : Below w1.heap.size w1 w') => isEntry_any (HX.out w' hw))
  have HT := Lib.hid ht
  have HXB := Lib.hid hxb
  have hlen := hs.len
  have HF : Hid (w.heap.size ≤ w.heap.size + 1 + 1 ∧ w.heap.size ≤ w.heap.size + 1 + 1 + 1) := Lib.hid (by omega)
  have HZR : Hid (∀ w' (hb : Below w1.heap.size w1 w') (k : Int), ∀ tm : Array Value, tm.getD 4 undef = .pointer (some ⟨w.heap.size + 1 + 1, 0, none⟩) → tm.getD 5 undef = .pointer (some ⟨w.heap.size + 1 + 1 + 1, 0, none⟩) → tm.getD 6 undef = .int .i64 k → bodyPost Try.prog Try.f19 (fun e w' => (∃ v, e = .returned (.tuple #[v, atV 0 0, .int .i64 k]) ∧ LgOut w.heap.size w' zLg v) ∧ Below w.heap.size w w') Exit.ret { tmps := tm, defers := [] } (((((w'.setCell ⟨w.heap.size + 1 + 1, 0, none⟩ (.int .u64 0)).setCell ⟨w.heap.size + 1 + 1, 1, none⟩ (.int .u64 0)).setCell ⟨w.heap.size + 1 + 1, 2, none⟩ (.slice none 0 0)).setCell ⟨w.heap.size + 1 + 1 + 1, 0, none⟩ (.int .u64 0)).setCell ⟨w.heap.size + 1 + 1 + 1, 1, none⟩ (.int .u64 0))) := Lib.hid fun w' hb k tm h4 h5 h6 => by
    obtain ⟨R1, R2, R3⟩ := res5 (HL2.out.below hb HL2.out.lt) (HL3.out.below hb HL3.out.lt) (HB1.out.trans (hb.mono HB1.out.size)) HF.out.1 HF.out.2 0 0 none 0 0 0 0
    exact ends_append tm _ _ 0 0 none 0 0 0 0 k h4 h5 h6 R1 R2 ⟨⟨_, rfl, LgOut.zero _ _⟩, R3⟩
  clear hw1 L0 L1 L2 L3 B1 Z1 hi
  rcases hq : isLogW ⟨i, t, vsE es⟩ with _ | _
  · rw [ap1 hq]
    rw [hq] at CL
    clear hq hs hx
    go_enter Try.func19, Try.ntmps19
    go_upto_region 1 with fail
    rw [HW.out]
    go_wp2_with (first | (go_at_call 39; refine CL.out.mono ?_; rintro e w2 ⟨rfl, hb2⟩; have HB2 := Lib.hid hb2; clear hb2 c0 c1 c2; obtain ⟨c0, c1, c2⟩ := HQ.out _ HB2.out; obtain ⟨⟨r0, r1, r2, r3, r4⟩, f0, f1, f2, f3, f4⟩ := HR.out _ HB2.out) | fail)
    exact HZR.out _ HB2.out 220 _ rfl rfl rfl
  obtain ⟨hn16, hin⟩ := isLog_sum hq hlen
  have HEB := Lib.hid (enB_of (i := i) (right_rise hq) hs)
  have CN := Lib.hid (fun (w' : World) (hw : Below w1.heap.size w1 w') => end_any (HS.out w' hw) hn i t (show i + n < 18446744073709551616 by omega) HT.out)
  rw [hq] at CL
  obtain ⟨u, hu⟩ : ∃ u, lastT t (vsE es) = u := ⟨_, rfl⟩
  obtain ⟨s, hsn⟩ : ∃ s, i + n = s := ⟨_, rfl⟩
  rw [hu, hsn] at CN
  have HSN := Lib.hid hsn
  have hs64 : s ≤ 18446744073709551614 := by omega
  have HI64 := Lib.hid hs64
  rcases ho : okE x.v with _ | _
  · rw [ap2 hq (.inl ho)]
    rw [ho] at CE
    clear hq hs hx hin hu hsn hs64 ho hn hn16 ht hxb
    go_enter Try.func19, Try.ntmps19
    go_upto_region 1 with fail
    rw [HW.out]
    go_upto_region 4 with (first | (go_at_call 39; refine CL.out.mono ?_; rintro e w2 ⟨rfl, hb2⟩; have HB2 := Lib.hid hb2; clear hb2 c0 c1 c2; obtain ⟨c0, c1, c2⟩ := HQ.out _ HB2.out) | (go_at_call 50; refine (CN.out _ HB2.out).mono ?_; rintro e w3 ⟨rfl, hb3⟩; have HB3 := Lib.hid (HB2.out.trans (hb3.mono HB2.out.size)); clear hb3 c0 c1 c2) | fail)
    obtain ⟨w4, hw4⟩ : ∃ w4, w3.alloc (.cells #[.int .u64 (s : Int), .int .u64 (u : Int)] 24) = w4 := ⟨_, rfl⟩
    have HN4 := Lib.hid (show Bl w4 w3.heap.size 24 (atC s u) by rw [← hw4]; exact Bl.new w3 24 (atC s u))
    have HB4 := Lib.hid (show Below w1.heap.size w1 w4 by rw [← hw4]; exact HB3.out.alloc HB3.out.size _)
    have HG4 := Lib.hid (show w1.heap.size ≤ w3.heap.size from HB3.out.size)
    rw [hw4]
    clear hw4
    obtain ⟨p0, p1, p2⟩ := HP.out _ HB4.out
    go_wp2_with (first | (go_at_call 51; refine (CE.out _ HB4.out).mono ?_; rintro e w5 ⟨rfl, hb5⟩; have HB5 := Lib.hid (HB4.out.trans (hb5.mono HB4.out.size)); have N5 := Lib.hid (HN4.out.below hb5 HN4.out.lt); clear hb5 p0 p1 p2; obtain ⟨⟨r0, r1, r2, r3, r4⟩, f0, f1, f2, f3, f4⟩ := HR.out _ HB5.out) | fail)
    exact HZR.out _ HB5.out 2 _ rfl rfl rfl
  by_cases hxu : x.t < u
  · rw [ap2 hq (.inr (by show x.t < lastT t (vsE es); rw [hu]; exact hxu))]
    rw [ho] at CE
    have dxu : decide ((x.t : Int) < (u : Int)) = true := by simp; omega
    clear hq hs hx hin hu hsn hs64 ho hn hn16 ht hxb
    go_enter Try.func19, Try.ntmps19
    go_upto_region 1 with fail
    rw [HW.out]
    go_upto_region 4 with (first | (go_at_call 39; refine CL.out.mono ?_; rintro e w2 ⟨rfl, hb2⟩; have HB2 := Lib.hid hb2; clear hb2 c0 c1 c2; obtain ⟨c0, c1, c2⟩ := HQ.out _ HB2.out) | (go_at_call 50; refine (CN.out _ HB2.out).mono ?_; rintro e w3 ⟨rfl, hb3⟩; have HB3 := Lib.hid (HB2.out.trans (hb3.mono HB2.out.size)); clear hb3 c0 c1 c2) | fail)
    obtain ⟨w4, hw4⟩ : ∃ w4, w3.alloc (.cells #[.int .u64 (s : Int), .int .u64 (u : Int)] 24) = w4 := ⟨_, rfl⟩
    have HN4 := Lib.hid (show Bl w4 w3.heap.size 24 (atC s u) by rw [← hw4]; exact Bl.new w3 24 (atC s u))
    have HB4 := Lib.hid (show Below w1.heap.size w1 w4 by rw [← hw4]; exact HB3.out.alloc HB3.out.size _)
    have HG4 := Lib.hid (show w1.heap.size ≤ w3.heap.size from HB3.out.size)
    rw [hw4]
    clear hw4
    obtain ⟨p0, p1, p2⟩ := HP.out _ HB4.out
    go_wp2_with (first | (go_at_call 51; refine (CE.out _ HB4.out).mono ?_; rintro e w5 ⟨rfl, hb5⟩; have HB5 := Lib.hid (HB4.out.trans (hb5.mono HB4.out.size)); have N5 := Lib.hid (HN4.out.below hb5 HN4.out.lt); clear hb5 p0 p1 p2; obtain ⟨c0, c1, c2⟩ := HQ.out _ HB5.out; obtain ⟨p0, p1, p2⟩ := HP.out _ HB5.out; have z0 := N5.out.cell 0; have z1 := N5.out.cell 1; simp only [atC, List.getElem?_cons_zero, List.getElem?_cons_succ] at z0 z1; obtain ⟨⟨r0, r1, r2, r3, r4⟩, f0, f1, f2, f3, f4⟩ := HR.out _ HB5.out) | fail)
    exact HZR.out _ HB5.out 2 _ rfl rfl rfl
  have hneg : ¬ (okE x.v = false ∨ x.v.t < lastT t (vsE es)) := by
    rintro (h | h)
    · rw [ho] at h; cases h
    · rw [hu] at h; exact hxu h
  rw [ho] at CE
  have dxu : decide ((x.t : Int) < (u : Int)) = false := by simp; omega
  by_cases h16 : n = 16
  · rw [ap3 hq hneg (.inl (by show (vsE es).length = 16; rw [vsE_len, hlen]; exact h16))]
    have d16 : ((n : Int) == 16) = true := by simp; omega
    clear hq hs hx hin hu hsn hs64 ho hn hn16 ht hneg hxb h16
    go_enter Try.func19, Try.ntmps19
    go_upto_region 1 with fail
    rw [HW.out]
    go_upto_region 4 with (first | (go_at_call 39; refine CL.out.mono ?_; rintro e w2 ⟨rfl, hb2⟩; have HB2 := Lib.hid hb2; clear hb2 c0 c1 c2; obtain ⟨c0, c1, c2⟩ := HQ.out _ HB2.out) | (go_at_call 50; refine (CN.out _ HB2.out).mono ?_; rintro e w3 ⟨rfl, hb3⟩; have HB3 := Lib.hid (HB2.out.trans (hb3.mono HB2.out.size)); clear hb3 c0 c1 c2) | fail)
    obtain ⟨w4, hw4⟩ : ∃ w4, w3.alloc (.cells #[.int .u64 (s : Int), .int .u64 (u : Int)] 24) = w4 := ⟨_, rfl⟩
    have HN4 := Lib.hid (show Bl w4 w3.heap.size 24 (atC s u) by rw [← hw4]; exact Bl.new w3 24 (atC s u))
    have HB4 := Lib.hid (show Below w1.heap.size w1 w4 by rw [← hw4]; exact HB3.out.alloc HB3.out.size _)
    have HG4 := Lib.hid (show w1.heap.size ≤ w3.heap.size from HB3.out.size)
    rw [hw4]
    clear hw4
    obtain ⟨p0, p1, p2⟩ := HP.out _ HB4.out
    go_wp2_with (first | (go_at_call 51; refine (CE.out _ HB4.out).mono ?_; rintro e w5 ⟨rfl, hb5⟩; have HB5 := Lib.hid (HB4.out.trans (hb5.mono HB4.out.size)); have N5 := Lib.hid (HN4.out.below hb5 HN4.out.lt); clear hb5 p0 p1 p2; obtain ⟨c0, c1, c2⟩ := HQ.out _ HB5.out; obtain ⟨p0, p1, p2⟩ := HP.out _ HB5.out; have z0 := N5.out.cell 0; have z1 := N5.out.cell 1; simp only [atC, List.getElem?_cons_zero, List.getElem?_cons_succ] at z0 z1; obtain ⟨⟨r0, r1, r2, r3, r4⟩, f0, f1, f2, f3, f4⟩ := HR.out _ HB5.out) | fail)
    exact HZR.out _ HB5.out 6 _ rfl rfl rfl
  have d16 : ((n : Int) == 16) = false := by simp; omega
  by_cases htop : s = 18446744073709551614
  · rw [ap3 hq hneg (.inr (by unfold lastI topI; show i + (vsE es).length = _; rw [vsE_len, hlen]; omega))]
    have dtop : ((s : Int) == 18446744073709551614) = true := by simp; omega
    clear hq hs hx hin hu hsn hs64 ho hn hn16 ht hneg hxb h16 htop
    go_enter Try.func19, Try.ntmps19
    go_upto_region 1 with fail
    rw [HW.out]
    go_upto_region 4 with (first | (go_at_call 39; refine CL.out.mono ?_; rintro e w2 ⟨rfl, hb2⟩; have HB2 := Lib.hid hb2; clear hb2 c0 c1 c2; obtain ⟨c0, c1, c2⟩ := HQ.out _ HB2.out) | (go_at_call 50; refine (CN.out _ HB2.out).mono ?_; rintro e w3 ⟨rfl, hb3⟩; have HB3 := Lib.hid (HB2.out.trans (hb3.mono HB2.out.size)); clear hb3 c0 c1 c2) | fail)
    obtain ⟨w4, hw4⟩ : ∃ w4, w3.alloc (.cells #[.int .u64 (s : Int), .int .u64 (u : Int)] 24) = w4 := ⟨_, rfl⟩
    have HN4 := Lib.hid (show Bl w4 w3.heap.size 24 (atC s u) by rw [← hw4]; exact Bl.new w3 24 (atC s u))
    have HB4 := Lib.hid (show Below w1.heap.size w1 w4 by rw [← hw4]; exact HB3.out.alloc HB3.out.size _)
    have HG4 := Lib.hid (show w1.heap.size ≤ w3.heap.size from HB3.out.size)
    rw [hw4]
    clear hw4
    obtain ⟨p0, p1, p2⟩ := HP.out _ HB4.out
    go_wp2_with (first | (go_at_call 51; refine (CE.out _ HB4.out).mono ?_; rintro e w5 ⟨rfl, hb5⟩; have HB5 := Lib.hid (HB4.out.trans (hb5.mono HB4.out.size)); have N5 := Lib.hid (HN4.out.below hb5 HN4.out.lt); clear hb5 p0 p1 p2; obtain ⟨c0, c1, c2⟩ := HQ.out _ HB5.out; obtain ⟨p0, p1, p2⟩ := HP.out _ HB5.out; have z0 := N5.out.cell 0; have z1 := N5.out.cell 1; simp only [atC, List.getElem?_cons_zero, List.getElem?_cons_succ] at z0 z1; obtain ⟨⟨r0, r1, r2, r3, r4⟩, f0, f1, f2, f3, f4⟩ := HR.out _ HB5.out) | fail)
    exact HZR.out _ HB5.out 6 _ rfl rfl rfl
  have dtop : ((s : Int) == 18446744073709551614) = false := by simp; omega
  have e0 : appendW ⟨i, t, vsE es⟩ x.v = (⟨i, t, vsE (es ++ [x])⟩, (s + 1, x.t), 0) := by
    rw [ap4 hq hneg (by
      rintro (h | h)
      · rw [show (vsE es).length = n by rw [vsE_len, hlen]] at h; exact h16 h
      · unfold lastI topI at h
        rw [show (Lg.mk i t (vsE es)).bi + (Lg.mk i t (vsE es)).es.length = i + n by show i + (vsE es).length = _; rw [vsE_len, hlen]] at h
        omega)]
    have : lastI ⟨i, t, vsE es⟩ = s := by unfold lastI; show i + (vsE es).length = s; rw [vsE_len, hlen, hsn]
    rw [this, vsE_app]
    rfl
  rw [e0]
  have hwr : IntKind.u64.wrap ((s : Int) + 1) = (s : Int) + 1 := by show ((s : Int) + 1) % 18446744073709551616 = _; omega
  have HBN := Lib.hid (And.intro hlen hn16)
  clear e0 hq hs hx hin hu hsn hs64 ho hn hn16 ht hneg hxb h16 htop
  go_enter Try.func19, Try.ntmps19
  go_upto_region 1 with fail
  rw [HW.out]
  go_upto_region 4 with (first | (go_at_call 39; refine CL.out.mono ?_; rintro e w2 ⟨rfl, hb2⟩; have HB2 := Lib.hid hb2; clear hb2 c0 c1 c2; obtain ⟨c0, c1, c2⟩ := HQ.out _ HB2.out) | (go_at_call 50; refine (CN.out _ HB2.out).mono ?_; rintro e w3 ⟨rfl, hb3⟩; have HB3 := Lib.hid (HB2.out.trans (hb3.mono HB2.out.size)); clear hb3 c0 c1 c2) | fail)
  obtain ⟨w4, hw4⟩ : ∃ w4, w3.alloc (.cells #[.int .u64 (s : Int), .int .u64 (u : Int)] 24) = w4 := ⟨_, rfl⟩
  have HN4 := Lib.hid (show Bl w4 w3.heap.size 24 (atC s u) by rw [← hw4]; exact Bl.new w3 24 (atC s u))
  have HB4 := Lib.hid (show Below w1.heap.size w1 w4 by rw [← hw4]; exact HB3.out.alloc HB3.out.size _)
  have HG4 := Lib.hid (show w1.heap.size ≤ w3.heap.size from HB3.out.size)
  rw [hw4]
  clear hw4
  obtain ⟨p0, p1, p2⟩ := HP.out _ HB4.out
  go_upto_region 8 with (first | (go_at_call 51; refine (CE.out _ HB4.out).mono ?_; rintro e w5 ⟨rfl, hb5⟩; have HB5 := Lib.hid (HB4.out.trans (hb5.mono HB4.out.size)); have N5 := Lib.hid (HN4.out.below hb5 HN4.out.lt); clear hb5 p0 p1 p2; obtain ⟨c0, c1, c2⟩ := HQ.out _ HB5.out; obtain ⟨p0, p1, p2⟩ := HP.out _ HB5.out; have z0 := N5.out.cell 0; have z1 := N5.out.cell 1; simp only [atC, List.getElem?_cons_zero, List.getElem?_cons_succ] at z0 z1; obtain ⟨⟨r0, r1, r2, r3, r4⟩, f0, f1, f2, f3, f4⟩ := HR.out _ HB5.out) | fail)
  clear d16 dtop dxu hxu
  have HXX := Lib.hid (HX.out _ HB5.out)
  have r1e := fun w => run_one_en w x
  obtain ⟨w6, hw6⟩ : ∃ w6, w5.alloc (.cells #[.int .u64 (x.t : Int), .int .i64 x.k, .slice x.D.a x.D.n x.D.c] 44) = w6 := ⟨_, rfl⟩
  have S6 := one_en HXX.out
  rw [hw6] at S6
  have B6 : Below w5.heap.size w5 w6 := by rw [← hw6]; exact (Below.refl _ _).alloc (Nat.le_refl _) _
  obtain ⟨w7, hw7⟩ : ∃ w7, w6.alloc (.cells #[.slice A n c, .slice (some ⟨w5.heap.size, 0, none⟩) 1 1] 25) = w7 := ⟨_, rfl⟩
  have SL7 := two_ls (((HS.out _ HB5.out).below B6).more B6.size) S6
  rw [hw7] at SL7
  have B7 : Below w5.heap.size w5 w7 := by rw [← hw7]; exact B6.alloc B6.size _
  have SL7d := SL7.below (w' := w7.drew) (Below.refl _ _).drew
  have hcl : (es ++ [x]).length = n + 1 := by rw [List.length_append, HBN.out.1]; rfl
  have CW := Lib.hid (with_any (w := w7.drew) i t (show SqL w7.drew w7.drew.heap.size _ 2 2 _ from SL7d) (by omega) (by rw [catL_two, hcl]; have := HBN.out.2; omega) (by
    rw [catL_two]
    intro y hy
    rcases List.mem_append.1 hy with h | h
    · exact HEB.out y h
    · simp at h
      subst h
      exact HXB.out))
  rw [catL_two, hcl] at CW
  have hz6 : w6.heap.size = w5.heap.size + 1 := by rw [← hw6]; simp
  rw [hz6] at CW
  clear hz6
  have KS : Hid (∀ w', Below w5.heap.size w5 w' → (w'.cell? ⟨w.heap.size, 0, none⟩ = some (.int .u64 (i : Int)) ∧ w'.cell? ⟨w.heap.size, 1, none⟩ = some (.int .u64 (t : Int)) ∧ w'.cell? ⟨w.heap.size, 2, none⟩ = some (.slice A n c) ∧ w'.cell? ⟨w.heap.size + 1, 0, none⟩ = some (.int .u64 (x.t : Int)) ∧ w'.cell? ⟨w.heap.size + 1, 1, none⟩ = some (.int .i64 x.k) ∧ w'.cell? ⟨w.heap.size + 1, 2, none⟩ = some (.slice x.D.a x.D.n x.D.c) ∧ w'.cell? ⟨w3.heap.size, 0, none⟩ = some (.int .u64 (s : Int)) ∧ w'.cell? ⟨w3.heap.size, 1, none⟩ = some (.int .u64 (u : Int)))) := Lib.hid fun w' hw => by
    have h5 := HB5.out.trans (hw.mono HB5.out.size)
    obtain ⟨a0, a1, a2⟩ := HQ.out _ h5
    obtain ⟨b0, b1, b2⟩ := HP.out _ h5
    have N := N5.out.below hw N5.out.lt
    exact ⟨a0, a1, a2, b0, b1, b2, N.cell 0, N.cell 1⟩
  have K0 := Lib.hid (KS.out _ (Below.refl _ _).drew)
  have K6 := Lib.hid (KS.out w6.drew B6.drew)
  have K7 := Lib.hid (KS.out w7.drew B7.drew)
  have HW6 := Lib.hid hw6
  have HW7 := Lib.hid hw7
  have HB7 := Lib.hid B7
  have HNE : Hid ((w.heap.size ≠ w.heap.size + 1 + 1 ∧ w.heap.size + 1 ≠ w.heap.size + 1 + 1 ∧ w3.heap.size ≠ w.heap.size + 1 + 1) ∧ w.heap.size ≠ w.heap.size + 1 + 1 + 1 ∧ w.heap.size + 1 ≠ w.heap.size + 1 + 1 + 1 ∧ w3.heap.size ≠ w.heap.size + 1 + 1 + 1) := Lib.hid (by have := HG4.out; have := HL3.out.lt; exact ⟨⟨by omega, by omega, by omega⟩, by omega, by omega, by omega⟩)
  have FAR := Lib.hid (fun (W : World) (p : Addr) (v : Value) (h1 : w.heap.size ≠ p.block) (h2 : w.heap.size + 1 ≠ p.block) (h3 : w3.heap.size ≠ p.block) (h : W.cell? ⟨w.heap.size, 0, none⟩ = some (.int .u64 (i : Int)) ∧ W.cell? ⟨w.heap.size, 1, none⟩ = some (.int .u64 (t : Int)) ∧ W.cell? ⟨w.heap.size, 2, none⟩ = some (.slice A n c) ∧ W.cell? ⟨w.heap.size + 1, 0, none⟩ = some (.int .u64 (x.t : Int)) ∧ W.cell? ⟨w.heap.size + 1, 1, none⟩ = some (.int .i64 x.k) ∧ W.cell? ⟨w.heap.size + 1, 2, none⟩ = some (.slice x.D.a x.D.n x.D.c) ∧ W.cell? ⟨w3.heap.size, 0, none⟩ = some (.int .u64 (s : Int)) ∧ W.cell? ⟨w3.heap.size, 1, none⟩ = some (.int .u64 (u : Int))) => (show (W.setCell p v).cell? ⟨w.heap.size, 0, none⟩ = some (.int .u64 (i : Int)) ∧ (W.setCell p v).cell? ⟨w.heap.size, 1, none⟩ = some (.int .u64 (t : Int)) ∧ (W.setCell p v).cell? ⟨w.heap.size, 2, none⟩ = some (.slice A n c) ∧ (W.setCell p v).cell? ⟨w.heap.size + 1, 0, none⟩ = some (.int .u64 (x.t : Int)) ∧ (W.setCell p v).cell? ⟨w.heap.size + 1, 1, none⟩ = some (.int .i64 x.k) ∧ (W.setCell p v).cell? ⟨w.heap.size + 1, 2, none⟩ = some (.slice x.D.a x.D.n x.D.c) ∧ (W.setCell p v).cell? ⟨w3.heap.size, 0, none⟩ = some (.int .u64 (s : Int)) ∧ (W.setCell p v).cell? ⟨w3.heap.size, 1, none⟩ = some (.int .u64 (u : Int)) from ⟨cell_far h.1 h1, cell_far h.2.1 h1, cell_far h.2.2.1 h1, cell_far h.2.2.2.1 h2, cell_far h.2.2.2.2.1 h2, cell_far h.2.2.2.2.2.1 h2, cell_far h.2.2.2.2.2.2.1 h3, cell_far h.2.2.2.2.2.2.2 h3⟩))
  clear hw6 hw7 S6 B6 B7 SL7 SL7d hcl c0 c1 c2 p0 p1 p2 z0 z1 r0 r1 r2 r3 r4 f0 f1 f2 f3 f4
  go_region_held3 (fun w' => w'.cell? ⟨w.heap.size, 0, none⟩ = some (.int .u64 (i : Int)) ∧ w'.cell? ⟨w.heap.size, 1, none⟩ = some (.int .u64 (t : Int)) ∧ w'.cell? ⟨w.heap.size, 2, none⟩ = some (.slice A n c) ∧ w'.cell? ⟨w.heap.size + 1, 0, none⟩ = some (.int .u64 (x.t : Int)) ∧ w'.cell? ⟨w.heap.size + 1, 1, none⟩ = some (.int .i64 x.k) ∧ w'.cell? ⟨w.heap.size + 1, 2, none⟩ = some (.slice x.D.a x.D.n x.D.c) ∧ w'.cell? ⟨w3.heap.size, 0, none⟩ = some (.int .u64 (s : Int)) ∧ w'.cell? ⟨w3.heap.size, 1, none⟩ = some (.int .u64 (u : Int)))
    (first | with_reducible exact K0.out | (rw [HW6.out, HW7.out]; with_reducible exact K7.out) | (rw [HW6.out]; with_reducible exact K6.out) | with_reducible exact K8.out | with_reducible exact K9.out | with_reducible exact K10.out | fail)
    (first
      | (go_at_call 43; go_loud (rw [HW6.out, HW7.out]); go_loud (with_reducible refine Calls.mono CW.out ?_); go_loud (rintro e w8 ⟨⟨A8, c8, l8, rfl, ho8, hv8⟩, hb8⟩); go_loud (have hb58 := HB7.out.drew.trans (hb8.mono (show w5.heap.size ≤ w7.drew.heap.size from HB7.out.size))); go_loud (have HB8 := Lib.hid (HB5.out.trans (hb58.mono HB5.out.size))); go_loud (have HO8 := Lib.hid (ho8.base_ (base' := w1.heap.size) (Nat.le_trans HB5.out.size HB7.out.size))); go_loud (have HV8 := Lib.hid hv8); go_loud (have K8 := Lib.hid (KS.out _ hb58)); go_loud (have K9 := Lib.hid (FAR.out _ ⟨w.heap.size + 1 + 1, 2, none⟩ (.slice A8 (n + 1) c8) HNE.out.1.1 HNE.out.1.2.1 HNE.out.1.2.2 (FAR.out _ ⟨w.heap.size + 1 + 1, 1, none⟩ (.int .u64 (t : Int)) HNE.out.1.1 HNE.out.1.2.1 HNE.out.1.2.2 (FAR.out _ ⟨w.heap.size + 1 + 1, 0, none⟩ (.int .u64 (i : Int)) HNE.out.1.1 HNE.out.1.2.1 HNE.out.1.2.2 K8.out)))); go_loud (have K10 := Lib.hid (FAR.out _ ⟨w.heap.size + 1 + 1 + 1, 1, none⟩ (.int .u64 (x.t : Int)) HNE.out.2.1 HNE.out.2.2.1 HNE.out.2.2.2 (FAR.out _ ⟨w.heap.size + 1 + 1 + 1, 0, none⟩ (.int .u64 ((s : Int) + 1)) HNE.out.2.1 HNE.out.2.2.1 HNE.out.2.2.2 K9.out))); go_loud (clear hb58 ho8 hv8 hb8); go_loud (obtain ⟨⟨r0, r1, r2, r3, r4⟩, f0, f1, f2, f3, f4⟩ := HR.out _ HB8.out))
      | fail)
  go_wp2_with fail
  obtain ⟨R1, R2, R3⟩ := res5 (HL2.out.below HB8.out HL2.out.lt) (HL3.out.below HB8.out HL3.out.lt) (HB1.out.trans (HB8.out.mono HB1.out.size)) HF.out.1 HF.out.2 i t A8 (n + 1) c8 (s + 1) x.t
  exact ends_append _ _ _ i t A8 (n + 1) c8 (s + 1) x.t 0 rfl rfl rfl R1 R2 ⟨⟨_, rfl, A8, n + 1, c8, l8, rfl, (((HO8.out.far' (HL2.out.below HB8.out HL2.out.lt) HL2.out.lt _ _ _).far1 (p := ⟨w.heap.size + 1 + 1 + 1, 0, none⟩) HL3.out.lt _).far1 (p := ⟨w.heap.size + 1 + 1 + 1, 1, none⟩) HL3.out.lt _).base_ HB1.out.size, HV8.out⟩, R3⟩
end Go.Proofs.Ytgdcahakefmakaa
