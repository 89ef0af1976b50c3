/-
  OBJECTS: Decode, and that its lists are its own.
-/
import Derived.Test.YtcofkhmgmemkmaaGreatDoorK38
namespace Go.Proofs.YtcofkhmgmemkmaaGreatDoor
set_option linter.unusedVariables false
set_option linter.unusedSimpArgs false
open Go.RowKit Go.WideShapes Go.ChangeShapes Go.Deep Go.Shelf
attribute [local irreducible] wpQuiet

/-- What comes out, with its rows. -/
structure ObjOwn (w : World) (g : Nat) (v : Value) (x : Ov) (s : St) (w' : World) : Prop where
  ob : ∃ L P E, v = ofV (x.at_ L P E) ∧ Obj3 w' w'.heap.size x L P E ∧ Lim L P E ∧ (∀ W', w'.heap.size ≤ W'.heap.size → (∀ i, w.heap.size ≤ i → i < w'.heap.size → W'.heap[i]? = w'.heap[i]?) → Obj3 W' W'.heap.size x L P E ∧ OwnO W' w.heap.size x L P E)
  r : RdS w' g s
  gr : w.grownBy w' (some g)
theorem Oq.fin2 {w : World} {g X : Nat} {s : St} {L P E : Sl} {W : World} {x : Ov} (h : Oq w g X s (x.at_ L P E) x.lv L x.ps P x.es E W) (hL : L.n ≤ 100000) (hP : P.n ≤ 100000) (hE : E.n ≤ 100000) (kb : -9223372036854775808 ≤ x.kind ∧ x.kind ≤ 9223372036854775807) (sb : -9223372036854775808 ≤ x.style ∧ x.style ≤ 9223372036854775807) (nb : x.num < 4294967296) (ab : x.auth < 4294967296) :
    ObjOwn w g (ofV (x.at_ L P E)) x s (W.setCells (w.heap.size + 1) 0 (x.at_ L P E).cells) := by
  obtain ⟨cs, f, hc⟩ := h.y.ty
  have hg := grown_setCells W (w.heap.size + 1) 0 (x.at_ L P E).cells
  have hgl := h.g
  have o1 := own_other h.l hc (by decide) hg
  have o2 := own_other h.p hc (by decide) hg
  have o3 := own_other h.e hc (by decide) hg
  refine ⟨⟨L, P, E, rfl, ⟨own_sq o1 lf_sz (by omega), own_sq o2 id_sz (by omega), own_sq o3 chr_sz (by omega), kb, sb, nb, ab⟩, ⟨hL, hP, hE⟩, fun W' hs hk => ?_⟩, ⟨h.r.1.keep fun k hk => hg.block k (by have := h.r.1.lt; omega) (by simp <;> omega), h.r.2⟩, ?_⟩
  · have q : OwnO W' w.heap.size x L P E := ⟨own_keep o1 fun b e => hk b (own_ty o1 b e).1 (own_ty o1 b e).2.1, own_keep o2 fun b e => hk b (own_ty o2 b e).1 (own_ty o2 b e).2.1, own_keep o3 fun b e => hk b (own_ty o3 b e).1 (own_ty o3 b e).2.1⟩
    exact ⟨q.obj ⟨kb, sb, nb, ab⟩, q⟩
  · exact only_then h.gr ⟨hg.os, hg.tape, hg.output, hg.size, fun i hi => hg.block i (by have := h.gr.size; omega) (by simp <;> omega)⟩
/-- An object that is answered, in rows of one's own. -/
structure ObjRes2 (v : Value) (x : Ov) (base : Nat) (w' : World) : Prop where
  ob : ∃ L P E, v = ofV (x.at_ L P E) ∧ Obj3 w' w'.heap.size x L P E ∧ Lim L P E ∧ OwnO w' base x L P E
theorem ObjRes2.zero (b : Nat) (w : World) : ObjRes2 (ofV zOf) zOv b w := ⟨nSl, nSl, nSl, rfl, z_ok, ⟨by decide, by decide, by decide⟩, ⟨World.ownsRow_nil _ _ _ _, World.ownsRow_nil _ _ _ _, World.ownsRow_nil _ _ _ _⟩⟩
set_option maxRecDepth 100000 in
set_option maxHeartbeats 8000000 in
theorem objr_own {w : World} {g : Nat} {s : St} (h : RdS w g s) :
    Calls Tryz.prog 14 #[.agg #[S3.rp g]] w fun x w' => ∃ v, x = .returned v ∧ ObjOwn w g v (objR s).1 (objR s).2 w' := by
  have hgl := h.1.lt
  obtain ⟨zz, hzz⟩ : ∃ z, zOf = z := ⟨_, rfl⟩
  have ZO : Hid (∀ w : World, (zeroValue 34).run Tryz.prog w = .ok (.agg zz.cells.toArray) w) := Lib.hid (by rw [← hzz]; exact zero_of)
  obtain ⟨w1, hw1⟩ : ∃ w1, w.alloc (.cells #[S3.rp g] 58) = w1 := ⟨_, rfl⟩
  have s1 : w1.heap.size = w.heap.size + 1 := by rw [← hw1]; simp
  obtain ⟨w2, hw2⟩ : ∃ w2, w1.alloc (.cells zz.cells.toArray 34) = w2 := ⟨_, rfl⟩
  have s2 : w2.heap.size = w.heap.size + 2 := by rw [← hw2]; simp; omega
  have b1 : Below w.heap.size w w1 := by rw [← hw1]; exact (Below.refl _ _).alloc (Nat.le_refl _) _
  have b12 : Below w1.heap.size w1 w2 := by rw [← hw2]; exact (Below.refl _ _).alloc (Nat.le_refl _) _
  have B2 : Hid (Below w.heap.size w w2) := Lib.hid (b1.trans (b12.mono b1.size))
  have K2 : w2.cell? ⟨w.heap.size, 0, none⟩ = some (S3.rp g) := by
    refine (World.cell?_of_block (b12.block w.heap.size (by omega))).trans ?_
    rw [← hw1]; exact (Boxed.new w 58 (S3.rp g)).cell
  have Y2 : Hid (Lt w2 (w.heap.size + 1) 34 73 zOf.cells) := Lib.hid (by
    have h1 := Lies.new w1 zOf.cells 34
    have h2 := heap_alloc_new w1 (.cells zOf.cells.toArray 34)
    rw [of_sz] at h1
    rw [hzz, hw2, s1] at h1 h2
    rw [hzz]
    exact ⟨h1, _, _, h2⟩)
  have R2 : Hid (RdS w2 g s) := Lib.hid (h.below B2.out)
  obtain ⟨q, hq⟩ : ∃ q, s.num 1 = q := ⟨_, rfl⟩
  have hq8 : q < 256 := by rw [← hq]; exact num_le _ _
  obtain ⟨su, hsu⟩ : ∃ v, s.s 1 = v := ⟨_, rfl⟩
  have CU : Hid (∀ W, RdS W g s → Calls Tryz.prog 28 #[S3.rp g] W fun x w' => x = .returned (.int .u8 (q : Int)) ∧ RdS w' g su ∧ W.grownBy w' (some g)) := Lib.hid fun W hW => by
    rw [← hq, ← hsu]; exact (S3.take_u8 hW.1).mono fun e w' h => ⟨h.1, ⟨h.2.1, Nat.le_trans (s_len s 1) hW.2⟩, h.2.2⟩
  obtain ⟨R, hR⟩ : ∃ R, objR s = R := ⟨_, rfl⟩
  have HR : Hid ((if q = 1 then ({ kOv 1 with text := textV su }, textS su)
    else if q = 2 then ({ kOv 2 with lv := itL leafR (su.num 1) (su.s 1) }, itS leafR (su.num 1) (su.s 1))
    else if q = 3 then comR su
    else (kOv q, su)) = R) := Lib.hid (by rw [← hR, ← hq, ← hsu]; rfl)
  rw [hR]
  have hwr : IntKind.i64.wrap (q : Int) = (q : Int) := IntWalk.i64_in _ (by omega)
  have HW1 := Lib.hid hw1
  have HW2 := Lib.hid hw2
  have HZZ := Lib.hid hzz
  clear hw1 hw2 b1 b12 h hq hsu hR hzz
  go_enter Tryz.func14, Tryz.ntmps14
  go_upto_region 1 with (first
    | ((with_reducible refine alt 34 ?_ ?_ zz.cells ZO.out ?_); rfl; rfl; rw [HW1.out, HW2.out]; (try simp only [Act.put, List.setIfInBounds_toArray, List.set_cons_succ, List.set_cons_zero, s1]))
    | fail)
  go_wp2_with fail
  refine (CU.out w2 R2.out).mono ?_
  rintro e w3 ⟨rfl, hR3, hG3⟩
  dsimp only
  obtain ⟨ko, hko⟩ : ∃ o, (kOv (q : Int)).at_ nSl nSl nSl = o := ⟨_, rfl⟩
  have BK : Hid (Tryz.prog.built 34 [(0, .int .i64 (q : Int))] = some ko.cells.toArray) := Lib.hid (by rw [← hko]; exact kq_built q)
  have KO1 : Hid (ko.lv.oneCell' = true ∧ ko.pv.oneCell' = true ∧ ko.ev.oneCell' = true) := Lib.hid (by rw [← hko]; exact ⟨rfl, rfl, rfl⟩)
  obtain ⟨wA, hwA⟩ : ∃ wA, w3.alloc (.cells zz.cells.toArray 34) = wA := ⟨_, rfl⟩
  have YA : Lies wA w3.heap.size 73 zz.cells := by
    rw [← hwA]
    have := Lies.new w3 zz.cells 34
    rwa [of_sz] at this
  obtain ⟨w4, hw4⟩ : ∃ w4, wA.setCells w3.heap.size 0 ko.cells = w4 := ⟨_, rfl⟩
  have z3 := hG3.size
  have O4 : Hid (Oq w g w3.heap.size su ko [] nSl [] nSl [] nSl w4) := Lib.hid (by
    have b34 : Below w3.heap.size w3 w4 := by rw [← hw4, ← hwA]; exact below_setCells ((Below.refl _ _).alloc (Nat.le_refl _) _) (Nat.le_refl _) _ _
    have g24 := only_then hG3 (b34.mono z3)
    have Y3 := Y2.out.at_ (hG3.block _ (by omega) (by simp <;> omega)) z3
    exact ⟨by rw [← hw4, ← hwA]; exact Lt.made w3 _ (of_sz _) (of_sz _), hR3.below b34, S3.only_trans (S3.only_of_below B2.out _) g24, World.ownsRow_nil _ _ _ _, World.ownsRow_nil _ _ _ _, World.ownsRow_nil _ _ _ _, Y3.bl b34, cell_grown g24 (by omega) (by omega) K2, by omega, hgl⟩)
  have HWA := Lib.hid hwA
  have HW4 := Lib.hid hw4
  have TA := Lib.hid YA.th
  have HKO := Lib.hid hko
  clear hwA hw4 YA hR3 hG3 K2 hko
  go_upto_region 2 with (first
    | ((with_reducible refine bdt 34 [(0, .tmp 7)] ?_ ?_ ko.cells.toArray ?_ ?_); rfl; rfl; exact BK.out)
    | ((with_reducible refine alt 34 ?_ ?_ zz.cells ZO.out ?_); rfl; rfl; rw [HWA.out]; (try simp only [Act.put, List.setIfInBounds_toArray, List.set_cons_succ, List.set_cons_zero]))
    | ((with_reducible refine sto (.tmp 3) (.tmp 8) ?_ ?_ w3.heap.size 0 ko ?_ ?_ TA.out KO1.out.1 KO1.out.2.1 KO1.out.2.2 ?_); rfl; rfl; rfl; rfl; rw [HW4.out]; (try simp only [Act.put]))
    | fail)
  obtain ⟨X, hX⟩ : ∃ X, w3.heap.size = X := ⟨_, rfl⟩
  rw [hX] at O4 ⊢
  clear hX z3 TA HWA HW4
  have x0 : w4.cell? ⟨X, 0, none⟩ = some (.int .i64 (q : Int)) := by
    have := (of_lies O4.out.lt.ls).1
    rw [← HKO.out] at this
    exact this
  have k4 := O4.out.k
  by_cases h1 : q = 1
  · skip
    have e1 : ((q : Int) == 1) = true := by rw [beq_iff_eq]; omega
    obtain ⟨tv, htv⟩ : ∃ v, textV su = v := ⟨_, rfl⟩
    have CT : Hid (∀ W, RdS W g su → Calls Tryz.prog 29 #[.agg #[S3.rp g]] W fun x w' => x = .returned (.string tv) ∧ RdS w' g (textS su) ∧ W.grownBy w' (some g)) := Lib.hid fun W hW => by rw [← htv]; exact text_any hW
    go_wp2_with fail
    refine (CT.out w4 O4.out.r).mono ?_
    rintro e w5 ⟨rfl, hR5, hG5⟩
    dsimp only
    have O5 := Lib.hid ((O4.out.call hG5 hR5))
    clear hR5 hG5
    clear x0 k4
    have c5 := (of_lies O5.out.lt.ls).2.1
    have f5 := O5.out.lt.ls.frozen (j := 1) (by omega)
    go_upto_region 16 with fail
    obtain ⟨o6, ho6⟩ : ∃ o, ({ ko with text := tv } : Of) = o := ⟨_, rfl⟩
    obtain ⟨w6, hw6⟩ : ∃ wy, w5.setCell ⟨X, 1, none⟩ (.string tv) = wy := ⟨_, rfl⟩
    have O6 := Lib.hid (O5.out.set1 (o' := o6) 1 (.string tv) (by rw [← ho6]; exact rfl))
    rw [hw6] at O6 ⊢
    have Ho6 := Lib.hid ho6
    clear ho6 hw6 c5 f5
    have HXO : Hid (({ kOv (q : Int) with text := tv }).at_ nSl nSl nSl = o6) := Lib.hid (by rw [← Ho6.out, ← HKO.out]; rfl)
    have HRR : Hid (({ kOv (q : Int) with text := tv }, (textS su)) = R) := Lib.hid (by rw [← HR.out, if_pos h1, htv, h1]; rfl)
    have FN : Hid (ObjOwn w g (ofV o6) ({ kOv (q : Int) with text := tv }) (textS su) (w6.setCells (w.heap.size + 1) 0 o6.cells)) := Lib.hid (by
      have h := O6.out
      rw [← HXO.out] at h ⊢
      exact h.fin2 (x := { kOv (q : Int) with text := tv }) (by decide) (by decide) (by decide) ⟨by show _ ≤ (q : Int); omega, by show (q : Int) ≤ _; omega⟩ ⟨(by show (-9223372036854775808 : Int) ≤ 0; decide), (by show (0 : Int) ≤ 9223372036854775807; decide)⟩ (by show 0 < 4294967296; decide) (by show 0 < 4294967296; decide))
    have OO : Hid (o6.lv.oneCell' = true ∧ o6.pv.oneCell' = true ∧ o6.ev.oneCell' = true) := Lib.hid (by rw [← HXO.out]; exact ⟨rfl, rfl, rfl⟩)
    have RGz := Lib.hid O6.out.lt.ls.rg
    have Tz := Lib.hid O6.out.y.ls.th
    obtain ⟨wz, hwz⟩ : ∃ wz, w6.setCells (w.heap.size + 1) 0 o6.cells = wz := ⟨_, rfl⟩
    have NZ : Hid (wz.rangeAt (w.heap.size + 1) 0 o6.cells) := Lib.hid (by rw [← hwz]; exact (O6.out.y.ls.set_ (of_sz _)).rg)
    rw [hwz] at FN
    have HWZ := Lib.hid hwz
    clear hwz
    go_wp2_with (first
      | ((with_reducible refine ldo (.tmp 3) ?_ ?_ X 0 o6 ?_ RGz.out ?_); rfl; rfl; rfl)
      | ((with_reducible refine sto (.tmp 2) (.tmp 58) ?_ ?_ (w.heap.size + 1) 0 o6 ?_ ?_ Tz.out OO.out.1 OO.out.2.1 OO.out.2.2 ?_); rfl; rfl; rfl; rfl; rw [HWZ.out])
      | fail)
    exact bodyPost_ret (res_ob1 rfl _ _ (w.heap.size + 1) o6 rfl NZ.out) rfl ⟨_, rfl, by rw [← HRR.out]; exact FN.out⟩
  by_cases h2 : q = 2
  · skip
    have e1 : ((q : Int) == 1) = false := by rw [Bool.eq_false_iff]; simp only [ne_eq, beq_iff_eq]; omega
    have e2 : ((q : Int) == 2) = true := by rw [beq_iff_eq]; omega
    have hnl : su.num 1 < 256 := num_le _ _
    go_wp2_with fail
    refine (rowsL_any O4.out.r).mono ?_
    rintro e w5 ⟨A5, d5, rfl, hO5, hR5, hG5⟩
    dsimp only
    have O5 := Lib.hid ((O4.out.call hG5 hR5).rowL O4.out.gr.size hO5)
    clear hR5 hG5
    clear x0 k4 hO5
    obtain ⟨nl, hnl'⟩ : ∃ n, su.num 1 = n := ⟨_, rfl⟩
    rw [hnl'] at O5 hnl ⊢
    have c5 := (of_lies O5.out.lt.ls).2.2.1
    have f5 := O5.out.lt.ls.frozen (j := 2) (by omega)
    go_upto_region 16 with fail
    obtain ⟨o6, ho6⟩ : ∃ o, ({ ko with lv := .slice A5 nl d5 } : Of) = o := ⟨_, rfl⟩
    obtain ⟨w6, hw6⟩ : ∃ wy, w5.setCell ⟨X, 2, none⟩ (.slice A5 nl d5) = wy := ⟨_, rfl⟩
    have O6 := Lib.hid (O5.out.set1 (o' := o6) 2 (.slice A5 nl d5) (by rw [← ho6]; exact rfl))
    rw [hw6] at O6 ⊢
    have Ho6 := Lib.hid ho6
    clear ho6 hw6 c5 f5
    have HXO : Hid (({ kOv (q : Int) with lv := itL leafR nl (su.s 1) }).at_ ⟨A5, nl, d5⟩ nSl nSl = o6) := Lib.hid (by rw [← Ho6.out, ← HKO.out]; rfl)
    have HRR : Hid (({ kOv (q : Int) with lv := itL leafR nl (su.s 1) }, (itS leafR nl (su.s 1))) = R) := Lib.hid (by rw [← HR.out, if_neg h1, if_pos h2, hnl', h2]; rfl)
    have FN : Hid (ObjOwn w g (ofV o6) ({ kOv (q : Int) with lv := itL leafR nl (su.s 1) }) (itS leafR nl (su.s 1)) (w6.setCells (w.heap.size + 1) 0 o6.cells)) := Lib.hid (by
      have h := O6.out
      rw [← HXO.out] at h ⊢
      exact h.fin2 (x := { kOv (q : Int) with lv := itL leafR nl (su.s 1) }) (by show nl ≤ 100000; omega) (by decide) (by decide) ⟨by show _ ≤ (q : Int); omega, by show (q : Int) ≤ _; omega⟩ ⟨(by show (-9223372036854775808 : Int) ≤ 0; decide), (by show (0 : Int) ≤ 9223372036854775807; decide)⟩ (by show 0 < 4294967296; decide) (by show 0 < 4294967296; decide))
    have OO : Hid (o6.lv.oneCell' = true ∧ o6.pv.oneCell' = true ∧ o6.ev.oneCell' = true) := Lib.hid (by rw [← HXO.out]; exact ⟨rfl, rfl, rfl⟩)
    have RGz := Lib.hid O6.out.lt.ls.rg
    have Tz := Lib.hid O6.out.y.ls.th
    obtain ⟨wz, hwz⟩ : ∃ wz, w6.setCells (w.heap.size + 1) 0 o6.cells = wz := ⟨_, rfl⟩
    have NZ : Hid (wz.rangeAt (w.heap.size + 1) 0 o6.cells) := Lib.hid (by rw [← hwz]; exact (O6.out.y.ls.set_ (of_sz _)).rg)
    rw [hwz] at FN
    have HWZ := Lib.hid hwz
    clear hwz
    go_wp2_with (first
      | ((with_reducible refine ldo (.tmp 3) ?_ ?_ X 0 o6 ?_ RGz.out ?_); rfl; rfl; rfl)
      | ((with_reducible refine sto (.tmp 2) (.tmp 58) ?_ ?_ (w.heap.size + 1) 0 o6 ?_ ?_ Tz.out OO.out.1 OO.out.2.1 OO.out.2.2 ?_); rfl; rfl; rfl; rfl; rw [HWZ.out])
      | fail)
    exact bodyPost_ret (res_ob1 rfl _ _ (w.heap.size + 1) o6 rfl NZ.out) rfl ⟨_, rfl, by rw [← HRR.out]; exact FN.out⟩
  by_cases h3 : q = 3
  · skip
    have e1 : ((q : Int) == 1) = false := by rw [Bool.eq_false_iff]; simp only [ne_eq, beq_iff_eq]; omega
    have e2 : ((q : Int) == 2) = false := by rw [Bool.eq_false_iff]; simp only [ne_eq, beq_iff_eq]; omega
    have e3 : ((q : Int) == 3) = true := by rw [beq_iff_eq]; omega
    obtain ⟨n1, hn1⟩ : ∃ v, su.num 1 = v := ⟨_, rfl⟩
    have n1l : n1 < 256 := by rw [← hn1]; exact num_le _ _
    have hwr1 : IntKind.i64.wrap (n1 : Int) = (n1 : Int) := IntWalk.i64_in _ (by omega)
    obtain ⟨t1, ht1⟩ : ∃ v, su.s 1 = v := ⟨_, rfl⟩
    obtain ⟨i1, hi1⟩ : ∃ v, idT t1 = v := ⟨_, rfl⟩
    obtain ⟨t2, ht2⟩ : ∃ v, t1.s 32 = v := ⟨_, rfl⟩
    obtain ⟨np, hnp⟩ : ∃ v, t2.num 1 = v := ⟨_, rfl⟩
    have npl : np < 256 := by rw [← hnp]; exact num_le _ _
    obtain ⟨lp, hlp⟩ : ∃ v, itL idR np (t2.s 1) = v := ⟨_, rfl⟩
    obtain ⟨t3, ht3⟩ : ∃ v, itS idR np (t2.s 1) = v := ⟨_, rfl⟩
    obtain ⟨i3, hi3⟩ : ∃ v, idT t3 = v := ⟨_, rfl⟩
    obtain ⟨t4, ht4⟩ : ∃ v, t3.s 32 = v := ⟨_, rfl⟩
    obtain ⟨ne, hne⟩ : ∃ v, t4.num 1 = v := ⟨_, rfl⟩
    have nel : ne < 256 := by rw [← hne]; exact num_le _ _
    obtain ⟨le, hle⟩ : ∃ v, itL chgR ne (t4.s 1) = v := ⟨_, rfl⟩
    obtain ⟨t5, ht5⟩ : ∃ v, itS chgR ne (t4.s 1) = v := ⟨_, rfl⟩
    obtain ⟨nn, hnn⟩ : ∃ v, t5.num 4 = v := ⟨_, rfl⟩
    have nnl : nn < 4294967296 := by rw [← hnn]; exact num_le _ _
    obtain ⟨t6, ht6⟩ : ∃ v, t5.s 4 = v := ⟨_, rfl⟩
    obtain ⟨na, hna⟩ : ∃ v, t6.num 4 = v := ⟨_, rfl⟩
    have nal : na < 4294967296 := by rw [← hna]; exact num_le _ _
    obtain ⟨t7, ht7⟩ : ∃ v, t6.s 4 = v := ⟨_, rfl⟩
    obtain ⟨wv, hwv⟩ : ∃ v, wordV t7 = v := ⟨_, rfl⟩
    obtain ⟨s8, hs8⟩ : ∃ v, wordS t7 = v := ⟨_, rfl⟩
    have HCR : Hid (comR su = ((⟨3, ⟨#[]⟩, [], (n1 : Int), i1, i3, lp, le, nn, na, wv⟩ : Ov), s8)) := Lib.hid (by rw [← hs8, ← hwv, ← ht7, ← hna, ← ht6, ← hnn, ← ht5, ← hle, ← hne, ← ht4, ← hi3, ← ht3, ← hlp, ← hnp, ← ht2, ← hi1, ← ht1, ← hn1]; rfl)
    have CU1 : Hid (∀ W, RdS W g su → Calls Tryz.prog 28 #[S3.rp g] W fun x w' => x = .returned (.int .u8 (n1 : Int)) ∧ RdS w' g t1 ∧ W.grownBy w' (some g)) := Lib.hid fun W hW => by rw [← hn1, ← ht1]; exact (S3.take_u8 hW.1).mono fun e w' h => ⟨h.1, ⟨h.2.1, Nat.le_trans (s_len su 1) hW.2⟩, h.2.2⟩
    have CI1 : Hid (∀ W, RdS W g t1 → Calls Tryz.prog 32 #[.agg #[S3.rp g]] W fun x w' => x = .returned (idV i1) ∧ RdS w' g t2 ∧ W.grownBy w' (some g)) := Lib.hid fun W hW => by rw [← hi1, ← ht2]; exact idr_any hW
    have CP : Hid (∀ W, RdS W g t2 → Calls Tryz.prog 33 #[.agg #[S3.rp g], .func (.func 32) #[.agg #[S3.rp g]] #[]] W fun x w' => ∃ A c, x = .returned (.slice A np c) ∧ w'.ownsRow W.heap.size 27 32 (.slice A np c) np (lp.flatMap Idv.cells) ∧ RdS w' g t3 ∧ W.grownBy w' (some g)) := Lib.hid fun W hW => by rw [← ht3, ← hlp, ← hnp]; exact rowsI_any hW
    have CI3 : Hid (∀ W, RdS W g t3 → Calls Tryz.prog 32 #[.agg #[S3.rp g]] W fun x w' => x = .returned (idV i3) ∧ RdS w' g t4 ∧ W.grownBy w' (some g)) := Lib.hid fun W hW => by rw [← hi3, ← ht4]; exact idr_any hW
    have CE : Hid (∀ W, RdS W g t4 → Calls Tryz.prog 34 #[.agg #[S3.rp g], .func (.func 35) #[.agg #[S3.rp g]] #[]] W fun x w' => ∃ A c, x = .returned (.slice A ne c) ∧ w'.ownsRow W.heap.size 71 3 (.slice A ne c) ne (le.flatMap Ch.cells) ∧ RdS w' g t5 ∧ W.grownBy w' (some g)) := Lib.hid fun W hW => by rw [← ht5, ← hle, ← hne]; exact rowsC_any hW
    have CN : Hid (∀ W, RdS W g t5 → Calls Tryz.prog 36 #[S3.rp g] W fun x w' => x = .returned (.int .u32 (nn : Int)) ∧ RdS w' g t6 ∧ W.grownBy w' (some g)) := Lib.hid fun W hW => by rw [← hnn, ← ht6]; exact (S3.take_u32 hW.1).mono fun e w' h => ⟨h.1, ⟨h.2.1, Nat.le_trans (s_len t5 4) hW.2⟩, h.2.2⟩
    have CA : Hid (∀ W, RdS W g t6 → Calls Tryz.prog 36 #[S3.rp g] W fun x w' => x = .returned (.int .u32 (na : Int)) ∧ RdS w' g t7 ∧ W.grownBy w' (some g)) := Lib.hid fun W hW => by rw [← hna, ← ht7]; exact (S3.take_u32 hW.1).mono fun e w' h => ⟨h.1, ⟨h.2.1, Nat.le_trans (s_len t6 4) hW.2⟩, h.2.2⟩
    have CW : Hid (∀ W, RdS W g t7 → Calls Tryz.prog 37 #[.agg #[S3.rp g]] W fun x w' => x = .returned (.string wv) ∧ RdS w' g s8 ∧ W.grownBy w' (some g)) := Lib.hid fun W hW => by rw [← hwv, ← hs8]; exact word_any hW
    clear hn1 ht1 hi1 ht2 hnp hlp ht3 hi3 ht4 hne hle ht5 hnn ht6 hna ht7 hwv hs8
    go_wp2_with fail
    refine (CU1.out w4 O4.out.r).mono ?_
    rintro e w5 ⟨rfl, hR5, hG5⟩
    dsimp only
    have O5 := Lib.hid ((O4.out.call hG5 hR5))
    clear hR5 hG5
    clear x0 k4
    have c5 := (of_lies O5.out.lt.ls).2.2.2.1
    have f5 := O5.out.lt.ls.frozen (j := 3) (by omega)
    go_upto_region 9 with fail
    obtain ⟨o6, ho6⟩ : ∃ o, ({ ko with style := (n1 : Int) } : Of) = o := ⟨_, rfl⟩
    obtain ⟨w6, hw6⟩ : ∃ wy, w5.setCell ⟨X, 3, none⟩ (.int .i64 (n1 : Int)) = wy := ⟨_, rfl⟩
    have O6 := Lib.hid (O5.out.set1 (o' := o6) 3 (.int .i64 (n1 : Int)) (by rw [← ho6]; exact rfl))
    rw [hw6] at O6 ⊢
    have Ho6 := Lib.hid ho6
    clear ho6 hw6 c5 f5
    have k6 := O6.out.k
    go_wp2_with fail
    refine (CI1.out w6 O6.out.r).mono ?_
    rintro e w7 ⟨rfl, hR7, hG7⟩
    dsimp only
    have O7 := Lib.hid ((O6.out.call hG7 hR7))
    clear hR7 hG7
    clear k6
    obtain ⟨o8, ho8⟩ : ∃ o, ({ o6 with tree := i1 } : Of) = o := ⟨_, rfl⟩
    obtain ⟨w8, hw8⟩ : ∃ wy, w7.setCells X 4 i1.cells = wy := ⟨_, rfl⟩
    have O8 := Lib.hid (O7.out.setn (o' := o8) 4 i1.cells (by rw [id_sz]; omega) (by rw [← ho8]; exact of_tree o6 i1))
    rw [hw8] at O8
    have Ho8 := Lib.hid ho8
    have HWW8 := Lib.hid hw8
    have TH7 : Hid (w7.there X 4 32) := Lib.hid (th_mid O7.out.lt.ls.th (by omega))
    clear ho8 hw8
    go_upto_region 10 with (first | ((with_reducible refine sti (.tmp 32) (.tmp 31) ?_ ?_ X 4 i1 ?_ ?_ TH7.out ?_); rfl; rfl; rfl; rfl; rw [HWW8.out]; (try simp only [Act.put])) | fail)
    have k8 := O8.out.k
    go_wp2_with fail
    refine (CP.out w8 O8.out.r).mono ?_
    rintro e w9 ⟨A9, d9, rfl, hO9, hR9, hG9⟩
    dsimp only
    have O9 := Lib.hid ((O8.out.call hG9 hR9).rowI O8.out.gr.size hO9)
    clear hR9 hG9
    clear k8 hO9
    have c9 := (of_lies O9.out.lt.ls).2.2.2.2.2.2.1
    have f9 := O9.out.lt.ls.frozen (j := 68) (by omega)
    go_upto_region 11 with fail
    obtain ⟨oa, hoa⟩ : ∃ o, ({ o8 with pv := .slice A9 np d9 } : Of) = o := ⟨_, rfl⟩
    obtain ⟨w10, hw10⟩ : ∃ wy, w9.setCell ⟨X, 68, none⟩ (.slice A9 np d9) = wy := ⟨_, rfl⟩
    have O10 := Lib.hid (O9.out.set1 (o' := oa) 68 (.slice A9 np d9) (by rw [← hoa]; exact of_pv o8 _))
    rw [hw10] at O10 ⊢
    have Hoa := Lib.hid hoa
    clear hoa hw10 c9 f9
    have k10 := O10.out.k
    go_wp2_with fail
    refine (CI3.out w10 O10.out.r).mono ?_
    rintro e w11 ⟨rfl, hR11, hG11⟩
    dsimp only
    have O11 := Lib.hid ((O10.out.call hG11 hR11))
    clear hR11 hG11
    clear k10
    obtain ⟨ob, hob⟩ : ∃ o, ({ oa with base := i3 } : Of) = o := ⟨_, rfl⟩
    obtain ⟨w12, hw12⟩ : ∃ wy, w11.setCells X 36 i3.cells = wy := ⟨_, rfl⟩
    have O12 := Lib.hid (O11.out.setn (o' := ob) 36 i3.cells (by rw [id_sz]; omega) (by rw [← hob]; exact of_base oa i3))
    rw [hw12] at O12
    have Hob := Lib.hid hob
    have HWW12 := Lib.hid hw12
    have TH11 : Hid (w11.there X 36 32) := Lib.hid (th_mid O11.out.lt.ls.th (by omega))
    clear hob hw12
    go_upto_region 12 with (first | ((with_reducible refine sti (.tmp 40) (.tmp 39) ?_ ?_ X 36 i3 ?_ ?_ TH11.out ?_); rfl; rfl; rfl; rfl; rw [HWW12.out]; (try simp only [Act.put])) | fail)
    have k12 := O12.out.k
    go_wp2_with fail
    refine (CE.out w12 O12.out.r).mono ?_
    rintro e w13 ⟨A13, d13, rfl, hO13, hR13, hG13⟩
    dsimp only
    have O13 := Lib.hid ((O12.out.call hG13 hR13).rowC O12.out.gr.size hO13)
    clear hR13 hG13
    clear k12 hO13
    have c13 := (of_lies O13.out.lt.ls).2.2.2.2.2.2.2.1
    have f13 := O13.out.lt.ls.frozen (j := 69) (by omega)
    go_upto_region 13 with fail
    obtain ⟨oc, hoc⟩ : ∃ o, ({ ob with ev := .slice A13 ne d13 } : Of) = o := ⟨_, rfl⟩
    obtain ⟨w14, hw14⟩ : ∃ wy, w13.setCell ⟨X, 69, none⟩ (.slice A13 ne d13) = wy := ⟨_, rfl⟩
    have O14 := Lib.hid (O13.out.set1 (o' := oc) 69 (.slice A13 ne d13) (by rw [← hoc]; exact of_ev ob _))
    rw [hw14] at O14 ⊢
    have Hoc := Lib.hid hoc
    clear hoc hw14 c13 f13
    have k14 := O14.out.k
    go_wp2_with fail
    refine (CN.out w14 O14.out.r).mono ?_
    rintro e w15 ⟨rfl, hR15, hG15⟩
    dsimp only
    have O15 := Lib.hid ((O14.out.call hG15 hR15))
    clear hR15 hG15
    clear k14
    have c15 := (of_lies O15.out.lt.ls).2.2.2.2.2.2.2.2.1
    have f15 := O15.out.lt.ls.frozen (j := 70) (by omega)
    go_upto_region 14 with fail
    obtain ⟨od, hod⟩ : ∃ o, ({ oc with num := nn } : Of) = o := ⟨_, rfl⟩
    obtain ⟨w16, hw16⟩ : ∃ wy, w15.setCell ⟨X, 70, none⟩ (.int .u32 (nn : Int)) = wy := ⟨_, rfl⟩
    have O16 := Lib.hid (O15.out.set1 (o' := od) 70 (.int .u32 (nn : Int)) (by rw [← hod]; exact of_num oc _))
    rw [hw16] at O16 ⊢
    have Hod := Lib.hid hod
    clear hod hw16 c15 f15
    have k16 := O16.out.k
    go_wp2_with fail
    refine (CA.out w16 O16.out.r).mono ?_
    rintro e w17 ⟨rfl, hR17, hG17⟩
    dsimp only
    have O17 := Lib.hid ((O16.out.call hG17 hR17))
    clear hR17 hG17
    clear k16
    have c17 := (of_lies O17.out.lt.ls).2.2.2.2.2.2.2.2.2.1
    have f17 := O17.out.lt.ls.frozen (j := 71) (by omega)
    go_upto_region 15 with fail
    obtain ⟨oe, hoe⟩ : ∃ o, ({ od with auth := na } : Of) = o := ⟨_, rfl⟩
    obtain ⟨w18, hw18⟩ : ∃ wy, w17.setCell ⟨X, 71, none⟩ (.int .u32 (na : Int)) = wy := ⟨_, rfl⟩
    have O18 := Lib.hid (O17.out.set1 (o' := oe) 71 (.int .u32 (na : Int)) (by rw [← hoe]; exact of_auth od _))
    rw [hw18] at O18 ⊢
    have Hoe := Lib.hid hoe
    clear hoe hw18 c17 f17
    have k18 := O18.out.k
    go_wp2_with fail
    refine (CW.out w18 O18.out.r).mono ?_
    rintro e w19 ⟨rfl, hR19, hG19⟩
    dsimp only
    have O19 := Lib.hid ((O18.out.call hG19 hR19))
    clear hR19 hG19
    clear k18
    have c19 := (of_lies O19.out.lt.ls).2.2.2.2.2.2.2.2.2.2
    have f19 := O19.out.lt.ls.frozen (j := 72) (by omega)
    go_upto_region 16 with fail
    obtain ⟨of, hof⟩ : ∃ o, ({ oe with note := wv } : Of) = o := ⟨_, rfl⟩
    obtain ⟨w20, hw20⟩ : ∃ wy, w19.setCell ⟨X, 72, none⟩ (.string wv) = wy := ⟨_, rfl⟩
    have O20 := Lib.hid (O19.out.set1 (o' := of) 72 (.string wv) (by rw [← hof]; exact of_note oe _))
    rw [hw20] at O20 ⊢
    have Hof := Lib.hid hof
    clear hof hw20 c19 f19
    have HXO : Hid (((⟨(q : Int), ⟨#[]⟩, [], (n1 : Int), i1, i3, lp, le, nn, na, wv⟩ : Ov)).at_ nSl ⟨A9, np, d9⟩ ⟨A13, ne, d13⟩ = of) := Lib.hid (by rw [← Hof.out, ← Hoe.out, ← Hod.out, ← Hoc.out, ← Hob.out, ← Hoa.out, ← Ho8.out, ← Ho6.out, ← HKO.out]; rfl)
    have HRR : Hid (((⟨(q : Int), ⟨#[]⟩, [], (n1 : Int), i1, i3, lp, le, nn, na, wv⟩ : Ov), s8) = R) := Lib.hid (by rw [← HR.out, if_neg h1, if_neg h2, if_pos h3, HCR.out, h3]; rfl)
    have FN : Hid (ObjOwn w g (ofV of) ((⟨(q : Int), ⟨#[]⟩, [], (n1 : Int), i1, i3, lp, le, nn, na, wv⟩ : Ov)) s8 (w20.setCells (w.heap.size + 1) 0 of.cells)) := Lib.hid (by
      have h := O20.out
      rw [← HXO.out] at h ⊢
      exact h.fin2 (x := (⟨(q : Int), ⟨#[]⟩, [], (n1 : Int), i1, i3, lp, le, nn, na, wv⟩ : Ov)) (by decide) (by show np ≤ 100000; omega) (by show ne ≤ 100000; omega) ⟨by show _ ≤ (q : Int); omega, by show (q : Int) ≤ _; omega⟩ ⟨by show _ ≤ (n1 : Int); omega, by show (n1 : Int) ≤ _; omega⟩ nnl nal)
    have OO : Hid (of.lv.oneCell' = true ∧ of.pv.oneCell' = true ∧ of.ev.oneCell' = true) := Lib.hid (by rw [← HXO.out]; exact ⟨rfl, rfl, rfl⟩)
    have RGz := Lib.hid O20.out.lt.ls.rg
    have Tz := Lib.hid O20.out.y.ls.th
    obtain ⟨wz, hwz⟩ : ∃ wz, w20.setCells (w.heap.size + 1) 0 of.cells = wz := ⟨_, rfl⟩
    have NZ : Hid (wz.rangeAt (w.heap.size + 1) 0 of.cells) := Lib.hid (by rw [← hwz]; exact (O20.out.y.ls.set_ (of_sz _)).rg)
    rw [hwz] at FN
    have HWZ := Lib.hid hwz
    clear hwz
    go_wp2_with (first
      | ((with_reducible refine ldo (.tmp 3) ?_ ?_ X 0 of ?_ RGz.out ?_); rfl; rfl; rfl)
      | ((with_reducible refine sto (.tmp 2) (.tmp 58) ?_ ?_ (w.heap.size + 1) 0 of ?_ ?_ Tz.out OO.out.1 OO.out.2.1 OO.out.2.2 ?_); rfl; rfl; rfl; rfl; rw [HWZ.out])
      | fail)
    exact bodyPost_ret (res_ob1 rfl _ _ (w.heap.size + 1) of rfl NZ.out) rfl ⟨_, rfl, by rw [← HRR.out]; exact FN.out⟩
  have e1 : ((q : Int) == 1) = false := by rw [Bool.eq_false_iff]; simp only [ne_eq, beq_iff_eq]; omega
  have e2 : ((q : Int) == 2) = false := by rw [Bool.eq_false_iff]; simp only [ne_eq, beq_iff_eq]; omega
  have e3 : ((q : Int) == 3) = false := by rw [Bool.eq_false_iff]; simp only [ne_eq, beq_iff_eq]; omega
  have HXO : Hid ((kOv (q : Int)).at_ nSl nSl nSl = ko) := Lib.hid (by exact HKO.out)
  have HRR : Hid ((kOv (q : Int), su) = R) := Lib.hid (by rw [← HR.out, if_neg h1, if_neg h2, if_neg h3])
  have FN : Hid (ObjOwn w g (ofV ko) (kOv (q : Int)) su (w4.setCells (w.heap.size + 1) 0 ko.cells)) := Lib.hid (by
    have h := O4.out
    rw [← HXO.out] at h ⊢
    exact h.fin2 (x := kOv (q : Int)) (by decide) (by decide) (by decide) ⟨by show _ ≤ (q : Int); omega, by show (q : Int) ≤ _; omega⟩ ⟨(by show (-9223372036854775808 : Int) ≤ 0; decide), (by show (0 : Int) ≤ 9223372036854775807; decide)⟩ (by show 0 < 4294967296; decide) (by show 0 < 4294967296; decide))
  have OO : Hid (ko.lv.oneCell' = true ∧ ko.pv.oneCell' = true ∧ ko.ev.oneCell' = true) := Lib.hid (by rw [← HXO.out]; exact ⟨rfl, rfl, rfl⟩)
  have RGz := Lib.hid O4.out.lt.ls.rg
  have Tz := Lib.hid O4.out.y.ls.th
  obtain ⟨wz, hwz⟩ : ∃ wz, w4.setCells (w.heap.size + 1) 0 ko.cells = wz := ⟨_, rfl⟩
  have NZ : Hid (wz.rangeAt (w.heap.size + 1) 0 ko.cells) := Lib.hid (by rw [← hwz]; exact (O4.out.y.ls.set_ (of_sz _)).rg)
  rw [hwz] at FN
  have HWZ := Lib.hid hwz
  clear hwz
  go_wp2_with (first
    | ((with_reducible refine ldo (.tmp 3) ?_ ?_ X 0 ko ?_ RGz.out ?_); rfl; rfl; rfl)
    | ((with_reducible refine sto (.tmp 2) (.tmp 58) ?_ ?_ (w.heap.size + 1) 0 ko ?_ ?_ Tz.out OO.out.1 OO.out.2.1 OO.out.2.2 ?_); rfl; rfl; rfl; rfl; rw [HWZ.out])
    | fail)
  exact bodyPost_ret (res_ob1 rfl _ _ (w.heap.size + 1) ko rfl NZ.out) rfl ⟨_, rfl, by rw [← HRR.out]; exact FN.out⟩
set_option maxRecDepth 100000 in
set_option maxHeartbeats 8000000 in
theorem Decode_own {w : World} {A : Option Addr} {n c : Nat} {l : List UInt8} (hs : S3.SlB w w.heap.size A n c l) (hn : n ≤ 1000000) :
    Calls Tryz.prog 5 #[.slice A n c] w fun x w' => (∃ v, x = .returned (.tuple #[v, .int .i64 (decW l).2]) ∧ ObjRes2 v (decW l).1 w.heap.size w') ∧ Below w.heap.size w w' := by
  obtain ⟨zz, hzz⟩ : ∃ z, zOf = z := ⟨_, rfl⟩
  have ZO : Hid (∀ w : World, (zeroValue 34).run Tryz.prog w = .ok (.agg zz.cells.toArray) w) := Lib.hid (by rw [← hzz]; exact zero_of)
  have BZ : Hid (Tryz.prog.built 34 [] = some zz.cells.toArray) := Lib.hid (by rw [← hzz]; exact built_obz)
  have ZZ1 : Hid (zz.lv.oneCell' = true ∧ zz.pv.oneCell' = true ∧ zz.ev.oneCell' = true) := Lib.hid (by rw [← hzz]; exact zOf_one)
  obtain ⟨w1, hw1⟩ : ∃ w1, w.alloc (.cells zz.cells.toArray 34) = w1 := ⟨_, rfl⟩
  have s1 : w1.heap.size = w.heap.size + 1 := by rw [← hw1]; simp
  have B1 : Hid (Below w.heap.size w w1) := Lib.hid (by rw [← hw1]; exact (Below.refl _ _).alloc (Nat.le_refl _) _)
  have Y1 : Hid (Lies w1 w.heap.size 73 zz.cells) := Lib.hid (by
    rw [← hw1]
    have := Lies.new w zz.cells 34
    rwa [of_sz] at this)
  have HS : Hid (∀ W, Below w.heap.size w W → S3.SlB W w.heap.size A n c l) := Lib.hid fun W hW => hs.below hW
  have hln := hs.len
  obtain ⟨R, hR⟩ : ∃ R, objR (l, 0) = R := ⟨_, rfl⟩
  obtain ⟨D, hD⟩ : ∃ D, decW l = D := ⟨_, rfl⟩
  have HD : Hid ((if R.2.2 ≠ 0 then (zOv, R.2.2) else if okW R.1 && (bytesW R.1 == l) then (R.1, 0) else (zOv, 160)) = D) := Lib.hid (by rw [← hD, ← hR]; rfl)
  have HRR := Lib.hid hR
  rw [hD]
  have HW1 := Lib.hid hw1
  have HZZ := Lib.hid hzz
  clear hw1 hs hR hD hzz
  go_enter Tryz.func5, Tryz.ntmps5
  go_upto_region 1 with (first
    | ((with_reducible refine alt 34 ?_ ?_ zz.cells ZO.out ?_); rfl; rfl; rw [HW1.out]; (try simp only [Act.put, List.setIfInBounds_toArray, List.set_cons_succ, List.set_cons_zero]))
    | fail)
  go_wp2_with fail
  refine (S3.read_any ((HS.out w1 B1.out).more (B := w.heap.size) (B' := w1.heap.size) (by omega)) (Nat.le_refl _) (by omega)).mono ?_
  rintro e w2 ⟨g, hg, rfl, hR2, hb2⟩
  dsimp only
  have R2 : Hid (RdS w2 g (l, 0)) := Lib.hid ⟨hR2, by show l.length ≤ _; omega⟩
  have B2 := Lib.hid (B1.out.trans (hb2.mono B1.out.size))
  have Y2 : Hid (Lies w2 w.heap.size 73 zz.cells) := Lib.hid (Y1.out.below hb2 (by omega))
  have z2 := hb2.size
  have hgl := hR2.lt
  clear hR2 hb2
  go_upto_region 2 with fail
  obtain ⟨w3, hw3⟩ : ∃ w3, w2.alloc (.cells #[S3.rp g] 58) = w3 := ⟨_, rfl⟩
  have b23 : Below w2.heap.size w2 w3 := by rw [← hw3]; exact (Below.refl _ _).alloc (Nat.le_refl _) _
  have s3 : w3.heap.size = w2.heap.size + 1 := by rw [← hw3]; simp
  have K3 : Hid (w3.cell? ⟨w2.heap.size, 0, none⟩ = some (S3.rp g)) := Lib.hid (by rw [← hw3]; exact (Boxed.new w2 58 (S3.rp g)).cell)
  have R3 : Hid (RdS w3 g (l, 0)) := Lib.hid (R2.out.below b23)
  have B3 := Lib.hid (B2.out.trans (b23.mono B2.out.size))
  have Y3 : Hid (Lies w3 w.heap.size 73 zz.cells) := Lib.hid (Y2.out.below b23 (by omega))
  rw [show w2.alloc (.cells #[.pointer (some ⟨g, 0, none⟩)] 58) = w3 from hw3]
  obtain ⟨b4, hb4⟩ : ∃ b, w2.heap.size = b := ⟨_, rfl⟩
  rw [hb4] at K3 s3 hgl z2 ⊢
  clear hw3 b23 hb4
  have k3 := K3.out
  go_wp2_with fail
  refine (objr_own R3.out).mono ?_
  rintro e w4 ⟨v, rfl, hO⟩
  dsimp only
  rw [HRR.out] at hO
  obtain ⟨L, P, E, rfl, hob, hlm, hlo⟩ := hO.ob
  have HLO := Lib.hid hlo
  obtain ⟨xo, hxo⟩ : ∃ o, R.1.at_ L P E = o := ⟨_, rfl⟩
  have HXO := Lib.hid hxo
  have XO1 : Hid (xo.lv.oneCell' = true ∧ xo.pv.oneCell' = true ∧ xo.ev.oneCell' = true) := Lib.hid (by rw [← hxo]; exact ⟨rfl, rfl, rfl⟩)
  rw [hxo]
  have HOB := Lib.hid hob
  have HLM := Lib.hid hlm
  have HG4 := hO.gr
  have R4 := Lib.hid hO.r
  have z4 := HG4.size
  have K4 : Hid (w4.cell? ⟨b4, 0, none⟩ = some (S3.rp g)) := Lib.hid (cell_grown HG4 (by omega) (by omega) K3.out)
  have Y4 : Hid (Lies w4 w.heap.size 73 zz.cells) := Lib.hid (Y3.out.kp (HG4.block _ (by omega) (by simp <;> omega)) z4)
  have B4 : Hid (Below w.heap.size w w4) := Lib.hid (B3.out.trans ⟨HG4.os, HG4.tape, HG4.output, HG4.size, fun i hi => HG4.block i (by omega) (by simp <;> omega)⟩)
  clear hxo hob hlm hlo hO k3 HG4
  obtain ⟨wA, hwA⟩ : ∃ wA, w4.alloc (.cells zz.cells.toArray 34) = wA := ⟨_, rfl⟩
  have YA : Lies wA w4.heap.size 73 zz.cells := by
    rw [← hwA]
    have := Lies.new w4 zz.cells 34
    rwa [of_sz] at this
  obtain ⟨w5, hw5⟩ : ∃ w5, wA.setCells w4.heap.size 0 xo.cells = w5 := ⟨_, rfl⟩
  have C5 : Below w4.heap.size w4 w5 := by rw [← hw5, ← hwA]; exact below_setCells ((Below.refl _ _).alloc (Nat.le_refl _) _) (Nat.le_refl _) _ _
  have X5 : Hid (Lies w5 w4.heap.size 73 xo.cells) := Lib.hid (by rw [← hw5]; exact YA.set_ (of_sz _))
  have R5 : Hid (RdS w5 g R.2) := Lib.hid (R4.out.below C5)
  have K5 : Hid (w5.cell? ⟨b4, 0, none⟩ = some (S3.rp g)) := Lib.hid ((World.cell?_of_block (C5.block b4 (by omega))).trans K4.out)
  have Y5 : Hid (Lies w5 w.heap.size 73 zz.cells) := Lib.hid (Y4.out.below C5 (by omega))
  have B5 := Lib.hid (B4.out.trans (C5.mono B4.out.size))
  have O5 := Lib.hid ((HOB.out.below C5).more C5.size)
  have HC5 := Lib.hid C5
  have hx5 := X5.out.lt
  have HWA := Lib.hid hwA
  have HW5 := Lib.hid hw5
  have TA := Lib.hid YA.th
  clear hwA hw5 YA C5
  go_upto_region 3 with (first
    | ((with_reducible refine alt 34 ?_ ?_ zz.cells ZO.out ?_); rfl; rfl; rw [HWA.out]; (try simp only [Act.put, List.setIfInBounds_toArray, List.set_cons_succ, List.set_cons_zero]))
    | ((with_reducible refine sto (.tmp 5) (.tmp 13) ?_ ?_ w4.heap.size 0 xo ?_ ?_ TA.out XO1.out.1 XO1.out.2.1 XO1.out.2.2 ?_); rfl; rfl; rfl; rfl; rw [HW5.out]; (try simp only [Act.put]))
    | fail)
  obtain ⟨b5, hb5⟩ : ∃ b, w4.heap.size = b := ⟨_, rfl⟩
  have hb5' := hb5
  rw [hb5] at X5 hx5 z4 ⊢
  clear hb5 HWA HW5 TA
  have k5 := K5.out
  go_wp2_with fail
  refine (S3.err_any R5.out.1).mono ?_
  rintro e _ ⟨rfl, rfl⟩
  dsimp only
  obtain ⟨er, her⟩ : ∃ e, R.2.2 = e := ⟨_, rfl⟩
  rw [show R.snd.snd = er from her]
  rw [her] at HD
  clear her
  have T5 := Lib.hid Y5.out.th
  by_cases he : er = 0
  · subst he
    have HDB : Hid ((if okW R.1 && (bytesW R.1 == l) then (R.1, (0 : Int)) else (zOv, 160)) = D) := Lib.hid (by have h := HD.out; rw [if_neg (show ¬ ((0 : Int) ≠ 0) by simp)] at h; exact h)
    obtain ⟨ok, hok⟩ : ∃ b, okW R.1 = b := ⟨_, rfl⟩
    obtain ⟨qe, hqe⟩ : ∃ b, (bytesW R.1 == l) = b := ⟨_, rfl⟩
    have HQE := Lib.hid hqe
    rw [hok, hqe] at HDB
    have CE : Hid (Calls Tryz.prog 10 #[ofV xo] w5 fun e w' => (∃ A n c, e = .returned (.tuple #[.slice A n c, .int .i64 (if ok then 0 else 160)]) ∧ OwnB w' w5.heap.size A n c (if ok then bytesW R.1 else [])) ∧ Below w5.heap.size w5 w') := Lib.hid (by
      rw [← HXO.out, ← hok]
      exact Encode_any O5.out HLM.out)
    have RG5 := Lib.hid X5.out.rg
    clear hok hqe
    go_wp2_with (first
      | ((with_reducible refine ldo (.tmp 5) ?_ ?_ b5 0 xo ?_ RG5.out ?_); rfl; rfl; rfl)
      | fail)
    refine CE.out.mono ?_
    rintro e w6 ⟨⟨A6, n6, c6, rfl, hown⟩, hb6⟩
    dsimp only
    have HOW := Lib.hid hown
    have B6 := Lib.hid (B5.out.trans (hb6.mono B5.out.size))
    have Y6 : Hid (Lies w6 w.heap.size 73 zz.cells) := Lib.hid (Y5.out.below hb6 (by have := B5.out.size; have := Y5.out.lt; omega))
    have X6 : Hid (Lies w6 b5 73 xo.cells) := Lib.hid (X5.out.below hb6 (by omega))
    have O6 := Lib.hid ((O5.out.below hb6).more hb6.size)
    have HB56 := Lib.hid hb6
    clear hown hb6
    cases ok
    · simp only [Bool.false_eq_true, if_false]
      have Tz := Lib.hid Y6.out.th
      obtain ⟨w9, hw9⟩ : ∃ w9, w6.setCells w.heap.size 0 zz.cells = w9 := ⟨_, rfl⟩
      have N9 : Hid (w9.rangeAt w.heap.size 0 zz.cells) := Lib.hid (by rw [← hw9]; exact (Y6.out.set_ (of_sz _)).rg)
      have B9 : Hid (Below w.heap.size w w9) := Lib.hid (by rw [← hw9]; exact below_setCells B6.out (Nat.le_refl _) _ _)
      have HW9 := Lib.hid hw9
      have HDD : Hid ((zOv, (160 : Int)) = D) := Lib.hid (by rw [← HDB.out]; simp)
      clear hw9
      go_wp2_with (first
        | ((with_reducible refine bdt 34 [] ?_ ?_ zz.cells.toArray ?_ ?_); rfl; rfl; exact BZ.out)
        | ((with_reducible refine sto (.tmp 2) (.tmp 34) ?_ ?_ w.heap.size 0 zz ?_ ?_ Tz.out ZZ1.out.1 ZZ1.out.2.1 ZZ1.out.2.2 ?_); rfl; rfl; rfl; rfl; rw [HW9.out])
        | fail)
      exact bodyPost_ret (res_obi rfl _ _ w.heap.size 0 zz _ rfl rfl N9.out) rfl ⟨⟨ofV zz, by rw [← HDD.out]; rfl, by rw [← HDD.out, ← HZZ.out]; exact ObjRes2.zero _ _⟩, B9.out⟩
    · simp only [if_true] at HOW ⊢
      have CQ : Hid (Calls Tryz.prog 16 #[.slice A6 n6 c6, .slice A n c] w6 fun e w' => e = .returned (.bool qe) ∧ w6 = w') := Lib.hid (S3.equal_is HOW.out.sl (HS.out w6 B6.out) qe HQE.out)
      cases qe
      · go_wp2_with fail
        refine CQ.out.mono ?_
        rintro e _ ⟨rfl, rfl⟩
        dsimp only
        have Tz := Lib.hid Y6.out.th
        obtain ⟨w9, hw9⟩ : ∃ w9, w6.setCells w.heap.size 0 zz.cells = w9 := ⟨_, rfl⟩
        have N9 : Hid (w9.rangeAt w.heap.size 0 zz.cells) := Lib.hid (by rw [← hw9]; exact (Y6.out.set_ (of_sz _)).rg)
        have B9 : Hid (Below w.heap.size w w9) := Lib.hid (by rw [← hw9]; exact below_setCells B6.out (Nat.le_refl _) _ _)
        have HW9 := Lib.hid hw9
        have HDD : Hid ((zOv, (160 : Int)) = D) := Lib.hid (by rw [← HDB.out]; simp)
        clear hw9
        go_wp2_with (first
          | ((with_reducible refine bdt 34 [] ?_ ?_ zz.cells.toArray ?_ ?_); rfl; rfl; exact BZ.out)
          | ((with_reducible refine sto (.tmp 2) (.tmp 34) ?_ ?_ w.heap.size 0 zz ?_ ?_ Tz.out ZZ1.out.1 ZZ1.out.2.1 ZZ1.out.2.2 ?_); rfl; rfl; rfl; rfl; rw [HW9.out])
          | fail)
        exact bodyPost_ret (res_obi rfl _ _ w.heap.size 0 zz _ rfl rfl N9.out) rfl ⟨⟨ofV zz, by rw [← HDD.out]; rfl, by rw [← HDD.out, ← HZZ.out]; exact ObjRes2.zero _ _⟩, B9.out⟩
      · go_wp2_with fail
        refine CQ.out.mono ?_
        rintro e _ ⟨rfl, rfl⟩
        dsimp only
        have Tz := Lib.hid Y6.out.th
        have RG6 := Lib.hid X6.out.rg
        obtain ⟨w9, hw9⟩ : ∃ w9, w6.setCells w.heap.size 0 xo.cells = w9 := ⟨_, rfl⟩
        have N9 : Hid (w9.rangeAt w.heap.size 0 xo.cells) := Lib.hid (by rw [← hw9]; exact (Y6.out.set_ (of_sz _)).rg)
        have B9 : Hid (Below w.heap.size w w9) := Lib.hid (by rw [← hw9]; exact below_setCells B6.out (Nat.le_refl _) _ _)
        have O9 : Hid (Obj3 w9 w9.heap.size R.1 L P E ∧ OwnO w9 w.heap.size R.1 L P E) := Lib.hid (by
          have hg9 := grown_setCells w6 w.heap.size 0 xo.cells
          rw [hw9] at hg9
          have q1 := HC5.out.size
          have q2 := HB56.out.size
          have q3 := hg9.size
          have q4 := B3.out.size
          have h9 := HLO.out w9 (by omega) fun i h1 h2 => (hg9.block i (by omega) (by simp <;> omega)).trans ((HB56.out.block i (by omega)).trans (HC5.out.block i (by omega)))
          exact ⟨h9.1, own_base_o h9.2 q4⟩)
        have HW9 := Lib.hid hw9
        have HDD : Hid ((R.1, (0 : Int)) = D) := Lib.hid (by rw [← HDB.out]; simp)
        clear hw9
        go_wp2_with (first
          | ((with_reducible refine ldo (.tmp 5) ?_ ?_ b5 0 xo ?_ RG6.out ?_); rfl; rfl; rfl)
          | ((with_reducible refine sto (.tmp 2) (.tmp 35) ?_ ?_ w.heap.size 0 xo ?_ ?_ Tz.out XO1.out.1 XO1.out.2.1 XO1.out.2.2 ?_); rfl; rfl; rfl; rfl; rw [HW9.out])
          | fail)
        exact bodyPost_ret (res_obi rfl _ _ w.heap.size 0 xo _ rfl rfl N9.out) rfl ⟨⟨ofV xo, by rw [← HDD.out]; rfl, by rw [← HDD.out, ← HXO.out]; exact ⟨L, P, E, rfl, O9.out.1, HLM.out, O9.out.2⟩⟩, B9.out⟩
  · have hd0 : (er == 0) = false := by rw [Bool.eq_false_iff]; simpa using he
    obtain ⟨w6, hw6⟩ : ∃ w6, w5.setCells w.heap.size 0 zz.cells = w6 := ⟨_, rfl⟩
    have N6 : Hid (w6.rangeAt w.heap.size 0 zz.cells) := Lib.hid (by rw [← hw6]; exact (Y5.out.set_ (of_sz _)).rg)
    have B6 : Hid (Below w.heap.size w w6) := Lib.hid (by rw [← hw6]; exact below_setCells B5.out (Nat.le_refl _) _ _)
    have HW6 := Lib.hid hw6
    have HDD : Hid ((zOv, er) = D) := Lib.hid (by rw [← HD.out, if_pos he])
    clear hw6
    go_wp2_with (first
      | ((with_reducible refine bdt 34 [] ?_ ?_ zz.cells.toArray ?_ ?_); rfl; rfl; exact BZ.out)
      | ((with_reducible refine sto (.tmp 2) (.tmp 19) ?_ ?_ w.heap.size 0 zz ?_ ?_ T5.out ZZ1.out.1 ZZ1.out.2.1 ZZ1.out.2.2 ?_); rfl; rfl; rfl; rfl; rw [HW6.out])
      | fail)
    exact bodyPost_ret (res_obi rfl _ _ w.heap.size 0 zz _ rfl rfl N6.out) rfl ⟨⟨ofV zz, by rw [← HDD.out]; rfl, by rw [← HDD.out, ← HZZ.out]; exact ObjRes2.zero _ _⟩, B6.out⟩
end Go.Proofs.YtcofkhmgmemkmaaGreatDoor
