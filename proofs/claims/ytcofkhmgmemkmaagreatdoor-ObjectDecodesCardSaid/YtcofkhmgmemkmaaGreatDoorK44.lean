/-
  STAGE 6's REFERENCE: Links.
  STAGE 6's REFERENCE: a commit's style.
-/
import Derived.Test.YtcofkhmgmemkmaaGreatDoorK43
import Derived.Test.YtcofkhmgmemkmaaGreatDoorK23
import Derived.Test.YtcofkhmgmemkmaaGreatDoorK18
namespace Go.Proofs.YtcofkhmgmemkmaaGreatDoor
set_option linter.unusedVariables false
set_option linter.unusedSimpArgs false
open Go.RowKit Go.WideShapes Go.ChangeShapes Go.Deep Go.Shelf
attribute [local irreducible] wpQuiet

theorem wp_oneI {W : World} {op : Oper} {a : Act} {K : Act → World → Prop} {Q : Exit → Act → World → Prop} (x : Operand) (ho : op.op = .buildSlice 28 1 #[(0, x)]) (i : Idv) (hx : a.eval x = idV i)
    (h : K (a.put op.dst (.slice (some ⟨W.heap.size, 0, none⟩) 1 1)) (W.alloc (.cells i.cells.toArray 27))) : op.wp Tryz.prog a W K Q := by
  obtain ⟨i0, hi, hz, hz1, hz2⟩ := info_parts info_idv
  have := one_of Tryz.underlying28 hi hz (k := 32) (by omega) (by omega) hz1 idz_sz i.cells (id_sz _) (idV i) rfl W
  unfold Oper.wp execOp
  simp only [ho, List.map_toArray, List.map_cons, List.map_nil, hx, this, Sem.run_bind, Result.andThen_ok]
  exact h
theorem one_sqI (W : World) (i : Idv) : SqI (W.alloc (.cells i.cells.toArray 27)) (W.alloc (.cells i.cells.toArray 27)).heap.size (some ⟨W.heap.size, 0, none⟩) 1 1 [i] :=
  ⟨rfl, Nat.le_refl _, by unfold maxLen; omega, (fun e => by cases e), id_sz, fun _ => ⟨W.heap.size, 0, rfl, by simp, by
    have := (Lies.new W i.cells 27).rg
    simpa using this⟩⟩
end Go.Proofs.YtcofkhmgmemkmaaGreatDoor
namespace Go.Proofs.YtcofkhmgmemkmaaGreatDoor
set_option linter.unusedVariables false
set_option linter.unusedSimpArgs false
open Go.RowKit Go.WideShapes Go.ChangeShapes Go.Deep Go.Shelf
attribute [local irreducible] wpQuiet

def style6R (x : Ov) : Bool := !(hasI x.ps Idv.zero) && styleW x
set_option maxRecDepth 100000 in
set_option maxHeartbeats 8000000 in
theorem style6_any {w : World} {x : Ov} {L P E : Sl} (h : Obj3 w w.heap.size x L P E) (hm : Lim L P E) :
    Calls Tryz.prog 62 #[ofV (x.at_ L P E)] w fun e w' => e = .returned (.bool (style6R x)) ∧ Below w.heap.size w w' := by
  obtain ⟨ox, w1, hb⟩ := Bxo.mk_ w x L P E
  have HB := Lib.hid hb
  rw [hb.eq]
  obtain ⟨AL, nL, cL⟩ := L
  obtain ⟨AP, nP, cP⟩ := P
  obtain ⟨AE, nE, cE⟩ := E
  have HPS : Hid (∀ W, Below w1.heap.size w1 W → SqI W W.heap.size AP nP cP x.ps) := Lib.hid fun W hW => (h.p.below (hb.bl.trans (hW.mono hb.bl.size))).more (Nat.le_trans hb.bl.size hW.size)
  have HLP : Hid (x.ps.length = nP) := Lib.hid h.p.len
  have HLE : Hid (x.es.length = nE) := Lib.hid h.e.len
  have hnP : nP ≤ 100000 := hm.p
  obtain ⟨zI, hzI⟩ : ∃ z, Idv.zero = z := ⟨_, rfl⟩
  have ZB : Hid (Tryz.prog.built 27 [] = some zI.cells.toArray) := Lib.hid (by rw [← hzI]; exact zb_id)
  have ZI : Hid (∀ w : World, (zeroValue 27).run Tryz.prog w = .ok (.agg zI.cells.toArray) w) := Lib.hid (by rw [← hzI]; exact zero_id)
  obtain ⟨hq, hhq⟩ : ∃ q, hasI x.ps zI = q := ⟨_, rfl⟩
  obtain ⟨sq, hsq⟩ : ∃ q, styleW x = q := ⟨_, rfl⟩
  have HF : Hid (style6R x = (!hq && sq)) := Lib.hid (by unfold style6R; rw [hzI, hhq, hsq])
  have HZI := Lib.hid hzI
  have HHQ := Lib.hid hhq
  have HSQ := Lib.hid hsq
  clear h hb hzI hhq hsq
  go_enter Tryz.func62, Tryz.ntmps62
  go_upto_region 1 with fail
  rw [HB.out.al]
  have B1 := Lib.hid HB.out.bl
  have q6 := (HB.out.facts (Below.refl _ _)).2.2.2.2.2.2.1
  have hnp0 : (0 : Int) ≤ (nP : Int) := Int.natCast_nonneg _
  go_wp2_with fail
  clear q6
  go_loopw [8] (fun i wr => ∃ k : Nat, k ≤ nP ∧ i = .int .i64 (k : Int) ∧ Hid (∀ j (hj : j < x.ps.length), j < k → (x.ps[j].b == zI.b) = false) ∧ Hid (Below w1.heap.size w1 wr)) (fun i _ => nP - (intOf i).toNat)
  case atStart => exact ⟨0, Nat.zero_le _, rfl, Lib.hid (fun j hj h => absurd h (by omega)), Lib.hid (Below.refl _ _)⟩
  case round =>
    obtain ⟨k, hk, rfl, hno, hbr⟩ := hrel
    by_cases hlt : k < nP
    · have hd : decide ((k : Int) < (nP : Int)) = true := by simp; omega
      have hk0 : (0 : Int) ≤ (k : Int) := Int.natCast_nonneg _
      have hk1 : (k : Int) < (nP : Int) := by omega
      obtain ⟨b, o, rfl, hbl, hrg⟩ := (HPS.out wr hbr.out).at_ hlt
      have hkl : k < x.ps.length := by rw [HLP.out]; exact hlt
      obtain ⟨p, hp⟩ : ∃ p, x.ps[k] = p := ⟨_, rfl⟩
      rw [hp] at hrg
      have HRG := Lib.hid hrg
      have HP := Lib.hid hp
      obtain ⟨T, hT⟩ : ∃ T, wr.heap.size = T := ⟨_, rfl⟩
      obtain ⟨wA, hwA⟩ : ∃ wA, wr.alloc (.cells zI.cells.toArray 27) = wA := ⟨_, rfl⟩
      obtain ⟨w5, hw5⟩ : ∃ w5, wA.setCells T 0 p.cells = w5 := ⟨_, rfl⟩
      have YA : Hid (Lies wA T 32 zI.cells) := Lib.hid (by rw [← hwA, ← hT]; have := Lies.new wr zI.cells 27; rwa [id_sz] at this)
      have RT : Hid (w5.rangeAt T 0 p.cells) := Lib.hid (by rw [← hw5]; exact (YA.out.set_ (id_sz _)).rg)
      have B5 : Hid (Below w1.heap.size w1 w5) := Lib.hid (by rw [← hw5, ← hwA]; exact hbr.out.trans ((below_setCells ((Below.refl wr.heap.size _).alloc (Nat.le_refl _) _) (by omega) _ _).mono hbr.out.size))
      have HWA := Lib.hid hwA
      have HW5 := Lib.hid hw5
      have TA := Lib.hid YA.out.th
      obtain ⟨e, he⟩ : ∃ q, (p.b == zI.b) = q := ⟨_, rfl⟩
      have EQ : ∀ w, (binOp .eql 27 (idV p) (.agg zI.cells.toArray)).run Tryz.prog w = .ok (.bool e) w := fun w => by rw [← he]; exact eql_id p zI w
      have HE := Lib.hid he
      clear hwA hw5 YA hrg hp he
      go_upto_region 4 with (first
        | ((with_reducible refine ldi (.tmp 10) ?_ ?_ b (o + k * 32) p ?_ HRG.out ?_); rfl; rfl; (first | rfl | go_simp))
        | ((with_reducible refine alt 27 ?_ ?_ zI.cells ZI.out ?_); rfl; rfl; rw [HWA.out]; (try simp only [Act.put, List.setIfInBounds_toArray, List.set_cons_succ, List.set_cons_zero, hT]))
        | ((with_reducible refine sti (.tmp 4) (.tmp 11) ?_ ?_ T 0 p ?_ ?_ TA.out ?_); rfl; rfl; rfl; rfl; rw [HW5.out])
        | fail)
      cases e
      · go_wp2_with (first
          | ((with_reducible refine ldi (.tmp 4) ?_ ?_ T 0 p ?_ RT.out ?_); rfl; rfl; rfl)
          | ((with_reducible refine bdt 27 [] ?_ ?_ zI.cells.toArray ?_ ?_); rfl; (first | rfl | go_simp); exact ZB.out)
          | fail)
        go_roundw
        case rel => exact ⟨k + 1, by omega, by go_num, Lib.hid (fun j hj h => by
            by_cases e : j = k
            · subst e; rw [HP.out]; exact HE.out
            · exact hno.out j hj (by omega)), B5⟩
        case measure => simp [intOf]; omega
      · have HY : Hid (hq = true) := Lib.hid (by rw [← HHQ.out]; unfold hasI; rw [List.any_eq_true]; exact ⟨p, by rw [← HP.out]; exact List.getElem_mem hkl, by have := HE.out; simp only [beq_iff_eq] at this ⊢; exact this.symm⟩)
        go_wp2_with (first
          | ((with_reducible refine ldi (.tmp 4) ?_ ?_ T 0 p ?_ RT.out ?_); rfl; rfl; rfl)
          | ((with_reducible refine bdt 27 [] ?_ ?_ zI.cells.toArray ?_ ?_); rfl; (first | rfl | go_simp); exact ZB.out)
          | fail)
        go_ret
        exact ⟨by rw [HF.out, HY.out]; rfl, B1.out.trans (B5.out.mono B1.out.size)⟩
    · have hd : decide ((k : Int) < (nP : Int)) = false := by simp; omega
      have HN : Hid (hq = false) := Lib.hid (by rw [← HHQ.out]; exact hasI_no fun j hj => by have h9 := hno.out j hj (by have := HLP.out; omega); rw [beq_eq_false_iff_ne] at h9 ⊢; exact fun e => h9 e.symm)
      obtain ⟨wo, hwo⟩ : ∃ wo : World, wo = wr := ⟨_, rfl⟩
      have BO : Hid (Below w1.heap.size w1 wo) := Lib.hid (by rw [hwo]; exact hbr.out)
      rw [← hwo]
      have GE := Lib.hid (B1.out.trans (BO.out.mono B1.out.size))
      clear hwo hbr hno hd hk
      obtain ⟨a0, a1, a2, a3, R4, R5, a6, a7, a8, a9, a10⟩ := HB.out.facts BO.out
      replace R5 := Lib.hid R5
      clear R4
      by_cases K1 : x.style = 1
      · have d1 : (x.style == 1) = true := by simp [K1]
        obtain ⟨s0, h0⟩ : ∃ q, ((nP : Int) == 0) = q := ⟨_, rfl⟩
        obtain ⟨s1, h1⟩ : ∃ q, (x.base.b == zI.b) = q := ⟨_, rfl⟩
        obtain ⟨s2, h2⟩ : ∃ q, ((nE : Int) == 0) = q := ⟨_, rfl⟩
        obtain ⟨s3, h3⟩ : ∃ q, ((x.num : Int) == 0) = q := ⟨_, rfl⟩
        have HS : Hid (sq = (s0 && s1 && s2 && s3)) := Lib.hid (by
          rw [← HSQ.out, styleW_1 K1, ← h0, ← h1, ← h2, ← h3, HZI.out, beq0 HLP.out, beq0 HLE.out, beq0 (rfl : x.num = x.num)])
        have E5 : ∀ w, (binOp .eql 27 (idV x.base) (.agg zI.cells.toArray)).run Tryz.prog w = .ok (.bool s1) w := fun w => by rw [← h1]; exact eql_id x.base zI w
        clear h1
        cases s0
        · go_wp2_with (first
              | ((with_reducible refine ldi (.tmp 25) ?_ ?_ w.heap.size 36 x.base ?_ R5.out ?_); rfl; (first | rfl | go_simp); (first | rfl | go_simp))
              | ((with_reducible refine ldi (.tmp 49) ?_ ?_ w.heap.size 36 x.base ?_ R5.out ?_); rfl; (first | rfl | go_simp); (first | rfl | go_simp))
              | ((with_reducible refine bdt 27 [] ?_ ?_ zI.cells.toArray ?_ ?_); rfl; (first | rfl | go_simp); exact ZB.out)
              | fail)
          go_ret
          exact ⟨by rw [HF.out, HN.out, HS.out]; rfl, GE.out⟩
        cases s1
        · go_wp2_with (first
              | ((with_reducible refine ldi (.tmp 25) ?_ ?_ w.heap.size 36 x.base ?_ R5.out ?_); rfl; (first | rfl | go_simp); (first | rfl | go_simp))
              | ((with_reducible refine ldi (.tmp 49) ?_ ?_ w.heap.size 36 x.base ?_ R5.out ?_); rfl; (first | rfl | go_simp); (first | rfl | go_simp))
              | ((with_reducible refine bdt 27 [] ?_ ?_ zI.cells.toArray ?_ ?_); rfl; (first | rfl | go_simp); exact ZB.out)
              | fail)
          go_ret
          exact ⟨by rw [HF.out, HN.out, HS.out]; rfl, GE.out⟩
        cases s2
        · go_wp2_with (first
              | ((with_reducible refine ldi (.tmp 25) ?_ ?_ w.heap.size 36 x.base ?_ R5.out ?_); rfl; (first | rfl | go_simp); (first | rfl | go_simp))
              | ((with_reducible refine ldi (.tmp 49) ?_ ?_ w.heap.size 36 x.base ?_ R5.out ?_); rfl; (first | rfl | go_simp); (first | rfl | go_simp))
              | ((with_reducible refine bdt 27 [] ?_ ?_ zI.cells.toArray ?_ ?_); rfl; (first | rfl | go_simp); exact ZB.out)
              | fail)
          go_ret
          exact ⟨by rw [HF.out, HN.out, HS.out]; rfl, GE.out⟩
        cases s3
        · go_wp2_with (first
              | ((with_reducible refine ldi (.tmp 25) ?_ ?_ w.heap.size 36 x.base ?_ R5.out ?_); rfl; (first | rfl | go_simp); (first | rfl | go_simp))
              | ((with_reducible refine ldi (.tmp 49) ?_ ?_ w.heap.size 36 x.base ?_ R5.out ?_); rfl; (first | rfl | go_simp); (first | rfl | go_simp))
              | ((with_reducible refine bdt 27 [] ?_ ?_ zI.cells.toArray ?_ ?_); rfl; (first | rfl | go_simp); exact ZB.out)
              | fail)
          go_ret
          exact ⟨by rw [HF.out, HN.out, HS.out]; rfl, GE.out⟩
        go_wp2_with (first
            | ((with_reducible refine ldi (.tmp 25) ?_ ?_ w.heap.size 36 x.base ?_ R5.out ?_); rfl; (first | rfl | go_simp); (first | rfl | go_simp))
            | ((with_reducible refine ldi (.tmp 49) ?_ ?_ w.heap.size 36 x.base ?_ R5.out ?_); rfl; (first | rfl | go_simp); (first | rfl | go_simp))
            | ((with_reducible refine bdt 27 [] ?_ ?_ zI.cells.toArray ?_ ?_); rfl; (first | rfl | go_simp); exact ZB.out)
            | fail)
        go_ret
        exact ⟨by rw [HF.out, HN.out, HS.out]; rfl, GE.out⟩
      have d1 : (x.style == 1) = false := by simp [K1]
      by_cases K2 : x.style = 2
      · have d2 : (x.style == 2) = true := by simp [K2]
        obtain ⟨s0, h0⟩ : ∃ q, ((nP : Int) == 1) = q := ⟨_, rfl⟩
        obtain ⟨s1, h1⟩ : ∃ q, (x.base.b == zI.b) = q := ⟨_, rfl⟩
        obtain ⟨s2, h2⟩ : ∃ q, decide (0 < x.num) = q := ⟨_, rfl⟩
        have HS : Hid (sq = (s0 && s1 && s2)) := Lib.hid (by
          rw [← HSQ.out, styleW_2 K1 K2, ← h0, ← h1, ← h2, HZI.out, beq1 HLP.out])
        have E5 : ∀ w, (binOp .eql 27 (idV x.base) (.agg zI.cells.toArray)).run Tryz.prog w = .ok (.bool s1) w := fun w => by rw [← h1]; exact eql_id x.base zI w
        clear h1
        cases s0
        · go_wp2_with (first
              | ((with_reducible refine ldi (.tmp 25) ?_ ?_ w.heap.size 36 x.base ?_ R5.out ?_); rfl; (first | rfl | go_simp); (first | rfl | go_simp))
              | ((with_reducible refine ldi (.tmp 49) ?_ ?_ w.heap.size 36 x.base ?_ R5.out ?_); rfl; (first | rfl | go_simp); (first | rfl | go_simp))
              | ((with_reducible refine bdt 27 [] ?_ ?_ zI.cells.toArray ?_ ?_); rfl; (first | rfl | go_simp); exact ZB.out)
              | fail)
          go_ret
          exact ⟨by rw [HF.out, HN.out, HS.out]; rfl, GE.out⟩
        cases s1
        · go_wp2_with (first
              | ((with_reducible refine ldi (.tmp 25) ?_ ?_ w.heap.size 36 x.base ?_ R5.out ?_); rfl; (first | rfl | go_simp); (first | rfl | go_simp))
              | ((with_reducible refine ldi (.tmp 49) ?_ ?_ w.heap.size 36 x.base ?_ R5.out ?_); rfl; (first | rfl | go_simp); (first | rfl | go_simp))
              | ((with_reducible refine bdt 27 [] ?_ ?_ zI.cells.toArray ?_ ?_); rfl; (first | rfl | go_simp); exact ZB.out)
              | fail)
          go_ret
          exact ⟨by rw [HF.out, HN.out, HS.out]; rfl, GE.out⟩
        cases s2
        · go_wp2_with (first
              | ((with_reducible refine ldi (.tmp 25) ?_ ?_ w.heap.size 36 x.base ?_ R5.out ?_); rfl; (first | rfl | go_simp); (first | rfl | go_simp))
              | ((with_reducible refine ldi (.tmp 49) ?_ ?_ w.heap.size 36 x.base ?_ R5.out ?_); rfl; (first | rfl | go_simp); (first | rfl | go_simp))
              | ((with_reducible refine bdt 27 [] ?_ ?_ zI.cells.toArray ?_ ?_); rfl; (first | rfl | go_simp); exact ZB.out)
              | fail)
          go_ret
          exact ⟨by rw [HF.out, HN.out, HS.out]; rfl, GE.out⟩
        go_wp2_with (first
            | ((with_reducible refine ldi (.tmp 25) ?_ ?_ w.heap.size 36 x.base ?_ R5.out ?_); rfl; (first | rfl | go_simp); (first | rfl | go_simp))
            | ((with_reducible refine ldi (.tmp 49) ?_ ?_ w.heap.size 36 x.base ?_ R5.out ?_); rfl; (first | rfl | go_simp); (first | rfl | go_simp))
            | ((with_reducible refine bdt 27 [] ?_ ?_ zI.cells.toArray ?_ ?_); rfl; (first | rfl | go_simp); exact ZB.out)
            | fail)
        go_ret
        exact ⟨by rw [HF.out, HN.out, HS.out]; rfl, GE.out⟩
      have d2 : (x.style == 2) = false := by simp [K2]
      by_cases K3 : x.style = 3
      · have d3 : (x.style == 3) = true := by simp [K3]
        by_cases N2P : nP = 2
        · obtain ⟨p0, p1, hps⟩ : ∃ p0 p1, x.ps = [p0, p1] := by
            have := HLP.out
            match hx : x.ps, this with
            | [a, b], _ => exact ⟨a, b, rfl⟩
            | [], e => simp at e; omega
            | [a], e => simp at e; omega
            | a :: b :: c :: r, e => simp at e; omega
          obtain ⟨b, o, rfl, -, -⟩ := (HPS.out w1 (Below.refl _ _)).at_ (i := 0) (by omega)
          have P0 : Hid (∀ W, Below w1.heap.size w1 W → W.rangeAt b o p0.cells) := Lib.hid fun W hW => by
            obtain ⟨b', o', e, -, hr⟩ := (HPS.out W hW).at_ (i := 0) (by omega)
            injection e with e
            injection e with e1 e2
            subst e1 e2
            simpa [hps] using hr
          have P1 : Hid (∀ W, Below w1.heap.size w1 W → W.rangeAt b (o + 32) p1.cells) := Lib.hid fun W hW => by
            obtain ⟨b', o', e, -, hr⟩ := (HPS.out W hW).at_ (i := 1) (by omega)
            injection e with e
            injection e with e1 e2
            subst e1 e2
            simpa [hps] using hr
          subst N2P
          obtain ⟨s1, h1⟩ : ∃ q, (p0.b == p1.b) = q := ⟨_, rfl⟩
          obtain ⟨s2, h2⟩ : ∃ q, decide (0 < x.num) = q := ⟨_, rfl⟩
          have HNE : Hid (∀ w, (Op.equalIn 10000 27 (.agg p0.cells.toArray) (.agg p1.cells.toArray)).run Tryz.prog w = .ok s1 w) := Lib.hid (fun w => by rw [← h1]; exact eq_id p0 p1 w)
          have HS : Hid (sq = (!s1 && s2)) := Lib.hid (by rw [← HSQ.out, styleW_3 K1 K2 K3, hps, ← h1, ← h2]; rfl)
          have H22 := Lib.hid h2
          clear h1 hps h2
          go_upto_region 13 with fail
          clear a0 a1 a2 a3 a6 a7 a8 a9 a10
          cases s1
          · have h2 := H22.out
            cases s2
            · obtain ⟨wd, hwd⟩ : ∃ wd, wo.drew = wd := ⟨_, rfl⟩
              have BD : Hid (Below w1.heap.size w1 wd) := Lib.hid (by rw [← hwd]; exact BO.out.drew)
              refine wp_region_br [false, true, false, false, false, false, true, false, true, false, true, false, true, false, false, false, false, true, false, false] 20 (fun w' => Below w1.heap.size w1 w') (by kernel_rfl) (by kernel_rfl) (by rw [hwd]; exact BD.out) ?_
              rw [hwd]
              clear hwd
              simp only [List.take_succ_cons, List.take_zero, List.drop_succ_cons, List.drop_zero]
              refine ⟨_, .inl ⟨rfl, fun w' hw' => (by clear hw'; go_simp; (try rfl))⟩, ?_⟩
              (try simp only [Act.put, List.setIfInBounds_toArray, List.set_cons_succ, List.set_cons_zero])
              refine ⟨_, .inl ⟨rfl, fun w' hw' => (by obtain ⟨-, -, -, -, -, -, a6, -, a8, -, -⟩ := HB.out.facts hw'; clear hw'; go_simp; (try rfl))⟩, ?_⟩
              (try simp only [Act.put, List.setIfInBounds_toArray, List.set_cons_succ, List.set_cons_zero])
              refine ⟨_, .inl ⟨rfl, fun w' hw' => (by clear hw'; go_simp; (try rfl))⟩, ?_⟩
              (try simp only [Act.put, List.setIfInBounds_toArray, List.set_cons_succ, List.set_cons_zero])
              refine ⟨_, .inl ⟨rfl, fun w' hw' => (by clear hw'; go_simp; (try rfl))⟩, ?_⟩
              (try simp only [Act.put, List.setIfInBounds_toArray, List.set_cons_succ, List.set_cons_zero])
              refine ⟨_, .inl ⟨rfl, fun w' hw' => (by clear hw'; go_simp; (try rfl))⟩, ?_⟩
              (try simp only [Act.put, List.setIfInBounds_toArray, List.set_cons_succ, List.set_cons_zero])
              refine ⟨_, .inl ⟨rfl, fun w' hw' => (by clear hw'; go_simp; (try rfl))⟩, ?_⟩
              (try simp only [Act.put, List.setIfInBounds_toArray, List.set_cons_succ, List.set_cons_zero])
              refine ⟨_, .inl ⟨rfl, fun w' hw' => (by obtain ⟨-, -, -, -, -, -, a6, -, a8, -, -⟩ := HB.out.facts hw'; clear hw'; go_simp; (try rfl))⟩, ?_⟩
              (try simp only [Act.put, List.setIfInBounds_toArray, List.set_cons_succ, List.set_cons_zero])
              refine ⟨_, .inl ⟨rfl, fun w' hw' => (by clear hw'; go_simp; (try rfl))⟩, ?_⟩
              (try simp only [Act.put, List.setIfInBounds_toArray, List.set_cons_succ, List.set_cons_zero])
              refine ⟨_, yieldsIf_load_mid rfl 27 _ rfl b o rfl p0.cells _ (fun w' hw' => P0.out w' hw') Tryz.underlying27 rfl (by rw [id_sz]; exact size_idv), ?_⟩
              (try simp only [Act.put, List.setIfInBounds_toArray, List.set_cons_succ, List.set_cons_zero])
              refine ⟨_, .inl ⟨rfl, fun w' hw' => (by clear hw'; go_simp; (try rfl))⟩, ?_⟩
              (try simp only [Act.put, List.setIfInBounds_toArray, List.set_cons_succ, List.set_cons_zero])
              refine ⟨_, .inl ⟨rfl, fun w' hw' => (by obtain ⟨-, -, -, -, -, -, a6, -, a8, -, -⟩ := HB.out.facts hw'; clear hw'; go_simp; (try rfl))⟩, ?_⟩
              (try simp only [Act.put, List.setIfInBounds_toArray, List.set_cons_succ, List.set_cons_zero])
              refine ⟨_, .inl ⟨rfl, fun w' hw' => (by clear hw'; go_simp; (try rfl))⟩, ?_⟩
              (try simp only [Act.put, List.setIfInBounds_toArray, List.set_cons_succ, List.set_cons_zero])
              refine ⟨_, yieldsIf_load_mid rfl 27 _ rfl b (o + 32) rfl p1.cells _ (fun w' hw' => P1.out w' hw') Tryz.underlying27 rfl (by rw [id_sz]; exact size_idv), ?_⟩
              (try simp only [Act.put, List.setIfInBounds_toArray, List.set_cons_succ, List.set_cons_zero])
              refine ⟨_, .inl ⟨rfl, fun w' hw' => (by clear hw'; have e := HNE.out w'; go_simp; (try rfl))⟩, ?_⟩
              (try simp only [Act.put, List.setIfInBounds_toArray, List.set_cons_succ, List.set_cons_zero])
              refine ⟨_, .inl ⟨rfl, fun w' hw' => (by clear hw'; go_simp; (try rfl))⟩, ?_⟩
              (try simp only [Act.put, List.setIfInBounds_toArray, List.set_cons_succ, List.set_cons_zero])
              refine ⟨_, .inl ⟨rfl, fun w' hw' => (by clear hw'; go_simp; (try rfl))⟩, ?_⟩
              (try simp only [Act.put, List.setIfInBounds_toArray, List.set_cons_succ, List.set_cons_zero])
              refine ⟨_, .inl ⟨rfl, fun w' hw' => (by clear hw'; go_simp; (try rfl))⟩, ?_⟩
              (try simp only [Act.put, List.setIfInBounds_toArray, List.set_cons_succ, List.set_cons_zero])
              refine ⟨_, .inl ⟨rfl, fun w' hw' => (by obtain ⟨-, -, -, -, -, -, a6, -, a8, -, -⟩ := HB.out.facts hw'; clear hw'; go_simp; (try rfl))⟩, ?_⟩
              (try simp only [Act.put, List.setIfInBounds_toArray, List.set_cons_succ, List.set_cons_zero])
              refine ⟨_, .inl ⟨rfl, fun w' hw' => (by clear hw'; go_simp; (try rfl))⟩, ?_⟩
              (try simp only [Act.put, List.setIfInBounds_toArray, List.set_cons_succ, List.set_cons_zero])
              refine ⟨_, .inl ⟨rfl, fun w' hw' => (by clear hw'; go_simp; (try rfl))⟩, ?_⟩
              (try simp only [Act.put, List.setIfInBounds_toArray, List.set_cons_succ, List.set_cons_zero])
              rw [wpHd_nil]
              go_wp2_with fail
              refine NoPanic.normal ?_
              go_wp2_with fail
              go_ret
              exact ⟨by rw [HF.out, HN.out, HS.out]; rfl, B1.out.trans (BD.out.mono B1.out.size)⟩
            · obtain ⟨wd, hwd⟩ : ∃ wd, wo.drew = wd := ⟨_, rfl⟩
              have BD : Hid (Below w1.heap.size w1 wd) := Lib.hid (by rw [← hwd]; exact BO.out.drew)
              refine wp_region_br [false, true, false, false, false, false, true, false, true, false, true, false, true, false, false, false, false, true, false, false] 20 (fun w' => Below w1.heap.size w1 w') (by kernel_rfl) (by kernel_rfl) (by rw [hwd]; exact BD.out) ?_
              rw [hwd]
              clear hwd
              simp only [List.take_succ_cons, List.take_zero, List.drop_succ_cons, List.drop_zero]
              refine ⟨_, .inl ⟨rfl, fun w' hw' => (by clear hw'; go_simp; (try rfl))⟩, ?_⟩
              (try simp only [Act.put, List.setIfInBounds_toArray, List.set_cons_succ, List.set_cons_zero])
              refine ⟨_, .inl ⟨rfl, fun w' hw' => (by obtain ⟨-, -, -, -, -, -, a6, -, a8, -, -⟩ := HB.out.facts hw'; clear hw'; go_simp; (try rfl))⟩, ?_⟩
              (try simp only [Act.put, List.setIfInBounds_toArray, List.set_cons_succ, List.set_cons_zero])
              refine ⟨_, .inl ⟨rfl, fun w' hw' => (by clear hw'; go_simp; (try rfl))⟩, ?_⟩
              (try simp only [Act.put, List.setIfInBounds_toArray, List.set_cons_succ, List.set_cons_zero])
              refine ⟨_, .inl ⟨rfl, fun w' hw' => (by clear hw'; go_simp; (try rfl))⟩, ?_⟩
              (try simp only [Act.put, List.setIfInBounds_toArray, List.set_cons_succ, List.set_cons_zero])
              refine ⟨_, .inl ⟨rfl, fun w' hw' => (by clear hw'; go_simp; (try rfl))⟩, ?_⟩
              (try simp only [Act.put, List.setIfInBounds_toArray, List.set_cons_succ, List.set_cons_zero])
              refine ⟨_, .inl ⟨rfl, fun w' hw' => (by clear hw'; go_simp; (try rfl))⟩, ?_⟩
              (try simp only [Act.put, List.setIfInBounds_toArray, List.set_cons_succ, List.set_cons_zero])
              refine ⟨_, .inl ⟨rfl, fun w' hw' => (by obtain ⟨-, -, -, -, -, -, a6, -, a8, -, -⟩ := HB.out.facts hw'; clear hw'; go_simp; (try rfl))⟩, ?_⟩
              (try simp only [Act.put, List.setIfInBounds_toArray, List.set_cons_succ, List.set_cons_zero])
              refine ⟨_, .inl ⟨rfl, fun w' hw' => (by clear hw'; go_simp; (try rfl))⟩, ?_⟩
              (try simp only [Act.put, List.setIfInBounds_toArray, List.set_cons_succ, List.set_cons_zero])
              refine ⟨_, yieldsIf_load_mid rfl 27 _ rfl b o rfl p0.cells _ (fun w' hw' => P0.out w' hw') Tryz.underlying27 rfl (by rw [id_sz]; exact size_idv), ?_⟩
              (try simp only [Act.put, List.setIfInBounds_toArray, List.set_cons_succ, List.set_cons_zero])
              refine ⟨_, .inl ⟨rfl, fun w' hw' => (by clear hw'; go_simp; (try rfl))⟩, ?_⟩
              (try simp only [Act.put, List.setIfInBounds_toArray, List.set_cons_succ, List.set_cons_zero])
              refine ⟨_, .inl ⟨rfl, fun w' hw' => (by obtain ⟨-, -, -, -, -, -, a6, -, a8, -, -⟩ := HB.out.facts hw'; clear hw'; go_simp; (try rfl))⟩, ?_⟩
              (try simp only [Act.put, List.setIfInBounds_toArray, List.set_cons_succ, List.set_cons_zero])
              refine ⟨_, .inl ⟨rfl, fun w' hw' => (by clear hw'; go_simp; (try rfl))⟩, ?_⟩
              (try simp only [Act.put, List.setIfInBounds_toArray, List.set_cons_succ, List.set_cons_zero])
              refine ⟨_, yieldsIf_load_mid rfl 27 _ rfl b (o + 32) rfl p1.cells _ (fun w' hw' => P1.out w' hw') Tryz.underlying27 rfl (by rw [id_sz]; exact size_idv), ?_⟩
              (try simp only [Act.put, List.setIfInBounds_toArray, List.set_cons_succ, List.set_cons_zero])
              refine ⟨_, .inl ⟨rfl, fun w' hw' => (by clear hw'; have e := HNE.out w'; go_simp; (try rfl))⟩, ?_⟩
              (try simp only [Act.put, List.setIfInBounds_toArray, List.set_cons_succ, List.set_cons_zero])
              refine ⟨_, .inl ⟨rfl, fun w' hw' => (by clear hw'; go_simp; (try rfl))⟩, ?_⟩
              (try simp only [Act.put, List.setIfInBounds_toArray, List.set_cons_succ, List.set_cons_zero])
              refine ⟨_, .inl ⟨rfl, fun w' hw' => (by clear hw'; go_simp; (try rfl))⟩, ?_⟩
              (try simp only [Act.put, List.setIfInBounds_toArray, List.set_cons_succ, List.set_cons_zero])
              refine ⟨_, .inl ⟨rfl, fun w' hw' => (by clear hw'; go_simp; (try rfl))⟩, ?_⟩
              (try simp only [Act.put, List.setIfInBounds_toArray, List.set_cons_succ, List.set_cons_zero])
              refine ⟨_, .inl ⟨rfl, fun w' hw' => (by obtain ⟨-, -, -, -, -, -, a6, -, a8, -, -⟩ := HB.out.facts hw'; clear hw'; go_simp; (try rfl))⟩, ?_⟩
              (try simp only [Act.put, List.setIfInBounds_toArray, List.set_cons_succ, List.set_cons_zero])
              refine ⟨_, .inl ⟨rfl, fun w' hw' => (by clear hw'; go_simp; (try rfl))⟩, ?_⟩
              (try simp only [Act.put, List.setIfInBounds_toArray, List.set_cons_succ, List.set_cons_zero])
              refine ⟨_, .inl ⟨rfl, fun w' hw' => (by clear hw'; go_simp; (try rfl))⟩, ?_⟩
              (try simp only [Act.put, List.setIfInBounds_toArray, List.set_cons_succ, List.set_cons_zero])
              rw [wpHd_nil]
              go_wp2_with fail
              refine NoPanic.normal ?_
              go_wp2_with fail
              go_ret
              exact ⟨by rw [HF.out, HN.out, HS.out]; rfl, B1.out.trans (BD.out.mono B1.out.size)⟩
          · obtain ⟨wd, hwd⟩ : ∃ wd, wo.drew = wd := ⟨_, rfl⟩
            have BD : Hid (Below w1.heap.size w1 wd) := Lib.hid (by rw [← hwd]; exact BO.out.drew)
            refine wp_region_br [false, true, false, false, false, false, true, false, true, false, true, false, true, false, false, false, false, false, false, false] 20 (fun w' => Below w1.heap.size w1 w') (by kernel_rfl) (by kernel_rfl) (by rw [hwd]; exact BD.out) ?_
            rw [hwd]
            clear hwd
            simp only [List.take_succ_cons, List.take_zero, List.drop_succ_cons, List.drop_zero]
            refine ⟨_, .inl ⟨rfl, fun w' hw' => (by clear hw'; go_simp; (try rfl))⟩, ?_⟩
            (try simp only [Act.put, List.setIfInBounds_toArray, List.set_cons_succ, List.set_cons_zero])
            refine ⟨_, .inl ⟨rfl, fun w' hw' => (by obtain ⟨-, -, -, -, -, -, a6, -, a8, -, -⟩ := HB.out.facts hw'; clear hw'; go_simp; (try rfl))⟩, ?_⟩
            (try simp only [Act.put, List.setIfInBounds_toArray, List.set_cons_succ, List.set_cons_zero])
            refine ⟨_, .inl ⟨rfl, fun w' hw' => (by clear hw'; go_simp; (try rfl))⟩, ?_⟩
            (try simp only [Act.put, List.setIfInBounds_toArray, List.set_cons_succ, List.set_cons_zero])
            refine ⟨_, .inl ⟨rfl, fun w' hw' => (by clear hw'; go_simp; (try rfl))⟩, ?_⟩
            (try simp only [Act.put, List.setIfInBounds_toArray, List.set_cons_succ, List.set_cons_zero])
            refine ⟨_, .inl ⟨rfl, fun w' hw' => (by clear hw'; go_simp; (try rfl))⟩, ?_⟩
            (try simp only [Act.put, List.setIfInBounds_toArray, List.set_cons_succ, List.set_cons_zero])
            refine ⟨_, .inl ⟨rfl, fun w' hw' => (by clear hw'; go_simp; (try rfl))⟩, ?_⟩
            (try simp only [Act.put, List.setIfInBounds_toArray, List.set_cons_succ, List.set_cons_zero])
            refine ⟨_, .inl ⟨rfl, fun w' hw' => (by obtain ⟨-, -, -, -, -, -, a6, -, a8, -, -⟩ := HB.out.facts hw'; clear hw'; go_simp; (try rfl))⟩, ?_⟩
            (try simp only [Act.put, List.setIfInBounds_toArray, List.set_cons_succ, List.set_cons_zero])
            refine ⟨_, .inl ⟨rfl, fun w' hw' => (by clear hw'; go_simp; (try rfl))⟩, ?_⟩
            (try simp only [Act.put, List.setIfInBounds_toArray, List.set_cons_succ, List.set_cons_zero])
            refine ⟨_, yieldsIf_load_mid rfl 27 _ rfl b o rfl p0.cells _ (fun w' hw' => P0.out w' hw') Tryz.underlying27 rfl (by rw [id_sz]; exact size_idv), ?_⟩
            (try simp only [Act.put, List.setIfInBounds_toArray, List.set_cons_succ, List.set_cons_zero])
            refine ⟨_, .inl ⟨rfl, fun w' hw' => (by clear hw'; go_simp; (try rfl))⟩, ?_⟩
            (try simp only [Act.put, List.setIfInBounds_toArray, List.set_cons_succ, List.set_cons_zero])
            refine ⟨_, .inl ⟨rfl, fun w' hw' => (by obtain ⟨-, -, -, -, -, -, a6, -, a8, -, -⟩ := HB.out.facts hw'; clear hw'; go_simp; (try rfl))⟩, ?_⟩
            (try simp only [Act.put, List.setIfInBounds_toArray, List.set_cons_succ, List.set_cons_zero])
            refine ⟨_, .inl ⟨rfl, fun w' hw' => (by clear hw'; go_simp; (try rfl))⟩, ?_⟩
            (try simp only [Act.put, List.setIfInBounds_toArray, List.set_cons_succ, List.set_cons_zero])
            refine ⟨_, yieldsIf_load_mid rfl 27 _ rfl b (o + 32) rfl p1.cells _ (fun w' hw' => P1.out w' hw') Tryz.underlying27 rfl (by rw [id_sz]; exact size_idv), ?_⟩
            (try simp only [Act.put, List.setIfInBounds_toArray, List.set_cons_succ, List.set_cons_zero])
            refine ⟨_, .inl ⟨rfl, fun w' hw' => (by clear hw'; have e := HNE.out w'; go_simp; (try rfl))⟩, ?_⟩
            (try simp only [Act.put, List.setIfInBounds_toArray, List.set_cons_succ, List.set_cons_zero])
            refine ⟨_, .inl ⟨rfl, fun w' hw' => (by clear hw'; go_simp; (try rfl))⟩, ?_⟩
            (try simp only [Act.put, List.setIfInBounds_toArray, List.set_cons_succ, List.set_cons_zero])
            refine ⟨_, .inl ⟨rfl, fun w' hw' => (by clear hw'; go_simp; (try rfl))⟩, ?_⟩
            (try simp only [Act.put, List.setIfInBounds_toArray, List.set_cons_succ, List.set_cons_zero])
            refine ⟨_, .inr ⟨rfl, rfl⟩, ?_⟩
            (try simp only [Act.put, List.setIfInBounds_toArray, List.set_cons_succ, List.set_cons_zero])
            refine ⟨_, .inr ⟨rfl, rfl⟩, ?_⟩
            (try simp only [Act.put, List.setIfInBounds_toArray, List.set_cons_succ, List.set_cons_zero])
            refine ⟨_, .inr ⟨rfl, rfl⟩, ?_⟩
            (try simp only [Act.put, List.setIfInBounds_toArray, List.set_cons_succ, List.set_cons_zero])
            refine ⟨_, .inl ⟨rfl, fun w' hw' => (by clear hw'; go_simp; (try rfl))⟩, ?_⟩
            (try simp only [Act.put, List.setIfInBounds_toArray, List.set_cons_succ, List.set_cons_zero])
            rw [wpHd_nil]
            go_wp2_with fail
            refine NoPanic.normal ?_
            go_wp2_with fail
            go_ret
            exact ⟨by rw [HF.out, HN.out, HS.out]; rfl, B1.out.trans (BD.out.mono B1.out.size)⟩
        · have d4 : ((nP : Int) == 2) = false := by simp; omega
          have HS : Hid (sq = false) := Lib.hid (by rw [← HSQ.out]; exact styleW_3n K1 K2 K3 (by rw [HLP.out]; exact N2P))
          go_upto_region 13 with fail
          clear a0 a1 a2 a3 a6 a7 a8 a9 a10
          obtain ⟨wd, hwd⟩ : ∃ wd, wo.drew = wd := ⟨_, rfl⟩
          have BD : Hid (Below w1.heap.size w1 wd) := Lib.hid (by rw [← hwd]; exact BO.out.drew)
          refine wp_region_br [false, true, false, false, false, false, false, false, false, false, false, false, false, false, false, false, false, false, false, false] 20 (fun w' => Below w1.heap.size w1 w') (by kernel_rfl) (by kernel_rfl) (by rw [hwd]; exact BD.out) ?_
          rw [hwd]
          clear hwd
          simp only [List.take_succ_cons, List.take_zero, List.drop_succ_cons, List.drop_zero]
          refine ⟨_, .inl ⟨rfl, fun w' hw' => (by clear hw'; go_simp; (try rfl))⟩, ?_⟩
          (try simp only [Act.put, List.setIfInBounds_toArray, List.set_cons_succ, List.set_cons_zero])
          refine ⟨_, .inl ⟨rfl, fun w' hw' => (by obtain ⟨-, -, -, -, -, -, a6, -, a8, -, -⟩ := HB.out.facts hw'; clear hw'; go_simp; (try rfl))⟩, ?_⟩
          (try simp only [Act.put, List.setIfInBounds_toArray, List.set_cons_succ, List.set_cons_zero])
          refine ⟨_, .inl ⟨rfl, fun w' hw' => (by clear hw'; go_simp; (try rfl))⟩, ?_⟩
          (try simp only [Act.put, List.setIfInBounds_toArray, List.set_cons_succ, List.set_cons_zero])
          refine ⟨_, .inl ⟨rfl, fun w' hw' => (by clear hw'; go_simp; (try rfl))⟩, ?_⟩
          (try simp only [Act.put, List.setIfInBounds_toArray, List.set_cons_succ, List.set_cons_zero])
          refine ⟨_, .inl ⟨rfl, fun w' hw' => (by clear hw'; go_simp; (try rfl))⟩, ?_⟩
          (try simp only [Act.put, List.setIfInBounds_toArray, List.set_cons_succ, List.set_cons_zero])
          refine ⟨_, .inr ⟨rfl, rfl⟩, ?_⟩
          (try simp only [Act.put, List.setIfInBounds_toArray, List.set_cons_succ, List.set_cons_zero])
          refine ⟨_, .inr ⟨rfl, rfl⟩, ?_⟩
          (try simp only [Act.put, List.setIfInBounds_toArray, List.set_cons_succ, List.set_cons_zero])
          refine ⟨_, .inr ⟨rfl, rfl⟩, ?_⟩
          (try simp only [Act.put, List.setIfInBounds_toArray, List.set_cons_succ, List.set_cons_zero])
          refine ⟨_, .inr ⟨rfl, rfl⟩, ?_⟩
          (try simp only [Act.put, List.setIfInBounds_toArray, List.set_cons_succ, List.set_cons_zero])
          refine ⟨_, .inr ⟨rfl, rfl⟩, ?_⟩
          (try simp only [Act.put, List.setIfInBounds_toArray, List.set_cons_succ, List.set_cons_zero])
          refine ⟨_, .inr ⟨rfl, rfl⟩, ?_⟩
          (try simp only [Act.put, List.setIfInBounds_toArray, List.set_cons_succ, List.set_cons_zero])
          refine ⟨_, .inr ⟨rfl, rfl⟩, ?_⟩
          (try simp only [Act.put, List.setIfInBounds_toArray, List.set_cons_succ, List.set_cons_zero])
          refine ⟨_, .inr ⟨rfl, rfl⟩, ?_⟩
          (try simp only [Act.put, List.setIfInBounds_toArray, List.set_cons_succ, List.set_cons_zero])
          refine ⟨_, .inr ⟨rfl, rfl⟩, ?_⟩
          (try simp only [Act.put, List.setIfInBounds_toArray, List.set_cons_succ, List.set_cons_zero])
          refine ⟨_, .inl ⟨rfl, fun w' hw' => (by clear hw'; go_simp; (try rfl))⟩, ?_⟩
          (try simp only [Act.put, List.setIfInBounds_toArray, List.set_cons_succ, List.set_cons_zero])
          refine ⟨_, .inl ⟨rfl, fun w' hw' => (by clear hw'; go_simp; (try rfl))⟩, ?_⟩
          (try simp only [Act.put, List.setIfInBounds_toArray, List.set_cons_succ, List.set_cons_zero])
          refine ⟨_, .inr ⟨rfl, rfl⟩, ?_⟩
          (try simp only [Act.put, List.setIfInBounds_toArray, List.set_cons_succ, List.set_cons_zero])
          refine ⟨_, .inr ⟨rfl, rfl⟩, ?_⟩
          (try simp only [Act.put, List.setIfInBounds_toArray, List.set_cons_succ, List.set_cons_zero])
          refine ⟨_, .inr ⟨rfl, rfl⟩, ?_⟩
          (try simp only [Act.put, List.setIfInBounds_toArray, List.set_cons_succ, List.set_cons_zero])
          refine ⟨_, .inl ⟨rfl, fun w' hw' => (by clear hw'; go_simp; (try rfl))⟩, ?_⟩
          (try simp only [Act.put, List.setIfInBounds_toArray, List.set_cons_succ, List.set_cons_zero])
          rw [wpHd_nil]
          go_wp2_with fail
          refine NoPanic.normal ?_
          go_wp2_with fail
          go_ret
          exact ⟨by rw [HF.out, HN.out, HS.out]; rfl, B1.out.trans (BD.out.mono B1.out.size)⟩
      · have d3 : (x.style == 3) = false := by simp [K3]
        have HS : Hid (sq = false) := Lib.hid (by rw [← HSQ.out]; exact styleW_0 K1 K2 K3)
        go_wp2_with fail
        go_ret
        exact ⟨by rw [HF.out, HN.out, HS.out]; rfl, GE.out⟩
end Go.Proofs.YtcofkhmgmemkmaaGreatDoor
