/-
  STAGE 6's REFERENCE: Links.
  STAGE 6's REFERENCE: a commit's style.
-/
import Derived.Test.YtnkhoghdfncgpaaGreatDoorK47
import Derived.Test.YtnkhoghdfncgpaaGreatDoorK23
import Derived.Test.YtnkhoghdfncgpaaGreatDoorK18
namespace Go.Proofs.YtnkhoghdfncgpaaGreatDoor
set_option linter.unusedVariables false
set_option linter.unusedSimpArgs false
open Go.RowKit Go.WideShapes Go.ChangeShapes Go.Deep Go.Shelf
attribute [local irreducible] wpQuiet

theorem wp_oneI {W : World} {op : Oper} {a : Act} {K : Act → World → Prop} {Q : Exit → Act → World → Prop} (x : Operand) (ho : op.op = .buildSlice 27 1 #[(0, x)]) (i : Idv) (hx : a.eval x = idV i)
    (h : K (a.put op.dst (.slice (some ⟨W.heap.size, 0, none⟩) 1 1)) (W.alloc (.cells i.cells.toArray 26))) : op.wp Tryz.prog a W K Q := by
  obtain ⟨i0, hi, hz, hz1, hz2⟩ := info_parts info_idv
  have := one_of Tryz.underlying27 hi hz (k := 32) (by omega) (by omega) hz1 idz_sz i.cells (id_sz _) (idV i) rfl W
  unfold Oper.wp execOp
  simp only [ho, List.map_toArray, List.map_cons, List.map_nil, hx, this, Sem.run_bind, Result.andThen_ok]
  exact h
theorem one_sqI (W : World) (i : Idv) : SqI (W.alloc (.cells i.cells.toArray 26)) (W.alloc (.cells i.cells.toArray 26)).heap.size (some ⟨W.heap.size, 0, none⟩) 1 1 [i] :=
  ⟨rfl, Nat.le_refl _, by unfold maxLen; omega, (fun e => by cases e), id_sz, fun _ => ⟨W.heap.size, 0, rfl, by simp, by
    have := (Lies.new W i.cells 26).rg
    simpa using this⟩⟩
set_option maxRecDepth 100000 in
set_option maxHeartbeats 8000000 in
theorem Links6_any {w : World} {x : Ov} {L P E : Sl} (h : Obj3 w w.heap.size x L P E) (hm : Lim L P E) :
    Calls Tryz.prog 18 #[ofV (x.at_ L P E)] w fun e w' => (∃ A n c, e = .returned (.slice A n c) ∧ SqI w' w'.heap.size A n c (linksW x) ∧ OwnI w' w.heap.size A n c (linksW x)) ∧ Below w.heap.size w w' := by
  obtain ⟨ox, w1, hb⟩ := Bxo.mk_ w x L P E
  have HB := Lib.hid hb
  rw [hb.eq]
  have HL : Hid (∀ W, Below w.heap.size w W → Obj3 W w.heap.size x L P E) := Lib.hid fun W hW => h.below hW
  obtain ⟨AL, nL, cL⟩ := L
  obtain ⟨AP, nP, cP⟩ := P
  obtain ⟨AE, nE, cE⟩ := E
  have hnL : nL ≤ 100000 := hm.l
  have hnP : nP ≤ 100000 := hm.p
  have HLL : Hid (x.lv.length = nL) := Lib.hid h.l.len
  clear h hb
  go_enter Tryz.func18, Tryz.ntmps18
  go_upto_region 1 with fail
  rw [HB.out.al]
  have B1 := Lib.hid HB.out.bl
  obtain ⟨a0, -, a2, -, -, -, a6, -, -, -, -⟩ := HB.out.facts (Below.refl _ _)
  by_cases K2 : x.kind = 2
  · have d2 : (x.kind == 2) = true := by simp [K2]
    have HLK : Hid (linksW x = x.lv.map Lf.id) := Lib.hid (if_pos K2)
    clear K2
    go_wp2_with fail
    go_loopw [3, 13] (fun v i wr => ∃ (k : Nat) (B : Option Addr) (cc : Nat), k ≤ nL ∧ i = .int .i64 (k : Int) ∧ v = .slice B k cc ∧ Hid (OwnI wr w1.heap.size B k cc ((x.lv.take k).map Lf.id)) ∧ Hid (Below w1.heap.size w1 wr)) (fun _ i _ => nL - (intOf i).toNat)
    case atStart => exact ⟨0, none, 0, Nat.zero_le _, rfl, rfl, Lib.hid ⟨rfl, .inl ⟨rfl, rfl⟩⟩, Lib.hid (Below.refl _ _)⟩
    case round =>
      obtain ⟨k, B, cc, hk, rfl, rfl, hown, hbr⟩ := hrel
      have BR : Hid (Below w.heap.size w wr) := Lib.hid (B1.out.trans (hbr.out.mono B1.out.size))
      by_cases hlt : k < nL
      · have hd : decide ((k : Int) < (nL : Int)) = true := by simp; omega
        have hk0 : (0 : Int) ≤ (k : Int) := Int.natCast_nonneg _
        have hk1 : (k : Int) < (nL : Int) := by omega
        obtain ⟨b, o, rfl, hbl, hrg⟩ := (HL.out wr BR.out).l.at_ hlt
        have hkl : k < x.lv.length := by rw [HLL.out]; exact hlt
        have HST : Hid ((x.lv.take (k + 1)).map Lf.id = (x.lv.take k).map Lf.id ++ [x.lv[k].id]) := Lib.hid (by rw [List.take_succ_eq_append_getElem hkl, List.map_append, List.map_cons, List.map_nil])
        obtain ⟨r, hr⟩ : ∃ r, x.lv[k] = r := ⟨_, rfl⟩
        rw [hr] at hrg HST
        obtain ⟨wA, hwA⟩ : ∃ wA, wr.alloc (.cells zLf.cells.toArray 74) = wA := ⟨_, rfl⟩
        have YA : Lies wA wr.heap.size 33 zLf.cells := by
          rw [← hwA]
          have := Lies.new wr zLf.cells 74
          rwa [lf_sz] at this
        obtain ⟨w5, hw5⟩ : ∃ w5, wA.setCells wr.heap.size 0 r.cells = w5 := ⟨_, rfl⟩
        have Y5 : Lies w5 wr.heap.size 33 r.cells := by rw [← hw5]; exact YA.set_ (lf_sz _)
        have C5 : Below wr.heap.size wr w5 := by rw [← hw5, ← hwA]; exact below_setCells ((Below.refl _ _).alloc (Nat.le_refl _) _) (Nat.le_refl _) _ _
        have B5 : Hid (Below w1.heap.size w1 w5) := Lib.hid (hbr.out.trans (C5.mono hbr.out.size))
        have O5 : Hid (OwnI w5 w1.heap.size B k cc ((x.lv.take k).map Lf.id)) := Lib.hid (own_fresh hown.out C5)
        have HWA := Lib.hid hwA
        have HW5 := Lib.hid hw5
        have TA := Lib.hid YA.th
        have HRG := Lib.hid hrg
        have R1 : Hid (w5.rangeAt wr.heap.size 1 r.id.cells) := Lib.hid (by
          have := Y5.rg
          unfold Lf.cells at this
          rw [show (Value.string r.p :: S3.bvs r.id.b) = [Value.string r.p] ++ S3.bvs r.id.b from rfl, rangeAt_app] at this
          exact this.2)
        obtain ⟨i0, hi, hz, hz1, hz2⟩ := info_parts info_idv
        clear hwA hw5 YA Y5 C5 hrg hr
        go_upto_region 7 with (first
          | ((with_reducible refine ldl (.tmp 15) ?_ ?_ b (o + k * 33) r ?_ HRG.out ?_); rfl; rfl; (first | rfl | go_simp))
          | ((with_reducible refine alt 74 ?_ ?_ zLf.cells zero_lf ?_); rfl; rfl; rw [HWA.out]; (try simp only [Act.put, List.setIfInBounds_toArray, List.set_cons_succ, List.set_cons_zero]))
          | ((with_reducible refine stl (.tmp 5) (.tmp 16) ?_ ?_ wr.heap.size 0 r ?_ ?_ TA.out ?_); rfl; rfl; rfl; rfl; rw [HW5.out])
          | fail)
        go_wp2_with (first
          | ((with_reducible refine ldi (.tmp 18) ?_ ?_ wr.heap.size 1 r.id ?_ R1.out ?_); rfl; rfl; (first | rfl | go_simp))
          | ((with_reducible refine oneL Tryz.underlying27 hi hz (k := 32) (by omega) (by omega) hz1 idz_sz (.tmp 19) ?_ ?_ r.id.cells (id_sz _) ?_ ?_); rfl; rfl; rfl; (try simp only [Act.put, List.setIfInBounds_toArray, List.set_cons_succ, List.set_cons_zero]))
          | (at_builtin; refine api1 (w := w5) (i := r.id) ?_ (.tmp 17) (.tmp 20) ?_ ?_ ?_ O5.out ?_ B5.out.size ?_; rfl; rfl; rfl; rfl; omega; intro A6 c6 w6 own bel; have O6 := Lib.hid own; have B6 := Lib.hid (B5.out.trans bel); clear own bel)
          | fail)
        go_roundw
        case rel => exact ⟨k + 1, A6, c6, by omega, by go_num, rfl, Lib.hid (by rw [HST.out]; exact O6.out), B6⟩
        case measure => simp [intOf]; omega
      · have hd : decide ((k : Int) < (nL : Int)) = false := by simp; omega
        have ek : nL = k := by omega
        subst ek
        have etk : x.lv.take nL = x.lv := List.take_of_length_le (by rw [HLL.out]; exact Nat.le_refl _)
        rw [etk, ← HLK.out] at hown
        go_wp2_with fail
        go_ret
        exact ⟨⟨B, nL, cc, rfl, own_sq hown.out id_sz (by omega), own_base hown.out B1.out.size⟩, BR.out⟩
  · have d2 : (x.kind == 2) = false := by simp [K2]
    by_cases K3 : x.kind = 3
    · have d3 : (x.kind == 3) = true := by simp [K3]
      have HLK : Hid (linksW x = x.tree :: x.ps) := Lib.hid ((if_neg K2).trans (if_pos K3))
      obtain ⟨i0, hi, hz, hz1, hz2⟩ := info_parts info_idv
      clear K2 K3
      go_upto_region 10 with fail
      clear a2 a6
      obtain ⟨wd, hwd⟩ : ∃ wd, w1.drew = wd := ⟨_, rfl⟩
      have BD : Hid (Below w1.heap.size w1 wd) := Lib.hid (by rw [← hwd]; exact (Below.refl _ _).drew)
      refine wp_region_noPanic (wp_region_any (by kernel_rfl) (wpAny_of_bk (S := fun w' => Below w1.heap.size w1 w') (m := 8) _ _ _ _ ?_))
      show wpBk _ _ _ _ _ _ 9 _ _ w1.drew
      rw [hwd]
      clear hwd
      refine wpBk_takeP (i := 0) rfl (by kernel_rfl) (fun _ _ _ _ h => h) (.inl ⟨rfl, fun w' hw' => (by clear hw'; go_simp; (try rfl))⟩) ?_
      simp only [List.getElem_toArray, List.getElem_cons_zero, List.getElem_cons_succ, Act.put, List.setIfInBounds_toArray, List.set_cons_succ, List.set_cons_zero]
      refine wpBk_takeP (i := 1) rfl (by kernel_rfl) (fun _ _ _ _ h => h) (.inl ⟨rfl, fun w' hw' => (by clear hw'; go_simp; (try rfl))⟩) ?_
      simp only [List.getElem_toArray, List.getElem_cons_zero, List.getElem_cons_succ, Act.put, List.setIfInBounds_toArray, List.set_cons_succ, List.set_cons_zero]
      refine wpBk_take (i := 2) rfl (by kernel_rfl) (fun _ _ _ _ h => h) (yieldsIf_load_mid rfl 26 (.tmp 26) rfl w.heap.size 4 rfl x.tree.cells _ (fun w' hw' => (HB.out.facts hw').2.2.2.2.1) Tryz.underlying26 rfl (by rw [id_sz]; exact size_idv)) BD.out ?_
      simp only [List.getElem_toArray, List.getElem_cons_zero, List.getElem_cons_succ, Act.put, List.setIfInBounds_toArray, List.set_cons_succ, List.set_cons_zero]
      refine wpBk_takeP (i := 5) rfl (by kernel_rfl) (fun _ _ _ _ h => h) (.inl ⟨rfl, fun w' hw' => (by clear hw'; go_simp; (try rfl))⟩) ?_
      simp only [List.getElem_toArray, List.getElem_cons_zero, List.getElem_cons_succ, Act.put, List.setIfInBounds_toArray, List.set_cons_succ, List.set_cons_zero]
      refine wpBk_take (i := 6) rfl (by kernel_rfl) (fun _ _ _ _ h => h) (.inl ⟨rfl, fun w' hw' => (by have q := (HB.out.facts hw').2.2.2.2.2.2.1; clear hw'; go_simp; (try rfl))⟩) BD.out ?_
      simp only [List.getElem_toArray, List.getElem_cons_zero, List.getElem_cons_succ, Act.put, List.setIfInBounds_toArray, List.set_cons_succ, List.set_cons_zero]
      have O0 : Hid (OwnI wd w1.heap.size none 0 0 []) := Lib.hid ⟨rfl, .inl ⟨rfl, rfl⟩⟩
      refine wpBk_one (i := 3) rfl rfl (by kernel_rfl) (fun K hK => ?_)
      refine wp_oneI (.tmp 27) rfl x.tree rfl ?_
      obtain ⟨wa, hwa⟩ : ∃ wa, wd.alloc (.cells x.tree.cells.toArray 26) = wa := ⟨_, rfl⟩
      have CA : Below wd.heap.size wd wa := by rw [← hwa]; exact (Below.refl _ _).alloc (Nat.le_refl _) _
      have BA : Hid (Below w1.heap.size w1 wa) := Lib.hid (BD.out.trans (CA.mono BD.out.size))
      have O1 : Hid (OwnI wa w1.heap.size none 0 0 []) := Lib.hid (own_down O0.out CA)
      have SA : Hid (SqI wa wa.heap.size (some ⟨wd.heap.size, 0, none⟩) 1 1 [x.tree]) := Lib.hid (by rw [← hwa]; exact one_sqI wd x.tree)
      rw [hwa]
      clear hwa CA O0
      refine hK _ _ ⟨fun _ _ => BA.out, ?_⟩
      simp only [List.getElem_toArray, List.getElem_cons_zero, List.getElem_cons_succ, Act.put, List.setIfInBounds_toArray, List.set_cons_succ, List.set_cons_zero]
      refine wpBk_one (i := 4) rfl rfl (by kernel_rfl) (fun K hK => ?_)
      refine wp_append_sq (f := Idv.cells) (.tmp 25) (.tmp 28) 27 rfl w1.heap.size 26 i0 _ _ Tryz.underlying27 hi hz hz1 hz2 idz_sz (by omega) (.slice none 0 0) 0 [] rfl O1.out rfl SA.out (id_ones _) (by omega) (by omega) BA.out.size ?_
      intro v1 w2 hown hg
      obtain ⟨A2, c2, rfl⟩ := own_shape hown
      have B2 : Hid (Below w1.heap.size w1 w2) := Lib.hid (BA.out.trans (below_own O1.out hg BA.out.size))
      have O2 : Hid (OwnI w2 w1.heap.size A2 1 c2 [x.tree]) := Lib.hid hown
      clear hown hg SA O1
      refine hK _ _ ⟨fun _ _ => B2.out, ?_⟩
      simp only [List.getElem_toArray, List.getElem_cons_zero, List.getElem_cons_succ, Act.put, List.setIfInBounds_toArray, List.set_cons_succ, List.set_cons_zero]
      have SP : Hid (SqI w2 w2.heap.size AP nP cP x.ps) := Lib.hid ((HL.out w2 (B1.out.trans (B2.out.mono B1.out.size))).p.more (Nat.le_trans B1.out.size B2.out.size))
      refine wpBk_one (i := 7) rfl rfl (by kernel_rfl) (fun K hK => ?_)
      refine wp_append_sq (f := Idv.cells) (.tmp 29) (.tmp 31) 27 rfl w1.heap.size 26 i0 _ _ Tryz.underlying27 hi hz hz1 hz2 idz_sz (by omega) (.slice A2 1 c2) 1 [x.tree] rfl O2.out rfl SP.out (id_ones _) (by omega) (by omega) B2.out.size ?_
      intro v2 w3 hown hg
      obtain ⟨A3, c3, rfl⟩ := own_shape hown
      have B3 : Hid (Below w1.heap.size w1 w3) := Lib.hid (B2.out.trans (below_own O2.out hg B2.out.size))
      have O3 : Hid (OwnI w3 w1.heap.size A3 (1 + nP) c3 (x.tree :: x.ps)) := Lib.hid hown
      clear hown hg SP O2
      refine hK _ _ ⟨fun _ _ => B3.out, ?_⟩
      simp only [List.getElem_toArray, List.getElem_cons_zero, List.getElem_cons_succ, Act.put, List.setIfInBounds_toArray, List.set_cons_succ, List.set_cons_zero]
      refine bk_drop 8 1 rfl (by omega) (by kernel_rfl) ?_
      simp only [List.drop_succ_cons, List.drop_zero]
      go_wp2_with fail
      refine NoPanic.normal ?_
      go_wp2_with fail
      go_ret
      exact ⟨⟨A3, 1 + nP, c3, rfl, by rw [HLK.out]; exact own_sq O3.out id_sz (by omega), by rw [HLK.out]; exact own_base O3.out B1.out.size⟩, B1.out.trans (B3.out.mono B1.out.size)⟩
    · have d3 : (x.kind == 3) = false := by simp [K3]
      have HLK : Hid (linksW x = []) := Lib.hid ((if_neg K2).trans (if_neg K3))
      go_wp2_with fail
      go_ret
      exact ⟨⟨none, 0, 0, rfl, by rw [HLK.out]; exact Sq.nil_ id_sz, by rw [HLK.out]; exact ⟨rfl, .inl ⟨rfl, rfl⟩⟩⟩, B1.out⟩
end Go.Proofs.YtnkhoghdfncgpaaGreatDoor
namespace Go.Proofs.YtnkhoghdfncgpaaGreatDoor
set_option linter.unusedVariables false
set_option linter.unusedSimpArgs false
open Go.RowKit Go.WideShapes Go.ChangeShapes Go.Deep Go.Shelf
attribute [local irreducible] wpQuiet

def style6R (x : Ov) : Bool := !(hasI x.ps Idv.zero) && styleW x
set_option maxRecDepth 100000 in
set_option maxHeartbeats 8000000 in
theorem style6_any {w : World} {x : Ov} {L P E : Sl} (h : Obj3 w w.heap.size x L P E) (hm : Lim L P E) :
    Calls Tryz.prog 58 #[ofV (x.at_ L P E)] w fun e w' => e = .returned (.bool (style6R x)) ∧ Below w.heap.size w w' := by
  obtain ⟨ox, w1, hb⟩ := Bxo.mk_ w x L P E
  have HB := Lib.hid hb
  rw [hb.eq]
  obtain ⟨AL, nL, cL⟩ := L
  obtain ⟨AP, nP, cP⟩ := P
  obtain ⟨AE, nE, cE⟩ := E
  have HPS : Hid (∀ W, Below w1.heap.size w1 W → SqI W W.heap.size AP nP cP x.ps) := Lib.hid fun W hW => (h.p.below (hb.bl.trans (hW.mono hb.bl.size))).more (Nat.le_trans hb.bl.size hW.size)
  have HLP : Hid (x.ps.length = nP) := Lib.hid h.p.len
  have HLE : Hid (x.es.length = nE) := Lib.hid h.e.len
  have hnP : nP ≤ 100000 := hm.p
  obtain ⟨zI, hzI⟩ : ∃ z, Idv.zero = z := ⟨_, rfl⟩
  have ZB : Hid (Tryz.prog.built 26 [] = some zI.cells.toArray) := Lib.hid (by rw [← hzI]; exact zb_id)
  have ZI : Hid (∀ w : World, (zeroValue 26).run Tryz.prog w = .ok (.agg zI.cells.toArray) w) := Lib.hid (by rw [← hzI]; exact zero_id)
  obtain ⟨hq, hhq⟩ : ∃ q, hasI x.ps zI = q := ⟨_, rfl⟩
  obtain ⟨sq, hsq⟩ : ∃ q, styleW x = q := ⟨_, rfl⟩
  have HF : Hid (style6R x = (!hq && sq)) := Lib.hid (by unfold style6R; rw [hzI, hhq, hsq])
  have HZI := Lib.hid hzI
  have HHQ := Lib.hid hhq
  have HSQ := Lib.hid hsq
  clear h hb hzI hhq hsq
  go_enter Tryz.func58, Tryz.ntmps58
  go_upto_region 1 with fail
  rw [HB.out.al]
  have B1 := Lib.hid HB.out.bl
  have q6 := (HB.out.facts (Below.refl _ _)).2.2.2.2.2.2.1
  have hnp0 : (0 : Int) ≤ (nP : Int) := Int.natCast_nonneg _
  go_wp2_with fail
  clear q6
  go_loopw [8] (fun i wr => ∃ k : Nat, k ≤ nP ∧ i = .int .i64 (k : Int) ∧ Hid (∀ j (hj : j < x.ps.length), j < k → (x.ps[j].b == zI.b) = false) ∧ Hid (Below w1.heap.size w1 wr)) (fun i _ => nP - (intOf i).toNat)
  case atStart => exact ⟨0, Nat.zero_le _, rfl, Lib.hid (fun j hj h => absurd h (by omega)), Lib.hid (Below.refl _ _)⟩
  case round =>
    obtain ⟨k, hk, rfl, hno, hbr⟩ := hrel
    by_cases hlt : k < nP
    · have hd : decide ((k : Int) < (nP : Int)) = true := by simp; omega
      have hk0 : (0 : Int) ≤ (k : Int) := Int.natCast_nonneg _
      have hk1 : (k : Int) < (nP : Int) := by omega
      obtain ⟨b, o, rfl, hbl, hrg⟩ := (HPS.out wr hbr.out).at_ hlt
      have hkl : k < x.ps.length := by rw [HLP.out]; exact hlt
      obtain ⟨p, hp⟩ : ∃ p, x.ps[k] = p := ⟨_, rfl⟩
      rw [hp] at hrg
      have HRG := Lib.hid hrg
      have HP := Lib.hid hp
      obtain ⟨T, hT⟩ : ∃ T, wr.heap.size = T := ⟨_, rfl⟩
      obtain ⟨wA, hwA⟩ : ∃ wA, wr.alloc (.cells zI.cells.toArray 26) = wA := ⟨_, rfl⟩
      obtain ⟨w5, hw5⟩ : ∃ w5, wA.setCells T 0 p.cells = w5 := ⟨_, rfl⟩
      have YA : Hid (Lies wA T 32 zI.cells) := Lib.hid (by rw [← hwA, ← hT]; have := Lies.new wr zI.cells 26; rwa [id_sz] at this)
      have RT : Hid (w5.rangeAt T 0 p.cells) := Lib.hid (by rw [← hw5]; exact (YA.out.set_ (id_sz _)).rg)
      have B5 : Hid (Below w1.heap.size w1 w5) := Lib.hid (by rw [← hw5, ← hwA]; exact hbr.out.trans ((below_setCells ((Below.refl wr.heap.size _).alloc (Nat.le_refl _) _) (by omega) _ _).mono hbr.out.size))
      have HWA := Lib.hid hwA
      have HW5 := Lib.hid hw5
      have TA := Lib.hid YA.out.th
      obtain ⟨e, he⟩ : ∃ q, (p.b == zI.b) = q := ⟨_, rfl⟩
      have EQ : ∀ w, (binOp .eql 26 (idV p) (.agg zI.cells.toArray)).run Tryz.prog w = .ok (.bool e) w := fun w => by rw [← he]; exact eql_id p zI w
      have HE := Lib.hid he
      clear hwA hw5 YA hrg hp he
      go_upto_region 4 with (first
        | ((with_reducible refine ldi (.tmp 10) ?_ ?_ b (o + k * 32) p ?_ HRG.out ?_); rfl; rfl; (first | rfl | go_simp))
        | ((with_reducible refine alt 26 ?_ ?_ zI.cells ZI.out ?_); rfl; rfl; rw [HWA.out]; (try simp only [Act.put, List.setIfInBounds_toArray, List.set_cons_succ, List.set_cons_zero, hT]))
        | ((with_reducible refine sti (.tmp 4) (.tmp 11) ?_ ?_ T 0 p ?_ ?_ TA.out ?_); rfl; rfl; rfl; rfl; rw [HW5.out])
        | fail)
      cases e
      · go_wp2_with (first
          | ((with_reducible refine ldi (.tmp 4) ?_ ?_ T 0 p ?_ RT.out ?_); rfl; rfl; rfl)
          | ((with_reducible refine bdt 26 [] ?_ ?_ zI.cells.toArray ?_ ?_); rfl; (first | rfl | go_simp); exact ZB.out)
          | fail)
        go_roundw
        case rel => exact ⟨k + 1, by omega, by go_num, Lib.hid (fun j hj h => by
            by_cases e : j = k
            · subst e; rw [HP.out]; exact HE.out
            · exact hno.out j hj (by omega)), B5⟩
        case measure => simp [intOf]; omega
      · have HY : Hid (hq = true) := Lib.hid (by rw [← HHQ.out]; unfold hasI; rw [List.any_eq_true]; exact ⟨p, by rw [← HP.out]; exact List.getElem_mem hkl, by have := HE.out; simp only [beq_iff_eq] at this ⊢; exact this.symm⟩)
        go_wp2_with (first
          | ((with_reducible refine ldi (.tmp 4) ?_ ?_ T 0 p ?_ RT.out ?_); rfl; rfl; rfl)
          | ((with_reducible refine bdt 26 [] ?_ ?_ zI.cells.toArray ?_ ?_); rfl; (first | rfl | go_simp); exact ZB.out)
          | fail)
        go_ret
        exact ⟨by rw [HF.out, HY.out]; rfl, B1.out.trans (B5.out.mono B1.out.size)⟩
    · have hd : decide ((k : Int) < (nP : Int)) = false := by simp; omega
      have HN : Hid (hq = false) := Lib.hid (by rw [← HHQ.out]; exact hasI_no fun j hj => by have h9 := hno.out j hj (by have := HLP.out; omega); rw [beq_eq_false_iff_ne] at h9 ⊢; exact fun e => h9 e.symm)
      obtain ⟨wo, hwo⟩ : ∃ wo : World, wo = wr := ⟨_, rfl⟩
      have BO : Hid (Below w1.heap.size w1 wo) := Lib.hid (by rw [hwo]; exact hbr.out)
      rw [← hwo]
      have GE := Lib.hid (B1.out.trans (BO.out.mono B1.out.size))
      clear hwo hbr hno hd hk
      obtain ⟨a0, a1, a2, a3, R4, R5, a6, a7, a8, a9, a10⟩ := HB.out.facts BO.out
      replace R5 := Lib.hid R5
      clear R4
      by_cases K1 : x.style = 1
      · have d1 : (x.style == 1) = true := by simp [K1]
        obtain ⟨s0, h0⟩ : ∃ q, ((nP : Int) == 0) = q := ⟨_, rfl⟩
        obtain ⟨s1, h1⟩ : ∃ q, (x.base.b == zI.b) = q := ⟨_, rfl⟩
        obtain ⟨s2, h2⟩ : ∃ q, ((nE : Int) == 0) = q := ⟨_, rfl⟩
        obtain ⟨s3, h3⟩ : ∃ q, ((x.num : Int) == 0) = q := ⟨_, rfl⟩
        have HS : Hid (sq = (s0 && s1 && s2 && s3)) := Lib.hid (by
          rw [← HSQ.out, styleW_1 K1, ← h0, ← h1, ← h2, ← h3, HZI.out, beq0 HLP.out, beq0 HLE.out, beq0 (rfl : x.num = x.num)])
        have E5 : ∀ w, (binOp .eql 26 (idV x.base) (.agg zI.cells.toArray)).run Tryz.prog w = .ok (.bool s1) w := fun w => by rw [← h1]; exact eql_id x.base zI w
        clear h1
        cases s0
        · go_wp2_with (first
              | ((with_reducible refine ldi (.tmp 25) ?_ ?_ w.heap.size 36 x.base ?_ R5.out ?_); rfl; (first | rfl | go_simp); (first | rfl | go_simp))
              | ((with_reducible refine ldi (.tmp 49) ?_ ?_ w.heap.size 36 x.base ?_ R5.out ?_); rfl; (first | rfl | go_simp); (first | rfl | go_simp))
              | ((with_reducible refine bdt 26 [] ?_ ?_ zI.cells.toArray ?_ ?_); rfl; (first | rfl | go_simp); exact ZB.out)
              | fail)
          go_ret
          exact ⟨by rw [HF.out, HN.out, HS.out]; rfl, GE.out⟩
        cases s1
        · go_wp2_with (first
              | ((with_reducible refine ldi (.tmp 25) ?_ ?_ w.heap.size 36 x.base ?_ R5.out ?_); rfl; (first | rfl | go_simp); (first | rfl | go_simp))
              | ((with_reducible refine ldi (.tmp 49) ?_ ?_ w.heap.size 36 x.base ?_ R5.out ?_); rfl; (first | rfl | go_simp); (first | rfl | go_simp))
              | ((with_reducible refine bdt 26 [] ?_ ?_ zI.cells.toArray ?_ ?_); rfl; (first | rfl | go_simp); exact ZB.out)
              | fail)
          go_ret
          exact ⟨by rw [HF.out, HN.out, HS.out]; rfl, GE.out⟩
        cases s2
        · go_wp2_with (first
              | ((with_reducible refine ldi (.tmp 25) ?_ ?_ w.heap.size 36 x.base ?_ R5.out ?_); rfl; (first | rfl | go_simp); (first | rfl | go_simp))
              | ((with_reducible refine ldi (.tmp 49) ?_ ?_ w.heap.size 36 x.base ?_ R5.out ?_); rfl; (first | rfl | go_simp); (first | rfl | go_simp))
              | ((with_reducible refine bdt 26 [] ?_ ?_ zI.cells.toArray ?_ ?_); rfl; (first | rfl | go_simp); exact ZB.out)
              | fail)
          go_ret
          exact ⟨by rw [HF.out, HN.out, HS.out]; rfl, GE.out⟩
        cases s3
        · go_wp2_with (first
              | ((with_reducible refine ldi (.tmp 25) ?_ ?_ w.heap.size 36 x.base ?_ R5.out ?_); rfl; (first | rfl | go_simp); (first | rfl | go_simp))
              | ((with_reducible refine ldi (.tmp 49) ?_ ?_ w.heap.size 36 x.base ?_ R5.out ?_); rfl; (first | rfl | go_simp); (first | rfl | go_simp))
              | ((with_reducible refine bdt 26 [] ?_ ?_ zI.cells.toArray ?_ ?_); rfl; (first | rfl | go_simp); exact ZB.out)
              | fail)
          go_ret
          exact ⟨by rw [HF.out, HN.out, HS.out]; rfl, GE.out⟩
        go_wp2_with (first
            | ((with_reducible refine ldi (.tmp 25) ?_ ?_ w.heap.size 36 x.base ?_ R5.out ?_); rfl; (first | rfl | go_simp); (first | rfl | go_simp))
            | ((with_reducible refine ldi (.tmp 49) ?_ ?_ w.heap.size 36 x.base ?_ R5.out ?_); rfl; (first | rfl | go_simp); (first | rfl | go_simp))
            | ((with_reducible refine bdt 26 [] ?_ ?_ zI.cells.toArray ?_ ?_); rfl; (first | rfl | go_simp); exact ZB.out)
            | fail)
        go_ret
        exact ⟨by rw [HF.out, HN.out, HS.out]; rfl, GE.out⟩
      have d1 : (x.style == 1) = false := by simp [K1]
      by_cases K2 : x.style = 2
      · have d2 : (x.style == 2) = true := by simp [K2]
        obtain ⟨s0, h0⟩ : ∃ q, ((nP : Int) == 1) = q := ⟨_, rfl⟩
        obtain ⟨s1, h1⟩ : ∃ q, (x.base.b == zI.b) = q := ⟨_, rfl⟩
        obtain ⟨s2, h2⟩ : ∃ q, decide (0 < x.num) = q := ⟨_, rfl⟩
        have HS : Hid (sq = (s0 && s1 && s2)) := Lib.hid (by
          rw [← HSQ.out, styleW_2 K1 K2, ← h0, ← h1, ← h2, HZI.out, beq1 HLP.out])
        have E5 : ∀ w, (binOp .eql 26 (idV x.base) (.agg zI.cells.toArray)).run Tryz.prog w = .ok (.bool s1) w := fun w => by rw [← h1]; exact eql_id x.base zI w
        clear h1
        cases s0
        · go_wp2_with (first
              | ((with_reducible refine ldi (.tmp 25) ?_ ?_ w.heap.size 36 x.base ?_ R5.out ?_); rfl; (first | rfl | go_simp); (first | rfl | go_simp))
              | ((with_reducible refine ldi (.tmp 49) ?_ ?_ w.heap.size 36 x.base ?_ R5.out ?_); rfl; (first | rfl | go_simp); (first | rfl | go_simp))
              | ((with_reducible refine bdt 26 [] ?_ ?_ zI.cells.toArray ?_ ?_); rfl; (first | rfl | go_simp); exact ZB.out)
              | fail)
          go_ret
          exact ⟨by rw [HF.out, HN.out, HS.out]; rfl, GE.out⟩
        cases s1
        · go_wp2_with (first
              | ((with_reducible refine ldi (.tmp 25) ?_ ?_ w.heap.size 36 x.base ?_ R5.out ?_); rfl; (first | rfl | go_simp); (first | rfl | go_simp))
              | ((with_reducible refine ldi (.tmp 49) ?_ ?_ w.heap.size 36 x.base ?_ R5.out ?_); rfl; (first | rfl | go_simp); (first | rfl | go_simp))
              | ((with_reducible refine bdt 26 [] ?_ ?_ zI.cells.toArray ?_ ?_); rfl; (first | rfl | go_simp); exact ZB.out)
              | fail)
          go_ret
          exact ⟨by rw [HF.out, HN.out, HS.out]; rfl, GE.out⟩
        cases s2
        · go_wp2_with (first
              | ((with_reducible refine ldi (.tmp 25) ?_ ?_ w.heap.size 36 x.base ?_ R5.out ?_); rfl; (first | rfl | go_simp); (first | rfl | go_simp))
              | ((with_reducible refine ldi (.tmp 49) ?_ ?_ w.heap.size 36 x.base ?_ R5.out ?_); rfl; (first | rfl | go_simp); (first | rfl | go_simp))
              | ((with_reducible refine bdt 26 [] ?_ ?_ zI.cells.toArray ?_ ?_); rfl; (first | rfl | go_simp); exact ZB.out)
              | fail)
          go_ret
          exact ⟨by rw [HF.out, HN.out, HS.out]; rfl, GE.out⟩
        go_wp2_with (first
            | ((with_reducible refine ldi (.tmp 25) ?_ ?_ w.heap.size 36 x.base ?_ R5.out ?_); rfl; (first | rfl | go_simp); (first | rfl | go_simp))
            | ((with_reducible refine ldi (.tmp 49) ?_ ?_ w.heap.size 36 x.base ?_ R5.out ?_); rfl; (first | rfl | go_simp); (first | rfl | go_simp))
            | ((with_reducible refine bdt 26 [] ?_ ?_ zI.cells.toArray ?_ ?_); rfl; (first | rfl | go_simp); exact ZB.out)
            | fail)
        go_ret
        exact ⟨by rw [HF.out, HN.out, HS.out]; rfl, GE.out⟩
      have d2 : (x.style == 2) = false := by simp [K2]
      by_cases K3 : x.style = 3
      · have d3 : (x.style == 3) = true := by simp [K3]
        by_cases N2P : nP = 2
        · obtain ⟨p0, p1, hps⟩ : ∃ p0 p1, x.ps = [p0, p1] := by
            have := HLP.out
            match hx : x.ps, this with
            | [a, b], _ => exact ⟨a, b, rfl⟩
            | [], e => simp at e; omega
            | [a], e => simp at e; omega
            | a :: b :: c :: r, e => simp at e; omega
          obtain ⟨b, o, rfl, -, -⟩ := (HPS.out w1 (Below.refl _ _)).at_ (i := 0) (by omega)
          have P0 : Hid (∀ W, Below w1.heap.size w1 W → W.rangeAt b o p0.cells) := Lib.hid fun W hW => by
            obtain ⟨b', o', e, -, hr⟩ := (HPS.out W hW).at_ (i := 0) (by omega)
            injection e with e
            injection e with e1 e2
            subst e1 e2
            simpa [hps] using hr
          have P1 : Hid (∀ W, Below w1.heap.size w1 W → W.rangeAt b (o + 32) p1.cells) := Lib.hid fun W hW => by
            obtain ⟨b', o', e, -, hr⟩ := (HPS.out W hW).at_ (i := 1) (by omega)
            injection e with e
            injection e with e1 e2
            subst e1 e2
            simpa [hps] using hr
          subst N2P
          obtain ⟨s1, h1⟩ : ∃ q, (p0.b == p1.b) = q := ⟨_, rfl⟩
          obtain ⟨s2, h2⟩ : ∃ q, decide (0 < x.num) = q := ⟨_, rfl⟩
          have HNE : Hid (∀ w, (Op.equalIn 10000 26 (.agg p0.cells.toArray) (.agg p1.cells.toArray)).run Tryz.prog w = .ok s1 w) := Lib.hid (fun w => by rw [← h1]; exact eq_id p0 p1 w)
          have HS : Hid (sq = (!s1 && s2)) := Lib.hid (by rw [← HSQ.out, styleW_3 K1 K2 K3, hps, ← h1, ← h2]; rfl)
          have H22 := Lib.hid h2
          clear h1 hps h2
          go_upto_region 13 with fail
          clear a0 a1 a2 a3 a6 a7 a8 a9 a10
          cases s1
          · have h2 := H22.out
            cases s2
            · obtain ⟨wd, hwd⟩ : ∃ wd, wo.drew = wd := ⟨_, rfl⟩
              have BD : Hid (Below w1.heap.size w1 wd) := Lib.hid (by rw [← hwd]; exact BO.out.drew)
              refine wp_region_br [false, true, false, false, false, false, true, false, true, false, true, false, true, false, false, false, false, true, false, false] 20 (fun w' => Below w1.heap.size w1 w') (by kernel_rfl) (by kernel_rfl) (by rw [hwd]; exact BD.out) ?_
              rw [hwd]
              clear hwd
              simp only [List.take_succ_cons, List.take_zero, List.drop_succ_cons, List.drop_zero]
              refine ⟨_, .inl ⟨rfl, fun w' hw' => (by clear hw'; go_simp; (try rfl))⟩, ?_⟩
              (try simp only [Act.put, List.setIfInBounds_toArray, List.set_cons_succ, List.set_cons_zero])
              refine ⟨_, .inl ⟨rfl, fun w' hw' => (by obtain ⟨-, -, -, -, -, -, a6, -, a8, -, -⟩ := HB.out.facts hw'; clear hw'; go_simp; (try rfl))⟩, ?_⟩
              (try simp only [Act.put, List.setIfInBounds_toArray, List.set_cons_succ, List.set_cons_zero])
              refine ⟨_, .inl ⟨rfl, fun w' hw' => (by clear hw'; go_simp; (try rfl))⟩, ?_⟩
              (try simp only [Act.put, List.setIfInBounds_toArray, List.set_cons_succ, List.set_cons_zero])
              refine ⟨_, .inl ⟨rfl, fun w' hw' => (by clear hw'; go_simp; (try rfl))⟩, ?_⟩
              (try simp only [Act.put, List.setIfInBounds_toArray, List.set_cons_succ, List.set_cons_zero])
              refine ⟨_, .inl ⟨rfl, fun w' hw' => (by clear hw'; go_simp; (try rfl))⟩, ?_⟩
              (try simp only [Act.put, List.setIfInBounds_toArray, List.set_cons_succ, List.set_cons_zero])
              refine ⟨_, .inl ⟨rfl, fun w' hw' => (by clear hw'; go_simp; (try rfl))⟩, ?_⟩
              (try simp only [Act.put, List.setIfInBounds_toArray, List.set_cons_succ, List.set_cons_zero])
              refine ⟨_, .inl ⟨rfl, fun w' hw' => (by obtain ⟨-, -, -, -, -, -, a6, -, a8, -, -⟩ := HB.out.facts hw'; clear hw'; go_simp; (try rfl))⟩, ?_⟩
              (try simp only [Act.put, List.setIfInBounds_toArray, List.set_cons_succ, List.set_cons_zero])
              refine ⟨_, .inl ⟨rfl, fun w' hw' => (by clear hw'; go_simp; (try rfl))⟩, ?_⟩
              (try simp only [Act.put, List.setIfInBounds_toArray, List.set_cons_succ, List.set_cons_zero])
              refine ⟨_, yieldsIf_load_mid rfl 26 _ rfl b o rfl p0.cells _ (fun w' hw' => P0.out w' hw') Tryz.underlying26 rfl (by rw [id_sz]; exact size_idv), ?_⟩
              (try simp only [Act.put, List.setIfInBounds_toArray, List.set_cons_succ, List.set_cons_zero])
              refine ⟨_, .inl ⟨rfl, fun w' hw' => (by clear hw'; go_simp; (try rfl))⟩, ?_⟩
              (try simp only [Act.put, List.setIfInBounds_toArray, List.set_cons_succ, List.set_cons_zero])
              refine ⟨_, .inl ⟨rfl, fun w' hw' => (by obtain ⟨-, -, -, -, -, -, a6, -, a8, -, -⟩ := HB.out.facts hw'; clear hw'; go_simp; (try rfl))⟩, ?_⟩
              (try simp only [Act.put, List.setIfInBounds_toArray, List.set_cons_succ, List.set_cons_zero])
              refine ⟨_, .inl ⟨rfl, fun w' hw' => (by clear hw'; go_simp; (try rfl))⟩, ?_⟩
              (try simp only [Act.put, List.setIfInBounds_toArray, List.set_cons_succ, List.set_cons_zero])
              refine ⟨_, yieldsIf_load_mid rfl 26 _ rfl b (o + 32) rfl p1.cells _ (fun w' hw' => P1.out w' hw') Tryz.underlying26 rfl (by rw [id_sz]; exact size_idv), ?_⟩
              (try simp only [Act.put, List.setIfInBounds_toArray, List.set_cons_succ, List.set_cons_zero])
              refine ⟨_, .inl ⟨rfl, fun w' hw' => (by clear hw'; have e := HNE.out w'; go_simp; (try rfl))⟩, ?_⟩
              (try simp only [Act.put, List.setIfInBounds_toArray, List.set_cons_succ, List.set_cons_zero])
              refine ⟨_, .inl ⟨rfl, fun w' hw' => (by clear hw'; go_simp; (try rfl))⟩, ?_⟩
              (try simp only [Act.put, List.setIfInBounds_toArray, List.set_cons_succ, List.set_cons_zero])
              refine ⟨_, .inl ⟨rfl, fun w' hw' => (by clear hw'; go_simp; (try rfl))⟩, ?_⟩
              (try simp only [Act.put, List.setIfInBounds_toArray, List.set_cons_succ, List.set_cons_zero])
              refine ⟨_, .inl ⟨rfl, fun w' hw' => (by clear hw'; go_simp; (try rfl))⟩, ?_⟩
              (try simp only [Act.put, List.setIfInBounds_toArray, List.set_cons_succ, List.set_cons_zero])
              refine ⟨_, .inl ⟨rfl, fun w' hw' => (by obtain ⟨-, -, -, -, -, -, a6, -, a8, -, -⟩ := HB.out.facts hw'; clear hw'; go_simp; (try rfl))⟩, ?_⟩
              (try simp only [Act.put, List.setIfInBounds_toArray, List.set_cons_succ, List.set_cons_zero])
              refine ⟨_, .inl ⟨rfl, fun w' hw' => (by clear hw'; go_simp; (try rfl))⟩, ?_⟩
              (try simp only [Act.put, List.setIfInBounds_toArray, List.set_cons_succ, List.set_cons_zero])
              refine ⟨_, .inl ⟨rfl, fun w' hw' => (by clear hw'; go_simp; (try rfl))⟩, ?_⟩
              (try simp only [Act.put, List.setIfInBounds_toArray, List.set_cons_succ, List.set_cons_zero])
              rw [wpHd_nil]
              go_wp2_with fail
              refine NoPanic.normal ?_
              go_wp2_with fail
              go_ret
              exact ⟨by rw [HF.out, HN.out, HS.out]; rfl, B1.out.trans (BD.out.mono B1.out.size)⟩
            · obtain ⟨wd, hwd⟩ : ∃ wd, wo.drew = wd := ⟨_, rfl⟩
              have BD : Hid (Below w1.heap.size w1 wd) := Lib.hid (by rw [← hwd]; exact BO.out.drew)
              refine wp_region_br [false, true, false, false, false, false, true, false, true, false, true, false, true, false, false, false, false, true, false, false] 20 (fun w' => Below w1.heap.size w1 w') (by kernel_rfl) (by kernel_rfl) (by rw [hwd]; exact BD.out) ?_
              rw [hwd]
              clear hwd
              simp only [List.take_succ_cons, List.take_zero, List.drop_succ_cons, List.drop_zero]
              refine ⟨_, .inl ⟨rfl, fun w' hw' => (by clear hw'; go_simp; (try rfl))⟩, ?_⟩
              (try simp only [Act.put, List.setIfInBounds_toArray, List.set_cons_succ, List.set_cons_zero])
              refine ⟨_, .inl ⟨rfl, fun w' hw' => (by obtain ⟨-, -, -, -, -, -, a6, -, a8, -, -⟩ := HB.out.facts hw'; clear hw'; go_simp; (try rfl))⟩, ?_⟩
              (try simp only [Act.put, List.setIfInBounds_toArray, List.set_cons_succ, List.set_cons_zero])
              refine ⟨_, .inl ⟨rfl, fun w' hw' => (by clear hw'; go_simp; (try rfl))⟩, ?_⟩
              (try simp only [Act.put, List.setIfInBounds_toArray, List.set_cons_succ, List.set_cons_zero])
              refine ⟨_, .inl ⟨rfl, fun w' hw' => (by clear hw'; go_simp; (try rfl))⟩, ?_⟩
              (try simp only [Act.put, List.setIfInBounds_toArray, List.set_cons_succ, List.set_cons_zero])
              refine ⟨_, .inl ⟨rfl, fun w' hw' => (by clear hw'; go_simp; (try rfl))⟩, ?_⟩
              (try simp only [Act.put, List.setIfInBounds_toArray, List.set_cons_succ, List.set_cons_zero])
              refine ⟨_, .inl ⟨rfl, fun w' hw' => (by clear hw'; go_simp; (try rfl))⟩, ?_⟩
              (try simp only [Act.put, List.setIfInBounds_toArray, List.set_cons_succ, List.set_cons_zero])
              refine ⟨_, .inl ⟨rfl, fun w' hw' => (by obtain ⟨-, -, -, -, -, -, a6, -, a8, -, -⟩ := HB.out.facts hw'; clear hw'; go_simp; (try rfl))⟩, ?_⟩
              (try simp only [Act.put, List.setIfInBounds_toArray, List.set_cons_succ, List.set_cons_zero])
              refine ⟨_, .inl ⟨rfl, fun w' hw' => (by clear hw'; go_simp; (try rfl))⟩, ?_⟩
              (try simp only [Act.put, List.setIfInBounds_toArray, List.set_cons_succ, List.set_cons_zero])
              refine ⟨_, yieldsIf_load_mid rfl 26 _ rfl b o rfl p0.cells _ (fun w' hw' => P0.out w' hw') Tryz.underlying26 rfl (by rw [id_sz]; exact size_idv), ?_⟩
              (try simp only [Act.put, List.setIfInBounds_toArray, List.set_cons_succ, List.set_cons_zero])
              refine ⟨_, .inl ⟨rfl, fun w' hw' => (by clear hw'; go_simp; (try rfl))⟩, ?_⟩
              (try simp only [Act.put, List.setIfInBounds_toArray, List.set_cons_succ, List.set_cons_zero])
              refine ⟨_, .inl ⟨rfl, fun w' hw' => (by obtain ⟨-, -, -, -, -, -, a6, -, a8, -, -⟩ := HB.out.facts hw'; clear hw'; go_simp; (try rfl))⟩, ?_⟩
              (try simp only [Act.put, List.setIfInBounds_toArray, List.set_cons_succ, List.set_cons_zero])
              refine ⟨_, .inl ⟨rfl, fun w' hw' => (by clear hw'; go_simp; (try rfl))⟩, ?_⟩
              (try simp only [Act.put, List.setIfInBounds_toArray, List.set_cons_succ, List.set_cons_zero])
              refine ⟨_, yieldsIf_load_mid rfl 26 _ rfl b (o + 32) rfl p1.cells _ (fun w' hw' => P1.out w' hw') Tryz.underlying26 rfl (by rw [id_sz]; exact size_idv), ?_⟩
              (try simp only [Act.put, List.setIfInBounds_toArray, List.set_cons_succ, List.set_cons_zero])
              refine ⟨_, .inl ⟨rfl, fun w' hw' => (by clear hw'; have e := HNE.out w'; go_simp; (try rfl))⟩, ?_⟩
              (try simp only [Act.put, List.setIfInBounds_toArray, List.set_cons_succ, List.set_cons_zero])
              refine ⟨_, .inl ⟨rfl, fun w' hw' => (by clear hw'; go_simp; (try rfl))⟩, ?_⟩
              (try simp only [Act.put, List.setIfInBounds_toArray, List.set_cons_succ, List.set_cons_zero])
              refine ⟨_, .inl ⟨rfl, fun w' hw' => (by clear hw'; go_simp; (try rfl))⟩, ?_⟩
              (try simp only [Act.put, List.setIfInBounds_toArray, List.set_cons_succ, List.set_cons_zero])
              refine ⟨_, .inl ⟨rfl, fun w' hw' => (by clear hw'; go_simp; (try rfl))⟩, ?_⟩
              (try simp only [Act.put, List.setIfInBounds_toArray, List.set_cons_succ, List.set_cons_zero])
              refine ⟨_, .inl ⟨rfl, fun w' hw' => (by obtain ⟨-, -, -, -, -, -, a6, -, a8, -, -⟩ := HB.out.facts hw'; clear hw'; go_simp; (try rfl))⟩, ?_⟩
              (try simp only [Act.put, List.setIfInBounds_toArray, List.set_cons_succ, List.set_cons_zero])
              refine ⟨_, .inl ⟨rfl, fun w' hw' => (by clear hw'; go_simp; (try rfl))⟩, ?_⟩
              (try simp only [Act.put, List.setIfInBounds_toArray, List.set_cons_succ, List.set_cons_zero])
              refine ⟨_, .inl ⟨rfl, fun w' hw' => (by clear hw'; go_simp; (try rfl))⟩, ?_⟩
              (try simp only [Act.put, List.setIfInBounds_toArray, List.set_cons_succ, List.set_cons_zero])
              rw [wpHd_nil]
              go_wp2_with fail
              refine NoPanic.normal ?_
              go_wp2_with fail
              go_ret
              exact ⟨by rw [HF.out, HN.out, HS.out]; rfl, B1.out.trans (BD.out.mono B1.out.size)⟩
          · obtain ⟨wd, hwd⟩ : ∃ wd, wo.drew = wd := ⟨_, rfl⟩
            have BD : Hid (Below w1.heap.size w1 wd) := Lib.hid (by rw [← hwd]; exact BO.out.drew)
            refine wp_region_br [false, true, false, false, false, false, true, false, true, false, true, false, true, false, false, false, false, false, false, false] 20 (fun w' => Below w1.heap.size w1 w') (by kernel_rfl) (by kernel_rfl) (by rw [hwd]; exact BD.out) ?_
            rw [hwd]
            clear hwd
            simp only [List.take_succ_cons, List.take_zero, List.drop_succ_cons, List.drop_zero]
            refine ⟨_, .inl ⟨rfl, fun w' hw' => (by clear hw'; go_simp; (try rfl))⟩, ?_⟩
            (try simp only [Act.put, List.setIfInBounds_toArray, List.set_cons_succ, List.set_cons_zero])
            refine ⟨_, .inl ⟨rfl, fun w' hw' => (by obtain ⟨-, -, -, -, -, -, a6, -, a8, -, -⟩ := HB.out.facts hw'; clear hw'; go_simp; (try rfl))⟩, ?_⟩
            (try simp only [Act.put, List.setIfInBounds_toArray, List.set_cons_succ, List.set_cons_zero])
            refine ⟨_, .inl ⟨rfl, fun w' hw' => (by clear hw'; go_simp; (try rfl))⟩, ?_⟩
            (try simp only [Act.put, List.setIfInBounds_toArray, List.set_cons_succ, List.set_cons_zero])
            refine ⟨_, .inl ⟨rfl, fun w' hw' => (by clear hw'; go_simp; (try rfl))⟩, ?_⟩
            (try simp only [Act.put, List.setIfInBounds_toArray, List.set_cons_succ, List.set_cons_zero])
            refine ⟨_, .inl ⟨rfl, fun w' hw' => (by clear hw'; go_simp; (try rfl))⟩, ?_⟩
            (try simp only [Act.put, List.setIfInBounds_toArray, List.set_cons_succ, List.set_cons_zero])
            refine ⟨_, .inl ⟨rfl, fun w' hw' => (by clear hw'; go_simp; (try rfl))⟩, ?_⟩
            (try simp only [Act.put, List.setIfInBounds_toArray, List.set_cons_succ, List.set_cons_zero])
            refine ⟨_, .inl ⟨rfl, fun w' hw' => (by obtain ⟨-, -, -, -, -, -, a6, -, a8, -, -⟩ := HB.out.facts hw'; clear hw'; go_simp; (try rfl))⟩, ?_⟩
            (try simp only [Act.put, List.setIfInBounds_toArray, List.set_cons_succ, List.set_cons_zero])
            refine ⟨_, .inl ⟨rfl, fun w' hw' => (by clear hw'; go_simp; (try rfl))⟩, ?_⟩
            (try simp only [Act.put, List.setIfInBounds_toArray, List.set_cons_succ, List.set_cons_zero])
            refine ⟨_, yieldsIf_load_mid rfl 26 _ rfl b o rfl p0.cells _ (fun w' hw' => P0.out w' hw') Tryz.underlying26 rfl (by rw [id_sz]; exact size_idv), ?_⟩
            (try simp only [Act.put, List.setIfInBounds_toArray, List.set_cons_succ, List.set_cons_zero])
            refine ⟨_, .inl ⟨rfl, fun w' hw' => (by clear hw'; go_simp; (try rfl))⟩, ?_⟩
            (try simp only [Act.put, List.setIfInBounds_toArray, List.set_cons_succ, List.set_cons_zero])
            refine ⟨_, .inl ⟨rfl, fun w' hw' => (by obtain ⟨-, -, -, -, -, -, a6, -, a8, -, -⟩ := HB.out.facts hw'; clear hw'; go_simp; (try rfl))⟩, ?_⟩
            (try simp only [Act.put, List.setIfInBounds_toArray, List.set_cons_succ, List.set_cons_zero])
            refine ⟨_, .inl ⟨rfl, fun w' hw' => (by clear hw'; go_simp; (try rfl))⟩, ?_⟩
            (try simp only [Act.put, List.setIfInBounds_toArray, List.set_cons_succ, List.set_cons_zero])
            refine ⟨_, yieldsIf_load_mid rfl 26 _ rfl b (o + 32) rfl p1.cells _ (fun w' hw' => P1.out w' hw') Tryz.underlying26 rfl (by rw [id_sz]; exact size_idv), ?_⟩
            (try simp only [Act.put, List.setIfInBounds_toArray, List.set_cons_succ, List.set_cons_zero])
            refine ⟨_, .inl ⟨rfl, fun w' hw' => (by clear hw'; have e := HNE.out w'; go_simp; (try rfl))⟩, ?_⟩
            (try simp only [Act.put, List.setIfInBounds_toArray, List.set_cons_succ, List.set_cons_zero])
            refine ⟨_, .inl ⟨rfl, fun w' hw' => (by clear hw'; go_simp; (try rfl))⟩, ?_⟩
            (try simp only [Act.put, List.setIfInBounds_toArray, List.set_cons_succ, List.set_cons_zero])
            refine ⟨_, .inl ⟨rfl, fun w' hw' => (by clear hw'; go_simp; (try rfl))⟩, ?_⟩
            (try simp only [Act.put, List.setIfInBounds_toArray, List.set_cons_succ, List.set_cons_zero])
            refine ⟨_, .inr ⟨rfl, rfl⟩, ?_⟩
            (try simp only [Act.put, List.setIfInBounds_toArray, List.set_cons_succ, List.set_cons_zero])
            refine ⟨_, .inr ⟨rfl, rfl⟩, ?_⟩
            (try simp only [Act.put, List.setIfInBounds_toArray, List.set_cons_succ, List.set_cons_zero])
            refine ⟨_, .inr ⟨rfl, rfl⟩, ?_⟩
            (try simp only [Act.put, List.setIfInBounds_toArray, List.set_cons_succ, List.set_cons_zero])
            refine ⟨_, .inl ⟨rfl, fun w' hw' => (by clear hw'; go_simp; (try rfl))⟩, ?_⟩
            (try simp only [Act.put, List.setIfInBounds_toArray, List.set_cons_succ, List.set_cons_zero])
            rw [wpHd_nil]
            go_wp2_with fail
            refine NoPanic.normal ?_
            go_wp2_with fail
            go_ret
            exact ⟨by rw [HF.out, HN.out, HS.out]; rfl, B1.out.trans (BD.out.mono B1.out.size)⟩
        · have d4 : ((nP : Int) == 2) = false := by simp; omega
          have HS : Hid (sq = false) := Lib.hid (by rw [← HSQ.out]; exact styleW_3n K1 K2 K3 (by rw [HLP.out]; exact N2P))
          go_upto_region 13 with fail
          clear a0 a1 a2 a3 a6 a7 a8 a9 a10
          obtain ⟨wd, hwd⟩ : ∃ wd, wo.drew = wd := ⟨_, rfl⟩
          have BD : Hid (Below w1.heap.size w1 wd) := Lib.hid (by rw [← hwd]; exact BO.out.drew)
          refine wp_region_br [false, true, false, false, false, false, false, false, false, false, false, false, false, false, false, false, false, false, false, false] 20 (fun w' => Below w1.heap.size w1 w') (by kernel_rfl) (by kernel_rfl) (by rw [hwd]; exact BD.out) ?_
          rw [hwd]
          clear hwd
          simp only [List.take_succ_cons, List.take_zero, List.drop_succ_cons, List.drop_zero]
          refine ⟨_, .inl ⟨rfl, fun w' hw' => (by clear hw'; go_simp; (try rfl))⟩, ?_⟩
          (try simp only [Act.put, List.setIfInBounds_toArray, List.set_cons_succ, List.set_cons_zero])
          refine ⟨_, .inl ⟨rfl, fun w' hw' => (by obtain ⟨-, -, -, -, -, -, a6, -, a8, -, -⟩ := HB.out.facts hw'; clear hw'; go_simp; (try rfl))⟩, ?_⟩
          (try simp only [Act.put, List.setIfInBounds_toArray, List.set_cons_succ, List.set_cons_zero])
          refine ⟨_, .inl ⟨rfl, fun w' hw' => (by clear hw'; go_simp; (try rfl))⟩, ?_⟩
          (try simp only [Act.put, List.setIfInBounds_toArray, List.set_cons_succ, List.set_cons_zero])
          refine ⟨_, .inl ⟨rfl, fun w' hw' => (by clear hw'; go_simp; (try rfl))⟩, ?_⟩
          (try simp only [Act.put, List.setIfInBounds_toArray, List.set_cons_succ, List.set_cons_zero])
          refine ⟨_, .inl ⟨rfl, fun w' hw' => (by clear hw'; go_simp; (try rfl))⟩, ?_⟩
          (try simp only [Act.put, List.setIfInBounds_toArray, List.set_cons_succ, List.set_cons_zero])
          refine ⟨_, .inr ⟨rfl, rfl⟩, ?_⟩
          (try simp only [Act.put, List.setIfInBounds_toArray, List.set_cons_succ, List.set_cons_zero])
          refine ⟨_, .inr ⟨rfl, rfl⟩, ?_⟩
          (try simp only [Act.put, List.setIfInBounds_toArray, List.set_cons_succ, List.set_cons_zero])
          refine ⟨_, .inr ⟨rfl, rfl⟩, ?_⟩
          (try simp only [Act.put, List.setIfInBounds_toArray, List.set_cons_succ, List.set_cons_zero])
          refine ⟨_, .inr ⟨rfl, rfl⟩, ?_⟩
          (try simp only [Act.put, List.setIfInBounds_toArray, List.set_cons_succ, List.set_cons_zero])
          refine ⟨_, .inr ⟨rfl, rfl⟩, ?_⟩
          (try simp only [Act.put, List.setIfInBounds_toArray, List.set_cons_succ, List.set_cons_zero])
          refine ⟨_, .inr ⟨rfl, rfl⟩, ?_⟩
          (try simp only [Act.put, List.setIfInBounds_toArray, List.set_cons_succ, List.set_cons_zero])
          refine ⟨_, .inr ⟨rfl, rfl⟩, ?_⟩
          (try simp only [Act.put, List.setIfInBounds_toArray, List.set_cons_succ, List.set_cons_zero])
          refine ⟨_, .inr ⟨rfl, rfl⟩, ?_⟩
          (try simp only [Act.put, List.setIfInBounds_toArray, List.set_cons_succ, List.set_cons_zero])
          refine ⟨_, .inr ⟨rfl, rfl⟩, ?_⟩
          (try simp only [Act.put, List.setIfInBounds_toArray, List.set_cons_succ, List.set_cons_zero])
          refine ⟨_, .inl ⟨rfl, fun w' hw' => (by clear hw'; go_simp; (try rfl))⟩, ?_⟩
          (try simp only [Act.put, List.setIfInBounds_toArray, List.set_cons_succ, List.set_cons_zero])
          refine ⟨_, .inl ⟨rfl, fun w' hw' => (by clear hw'; go_simp; (try rfl))⟩, ?_⟩
          (try simp only [Act.put, List.setIfInBounds_toArray, List.set_cons_succ, List.set_cons_zero])
          refine ⟨_, .inr ⟨rfl, rfl⟩, ?_⟩
          (try simp only [Act.put, List.setIfInBounds_toArray, List.set_cons_succ, List.set_cons_zero])
          refine ⟨_, .inr ⟨rfl, rfl⟩, ?_⟩
          (try simp only [Act.put, List.setIfInBounds_toArray, List.set_cons_succ, List.set_cons_zero])
          refine ⟨_, .inr ⟨rfl, rfl⟩, ?_⟩
          (try simp only [Act.put, List.setIfInBounds_toArray, List.set_cons_succ, List.set_cons_zero])
          refine ⟨_, .inl ⟨rfl, fun w' hw' => (by clear hw'; go_simp; (try rfl))⟩, ?_⟩
          (try simp only [Act.put, List.setIfInBounds_toArray, List.set_cons_succ, List.set_cons_zero])
          rw [wpHd_nil]
          go_wp2_with fail
          refine NoPanic.normal ?_
          go_wp2_with fail
          go_ret
          exact ⟨by rw [HF.out, HN.out, HS.out]; rfl, B1.out.trans (BD.out.mono B1.out.size)⟩
      · have d3 : (x.style == 3) = false := by simp [K3]
        have HS : Hid (sq = false) := Lib.hid (by rw [← HSQ.out]; exact styleW_0 K1 K2 K3)
        go_wp2_with fail
        go_ret
        exact ⟨by rw [HF.out, HN.out, HS.out]; rfl, GE.out⟩
end Go.Proofs.YtnkhoghdfncgpaaGreatDoor
