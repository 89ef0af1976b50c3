/-
  STAGE 6's REFERENCE: which objects' fields are right.
-/
import Derived.Test.YtcofkhmgmemkmaaGreatDoorK46
import Derived.Test.YtcofkhmgmemkmaaGreatDoorK44
import Derived.Test.YtcofkhmgmemkmaaGreatDoorK42
namespace Go.Proofs.YtcofkhmgmemkmaaGreatDoor
set_option linter.unusedVariables false
set_option linter.unusedSimpArgs false
open Go.RowKit Go.WideShapes Go.ChangeShapes Go.Deep Go.Shelf
attribute [local irreducible] wpQuiet

/-- The leaves are right, one by one. -/
def LvOk (l : List Lf) (k : Nat) : Prop := (∀ j (hj : j < l.length), j < k → pathW l[j].p = true ∧ (l[j].id.b == Idv.zero.b) = false) ∧ ∀ j (hj : j + 1 < l.length), j + 1 < k → lt l[j].p l[j + 1].p = true
open Classical in
noncomputable def leavesR (l : List Lf) : Bool := decide (LvOk l l.length)
theorem leaves_yes {l : List Lf} (h : LvOk l l.length) : leavesR l = true := by unfold leavesR; exact (by classical exact decide_eq_true h)
theorem leaves_no {l : List Lf} (h : ¬ LvOk l l.length) : leavesR l = false := by unfold leavesR; exact (by classical exact decide_eq_false h)
noncomputable def fieldsR (x : Ov) : Bool :=
  if x.kind = 1 then decide ((x.text.size : Int) ≤ 256) && (x.lv.length == 0) && noneR x
  else if x.kind = 2 then leavesR x.lv && decide ((x.lv.length : Int) ≤ 32) && (x.text.toList == []) && noneR x
  else if x.kind = 3 then (x.text.toList == []) && (x.lv.length == 0) && !(x.tree.b == Idv.zero.b) && rightC x.es && decide ((x.note.size : Int) ≤ 200) && style6R x
  else false
set_option maxRecDepth 100000 in
set_option maxHeartbeats 8000000 in
theorem fields6_any {w : World} {x : Ov} {L P E : Sl} (h : Obj3 w w.heap.size x L P E) (hm : Lim L P E) (hlp : ∀ l ∈ x.lv, l.p.size ≤ 1000000) (hep : ∀ r ∈ x.es, r.p.size ≤ 1000000) :
    Calls Tryz.prog 40 #[ofV (x.at_ L P E)] w fun e w' => e = .returned (.bool (fieldsR x)) ∧ Below w.heap.size w w' := by
  obtain ⟨ox, w1, hb⟩ := Bxo.mk_ w x L P E
  have HB := Lib.hid hb
  rw [hb.eq]
  have HL : Hid (∀ W, Below w.heap.size w W → Obj3 W W.heap.size x L P E) := Lib.hid fun W hW => (h.below hW).more hW.size
  have CN : Hid (∀ W, Below w.heap.size w W → Calls Tryz.prog 59 #[ofV ox] W fun e w' => e = .returned (.bool (noneR x)) ∧ Below W.heap.size W w') := Lib.hid fun W hW => by rw [← hb.eq]; exact none6_any (HL.out W hW)
  have CS : Hid (∀ W, Below w.heap.size w W → Calls Tryz.prog 62 #[ofV ox] W fun e w' => e = .returned (.bool (style6R x)) ∧ Below W.heap.size W w') := Lib.hid fun W hW => by rw [← hb.eq]; exact style6_any (HL.out W hW) hm
  have RO : Hid (∀ W, Below w1.heap.size w1 W → W.rangeAt w.heap.size 0 ox.cells) := Lib.hid fun W hW => hb.rg hW
  have HLM := Lib.hid hm
  obtain ⟨AL, nL, cL⟩ := L
  obtain ⟨AP, nP, cP⟩ := P
  obtain ⟨AE, nE, cE⟩ := E
  have CE : Hid (∀ W, Below w.heap.size w W → Calls Tryz.prog 61 #[.agg #[.slice AE nE cE]] W fun e w' => e = .returned (.bool (rightC x.es)) ∧ Below W.heap.size W w') := Lib.hid fun W hW => refRightE_any (HL.out W hW).e (by have := hm.e; show nE ≤ _; have : nE ≤ 100000 := this; omega) hep
  have HLL : Hid (x.lv.length = nL) := Lib.hid h.l.len
  have HLP := Lib.hid hlp
  have hnL : nL ≤ 100000 := hm.l
  obtain ⟨zI, hzI⟩ : ∃ z, Idv.zero = z := ⟨_, rfl⟩
  have HZI := Lib.hid hzI
  have ZB : Hid (Tryz.prog.built 27 [] = some zI.cells.toArray) := Lib.hid (by rw [← hzI]; exact zb_id)
  obtain ⟨zl, hzl⟩ : ∃ z, zLf = z := ⟨_, rfl⟩
  have ZL : Hid (∀ w : World, (zeroValue 68).run Tryz.prog w = .ok (.agg zl.cells.toArray) w) := Lib.hid (by rw [← hzl]; exact zero_lf)
  clear h hb hm hlp hep hzI hzl
  go_enter Tryz.func40, Tryz.ntmps40
  go_upto_region 1 with fail
  rw [HB.out.al]
  have B1 := Lib.hid HB.out.bl
  obtain ⟨a0, a1, a2, a3, R4, -, a6, a7, a8, a9, a10⟩ := HB.out.facts (Below.refl _ _)
  replace R4 := Lib.hid R4
  by_cases K1 : x.kind = 1
  · have d1 : (x.kind == 1) = true := by simp [K1]
    obtain ⟨q0, h0⟩ : ∃ q, decide ((x.text.size : Int) ≤ 256) = q := ⟨_, rfl⟩
    obtain ⟨q1, h1⟩ : ∃ q, ((nL : Int) == 0) = q := ⟨_, rfl⟩
    obtain ⟨q2, h2⟩ : ∃ q, noneR x = q := ⟨_, rfl⟩
    have HF : Hid (fieldsR x = (q0 && q1 && q2)) := Lib.hid (by unfold fieldsR; rw [if_pos K1, h0, h2, ← h1, nat_int0, HLL.out])
    rw [h2] at CN
    clear h2 K1
    cases q0
    · go_wp2_with fail
      go_ret
      exact ⟨by rw [HF.out]; rfl, B1.out⟩
    cases q1
    · go_wp2_with fail
      go_ret
      exact ⟨by rw [HF.out]; rfl, B1.out⟩
    go_wp2_with (first
      | ((with_reducible refine ldo (.tmp 1) ?_ ?_ w.heap.size 0 ox ?_ (RO.out w1 (Below.refl _ _)) ?_); rfl; (first | rfl | go_simp); (first | rfl | go_simp))
      | fail)
    refine (CN.out w1 B1.out).mono ?_
    rintro e w2 ⟨rfl, hb2⟩
    dsimp only
    have B2 := Lib.hid (B1.out.trans (hb2.mono B1.out.size))
    clear hb2
    go_wp2_with fail
    go_ret
    exact ⟨by rw [HF.out]; rfl, B2.out⟩
  have d1 : (x.kind == 1) = false := by simp [K1]
  by_cases K2 : x.kind = 2
  · have d2 : (x.kind == 2) = true := by simp [K2]
    obtain ⟨q0, h0⟩ : ∃ q, leavesR x.lv = q := ⟨_, rfl⟩
    obtain ⟨q1, h1⟩ : ∃ q, decide ((nL : Int) ≤ 32) = q := ⟨_, rfl⟩
    obtain ⟨q2, h2⟩ : ∃ q, (x.text.toList == []) = q := ⟨_, rfl⟩
    obtain ⟨q3, h3⟩ : ∃ q, noneR x = q := ⟨_, rfl⟩
    have HF : Hid (fieldsR x = (q0 && q1 && q2 && q3)) := Lib.hid (by unfold fieldsR; rw [if_neg K1, if_pos K2, h0, h2, h3, ← h1, HLL.out])
    have H0 := Lib.hid h0
    have H1 := Lib.hid h1
    have H2 := Lib.hid h2
    rw [h3] at CN
    clear h0 h1 h2 h3 K1 K2
    have hnl0 : (0 : Int) ≤ (nL : Int) := Int.natCast_nonneg _
    go_wp2_with fail
    clear a0 a1 a2 a3 a6 a7 a8 a9 a10
    go_loopw [28] (fun i wr => ∃ k : Nat, k ≤ nL ∧ i = .int .i64 (k : Int) ∧ Hid (LvOk x.lv k ∧ Below w1.heap.size w1 wr)) (fun i _ => nL - (intOf i).toNat)
    case atStart => exact ⟨0, Nat.zero_le _, rfl, Lib.hid ⟨⟨fun j _ h => absurd h (by omega), fun j _ h => absurd h (by omega)⟩, Below.refl _ _⟩⟩
    case round =>
      obtain ⟨k, hk, rfl, hlo⟩ := hrel
      by_cases hlt : k < nL
      · have hd : decide ((k : Int) < (nL : Int)) = true := by simp; omega
        have hk0 : (0 : Int) ≤ (k : Int) := Int.natCast_nonneg _
        have hk1 : (k : Int) < (nL : Int) := by omega
        have BR := B1.out.trans (hlo.out.2.mono B1.out.size)
        obtain ⟨b, o, rfl, hbl, hrg⟩ := (HL.out wr BR).l.at_ hlt
        have hkl : k < x.lv.length := by rw [HLL.out]; exact hlt
        have hps := HLP.out x.lv[k] (List.getElem_mem hkl)
        obtain ⟨r, hr⟩ : ∃ r, x.lv[k] = r := ⟨_, rfl⟩
        rw [hr] at hrg hps
        have HRG := Lib.hid hrg
        have HRR := Lib.hid hr
        obtain ⟨T, hT⟩ : ∃ T, wr.heap.size = T := ⟨_, rfl⟩
        obtain ⟨wA, hwA⟩ : ∃ wA, wr.alloc (.cells zl.cells.toArray 68) = wA := ⟨_, rfl⟩
        obtain ⟨w5, hw5⟩ : ∃ w5, wA.setCells T 0 r.cells = w5 := ⟨_, rfl⟩
        have YA : Hid (Lies wA T 33 zl.cells) := Lib.hid (by rw [← hwA, ← hT]; have := Lies.new wr zl.cells 68; rwa [lf_sz] at this)
        have Y5 : Hid (Lies w5 T 33 r.cells) := Lib.hid (by rw [← hw5]; exact YA.out.set_ (lf_sz _))
        have B5 : Hid (Below w1.heap.size w1 w5) := Lib.hid (by rw [← hw5, ← hwA]; exact hlo.out.2.trans ((below_setCells ((Below.refl wr.heap.size _).alloc (Nat.le_refl _) _) (by omega) _ _).mono hlo.out.2.size))
        have HWA := Lib.hid hwA
        have HW5 := Lib.hid hw5
        have TA := Lib.hid YA.out.th
        have RI : Hid (w5.rangeAt T 1 r.id.cells) := Lib.hid (by
          have h9 := Y5.out.rg
          unfold Lf.cells at h9
          rw [show (Value.string r.p :: S3.bvs r.id.b) = [Value.string r.p] ++ S3.bvs r.id.b from rfl, rangeAt_app] at h9
          exact h9.2)
        have HLV := Lib.hid hlo.out.1
        clear hwA hw5 YA hrg hr BR hlo
        go_upto_region 8 with (first
          | ((with_reducible refine ldl (.tmp 31) ?_ ?_ b (o + k * 33) r ?_ HRG.out ?_); rfl; rfl; (first | rfl | go_simp))
          | ((with_reducible refine alt 68 ?_ ?_ zl.cells ZL.out ?_); rfl; rfl; rw [HWA.out]; (try simp only [Act.put, List.setIfInBounds_toArray, List.set_cons_succ, List.set_cons_zero, hT]))
          | ((with_reducible refine stl (.tmp 4) (.tmp 32) ?_ ?_ T 0 r ?_ ?_ TA.out ?_); rfl; rfl; rfl; rfl; rw [HW5.out])
          | fail)
        clear HWA HW5 TA HRG
        obtain ⟨wd, hwd⟩ : ∃ wd, w5.drew = wd := ⟨_, rfl⟩
        have BD : Hid (Below w1.heap.size w1 wd) := Lib.hid (by rw [← hwd]; exact B5.out.drew)
        have c0 : wd.cell? ⟨T, 0, none⟩ = some (.string r.p) := by rw [← hwd]; exact Y5.out.cell (j := 0) rfl
        have c1 : wd.rangeAt T 1 r.id.cells := by rw [← hwd]; exact RI.out
        obtain ⟨pq, hpq⟩ : ∃ q, pathW r.p = q := ⟨_, rfl⟩
        obtain ⟨zq, hzq⟩ : ∃ q, (r.id.b == zI.b) = q := ⟨_, rfl⟩
        have CP : Hid (Calls Tryz.prog 60 #[.string r.p] wd fun e w' => e = .returned (.bool pq) ∧ wd = w') := Lib.hid (by rw [← hpq]; exact path6_any r.p hps wd)
        have EQ : ∀ w, (Op.equalIn 10000 27 (.agg r.id.cells.toArray) (.agg zI.cells.toArray)).run Tryz.prog w = .ok zq w := fun w => by rw [← hzq]; exact eq_id r.id zI w
        have HPQ := Lib.hid hpq
        have HZQ := Lib.hid hzq
        clear hpq hzq hps
        cases pq
        · have NO : Hid (q0 = false) := Lib.hid (by rw [← H0.out]; exact leaves_no fun h9 => by have h8 := (h9.1 k hkl hkl).1; rw [HRR.out, HPQ.out] at h8; cases h8)
          refine wp_region_noPanic (wp_region_any (by kernel_rfl) (wpAny_of_bk (S := (fun w' => w'.cell? ⟨T, 0, none⟩ = some (.string r.p) ∧ w'.rangeAt T 1 r.id.cells ∧ Below w1.heap.size w1 w')) (m := 26) _ _ _ _ ?_))
          show wpBk _ _ _ _ _ _ 26 _ _ w5.drew
          rw [hwd]
          refine wpBk_takeP (i := 0) rfl (by kernel_rfl) (fun _ _ _ _ h => h) (.inl ⟨rfl, fun w' hw' => (by clear hw'; go_simp; (try rfl))⟩) ?_
          simp only [List.getElem_toArray, List.getElem_cons_zero, List.getElem_cons_succ, Act.put, List.setIfInBounds_toArray, List.set_cons_succ, List.set_cons_zero]
          refine wpBk_take (i := 1) rfl (by kernel_rfl) (fun _ _ _ _ h => h) (.inl ⟨rfl, fun w' hw' => (by have z0 := hw'.1; clear hw'; go_simp; (try rfl))⟩) ⟨c0, c1, BD.out⟩ ?_
          simp only [List.getElem_toArray, List.getElem_cons_zero, List.getElem_cons_succ, Act.put, List.setIfInBounds_toArray, List.set_cons_succ, List.set_cons_zero]
          refine wpBk_one (i := 2) rfl rfl (by kernel_rfl) (fun K hK => ?_)
          refine wp_fn (f := 60) (xs := #[.string r.p]) (by first | (go_simp; done) | (go_simp; rfl)) (CP.out.mono ?_)
          rintro e _ ⟨rfl, rfl⟩
          refine ⟨_, rfl, hK _ _ ⟨fun h9 _ => h9, ?_⟩⟩
          simp only [List.getElem_toArray, List.getElem_cons_zero, List.getElem_cons_succ, Act.put, List.setIfInBounds_toArray, List.set_cons_succ, List.set_cons_zero]
          refine wpBk_takeP (i := 3) rfl (by kernel_rfl) (fun _ _ _ _ h => h) (.inl ⟨rfl, fun w' hw' => (by clear hw'; go_simp; (try rfl))⟩) ?_
          simp only [List.getElem_toArray, List.getElem_cons_zero, List.getElem_cons_succ, Act.put, List.setIfInBounds_toArray, List.set_cons_succ, List.set_cons_zero]
          refine wpBk_takeP (i := 4) rfl (by kernel_rfl) (fun _ _ _ _ h => h) (.inl ⟨rfl, fun w' hw' => (by clear hw'; go_simp; (try rfl))⟩) ?_
          simp only [List.getElem_toArray, List.getElem_cons_zero, List.getElem_cons_succ, Act.put, List.setIfInBounds_toArray, List.set_cons_succ, List.set_cons_zero]
          refine wpBk_takeP (i := 5) rfl (by kernel_rfl) (fun _ _ _ _ h => h) (.inr ⟨rfl, rfl⟩) ?_
          simp only [List.getElem_toArray, List.getElem_cons_zero, List.getElem_cons_succ, Act.put, List.setIfInBounds_toArray, List.set_cons_succ, List.set_cons_zero]
          refine wpBk_takeP (i := 6) rfl (by kernel_rfl) (fun _ _ _ _ h => h) (.inr ⟨rfl, rfl⟩) ?_
          simp only [List.getElem_toArray, List.getElem_cons_zero, List.getElem_cons_succ, Act.put, List.setIfInBounds_toArray, List.set_cons_succ, List.set_cons_zero]
          refine wpBk_takeP (i := 7) rfl (by kernel_rfl) (fun _ _ _ _ h => h) (.inr ⟨rfl, rfl⟩) ?_
          simp only [List.getElem_toArray, List.getElem_cons_zero, List.getElem_cons_succ, Act.put, List.setIfInBounds_toArray, List.set_cons_succ, List.set_cons_zero]
          refine wpBk_takeP (i := 8) rfl (by kernel_rfl) (fun _ _ _ _ h => h) (.inr ⟨rfl, rfl⟩) ?_
          simp only [List.getElem_toArray, List.getElem_cons_zero, List.getElem_cons_succ, Act.put, List.setIfInBounds_toArray, List.set_cons_succ, List.set_cons_zero]
          refine wpBk_takeP (i := 9) rfl (by kernel_rfl) (fun _ _ _ _ h => h) (.inl ⟨rfl, fun w' hw' => (by clear hw'; go_simp; (try rfl))⟩) ?_
          simp only [List.getElem_toArray, List.getElem_cons_zero, List.getElem_cons_succ, Act.put, List.setIfInBounds_toArray, List.set_cons_succ, List.set_cons_zero]
          refine wpBk_takeP (i := 10) rfl (by kernel_rfl) (fun _ _ _ _ h => h) (.inl ⟨rfl, fun w' hw' => (by clear hw'; go_simp; (try rfl))⟩) ?_
          simp only [List.getElem_toArray, List.getElem_cons_zero, List.getElem_cons_succ, Act.put, List.setIfInBounds_toArray, List.set_cons_succ, List.set_cons_zero]
          refine wpBk_takeP (i := 11) rfl (by kernel_rfl) (fun _ _ _ _ h => h) (.inr ⟨rfl, rfl⟩) ?_
          simp only [List.getElem_toArray, List.getElem_cons_zero, List.getElem_cons_succ, Act.put, List.setIfInBounds_toArray, List.set_cons_succ, List.set_cons_zero]
          refine wpBk_takeP (i := 12) rfl (by kernel_rfl) (fun _ _ _ _ h => h) (.inr ⟨rfl, rfl⟩) ?_
          simp only [List.getElem_toArray, List.getElem_cons_zero, List.getElem_cons_succ, Act.put, List.setIfInBounds_toArray, List.set_cons_succ, List.set_cons_zero]
          refine wpBk_takeP (i := 13) rfl (by kernel_rfl) (fun _ _ _ _ h => h) (.inr ⟨rfl, rfl⟩) ?_
          simp only [List.getElem_toArray, List.getElem_cons_zero, List.getElem_cons_succ, Act.put, List.setIfInBounds_toArray, List.set_cons_succ, List.set_cons_zero]
          refine wpBk_takeP (i := 14) rfl (by kernel_rfl) (fun _ _ _ _ h => h) (.inr ⟨rfl, rfl⟩) ?_
          simp only [List.getElem_toArray, List.getElem_cons_zero, List.getElem_cons_succ, Act.put, List.setIfInBounds_toArray, List.set_cons_succ, List.set_cons_zero]
          refine wpBk_takeP (i := 15) rfl (by kernel_rfl) (fun _ _ _ _ h => h) (.inr ⟨rfl, rfl⟩) ?_
          simp only [List.getElem_toArray, List.getElem_cons_zero, List.getElem_cons_succ, Act.put, List.setIfInBounds_toArray, List.set_cons_succ, List.set_cons_zero]
          refine wpBk_takeP (i := 16) rfl (by kernel_rfl) (fun _ _ _ _ h => h) (.inr ⟨rfl, rfl⟩) ?_
          simp only [List.getElem_toArray, List.getElem_cons_zero, List.getElem_cons_succ, Act.put, List.setIfInBounds_toArray, List.set_cons_succ, List.set_cons_zero]
          refine wpBk_takeP (i := 17) rfl (by kernel_rfl) (fun _ _ _ _ h => h) (.inr ⟨rfl, rfl⟩) ?_
          simp only [List.getElem_toArray, List.getElem_cons_zero, List.getElem_cons_succ, Act.put, List.setIfInBounds_toArray, List.set_cons_succ, List.set_cons_zero]
          refine wpBk_takeP (i := 18) rfl (by kernel_rfl) (fun _ _ _ _ h => h) (.inr ⟨rfl, rfl⟩) ?_
          simp only [List.getElem_toArray, List.getElem_cons_zero, List.getElem_cons_succ, Act.put, List.setIfInBounds_toArray, List.set_cons_succ, List.set_cons_zero]
          refine wpBk_takeP (i := 19) rfl (by kernel_rfl) (fun _ _ _ _ h => h) (.inr ⟨rfl, rfl⟩) ?_
          simp only [List.getElem_toArray, List.getElem_cons_zero, List.getElem_cons_succ, Act.put, List.setIfInBounds_toArray, List.set_cons_succ, List.set_cons_zero]
          refine wpBk_takeP (i := 20) rfl (by kernel_rfl) (fun _ _ _ _ h => h) (.inr ⟨rfl, rfl⟩) ?_
          simp only [List.getElem_toArray, List.getElem_cons_zero, List.getElem_cons_succ, Act.put, List.setIfInBounds_toArray, List.set_cons_succ, List.set_cons_zero]
          refine wpBk_takeP (i := 21) rfl (by kernel_rfl) (fun _ _ _ _ h => h) (.inr ⟨rfl, rfl⟩) ?_
          simp only [List.getElem_toArray, List.getElem_cons_zero, List.getElem_cons_succ, Act.put, List.setIfInBounds_toArray, List.set_cons_succ, List.set_cons_zero]
          refine wpBk_takeP (i := 22) rfl (by kernel_rfl) (fun _ _ _ _ h => h) (.inr ⟨rfl, rfl⟩) ?_
          simp only [List.getElem_toArray, List.getElem_cons_zero, List.getElem_cons_succ, Act.put, List.setIfInBounds_toArray, List.set_cons_succ, List.set_cons_zero]
          refine wpBk_takeP (i := 23) rfl (by kernel_rfl) (fun _ _ _ _ h => h) (.inr ⟨rfl, rfl⟩) ?_
          simp only [List.getElem_toArray, List.getElem_cons_zero, List.getElem_cons_succ, Act.put, List.setIfInBounds_toArray, List.set_cons_succ, List.set_cons_zero]
          refine wpBk_takeP (i := 24) rfl (by kernel_rfl) (fun _ _ _ _ h => h) (.inr ⟨rfl, rfl⟩) ?_
          simp only [List.getElem_toArray, List.getElem_cons_zero, List.getElem_cons_succ, Act.put, List.setIfInBounds_toArray, List.set_cons_succ, List.set_cons_zero]
          refine wpBk_takeP (i := 25) rfl (by kernel_rfl) (fun _ _ _ _ h => h) (.inl ⟨rfl, fun w' hw' => (by clear hw'; go_simp; (try rfl))⟩) ?_
          simp only [List.getElem_toArray, List.getElem_cons_zero, List.getElem_cons_succ, Act.put, List.setIfInBounds_toArray, List.set_cons_succ, List.set_cons_zero]
          refine ⟨by kernel_rfl, ?_⟩
          refine NoPanic.normal ?_
          go_wp2_with fail
          go_ret
          exact ⟨by rw [HF.out, NO.out]; rfl, B1.out.trans (BD.out.mono B1.out.size)⟩
        cases zq
        rotate_left
        · have NO : Hid (q0 = false) := Lib.hid (by rw [← H0.out]; exact leaves_no fun h9 => by have h8 := (h9.1 k hkl hkl).2; rw [HRR.out, HZI.out, HZQ.out] at h8; cases h8)
          refine wp_region_noPanic (wp_region_any (by kernel_rfl) (wpAny_of_bk (S := (fun w' => w'.cell? ⟨T, 0, none⟩ = some (.string r.p) ∧ w'.rangeAt T 1 r.id.cells ∧ Below w1.heap.size w1 w')) (m := 26) _ _ _ _ ?_))
          show wpBk _ _ _ _ _ _ 26 _ _ w5.drew
          rw [hwd]
          refine wpBk_takeP (i := 0) rfl (by kernel_rfl) (fun _ _ _ _ h => h) (.inl ⟨rfl, fun w' hw' => (by clear hw'; go_simp; (try rfl))⟩) ?_
          simp only [List.getElem_toArray, List.getElem_cons_zero, List.getElem_cons_succ, Act.put, List.setIfInBounds_toArray, List.set_cons_succ, List.set_cons_zero]
          refine wpBk_take (i := 1) rfl (by kernel_rfl) (fun _ _ _ _ h => h) (.inl ⟨rfl, fun w' hw' => (by have z0 := hw'.1; clear hw'; go_simp; (try rfl))⟩) ⟨c0, c1, BD.out⟩ ?_
          simp only [List.getElem_toArray, List.getElem_cons_zero, List.getElem_cons_succ, Act.put, List.setIfInBounds_toArray, List.set_cons_succ, List.set_cons_zero]
          refine wpBk_one (i := 2) rfl rfl (by kernel_rfl) (fun K hK => ?_)
          refine wp_fn (f := 60) (xs := #[.string r.p]) (by first | (go_simp; done) | (go_simp; rfl)) (CP.out.mono ?_)
          rintro e _ ⟨rfl, rfl⟩
          refine ⟨_, rfl, hK _ _ ⟨fun h9 _ => h9, ?_⟩⟩
          simp only [List.getElem_toArray, List.getElem_cons_zero, List.getElem_cons_succ, Act.put, List.setIfInBounds_toArray, List.set_cons_succ, List.set_cons_zero]
          refine wpBk_takeP (i := 3) rfl (by kernel_rfl) (fun _ _ _ _ h => h) (.inl ⟨rfl, fun w' hw' => (by clear hw'; go_simp; (try rfl))⟩) ?_
          simp only [List.getElem_toArray, List.getElem_cons_zero, List.getElem_cons_succ, Act.put, List.setIfInBounds_toArray, List.set_cons_succ, List.set_cons_zero]
          refine wpBk_takeP (i := 4) rfl (by kernel_rfl) (fun _ _ _ _ h => h) (.inl ⟨rfl, fun w' hw' => (by clear hw'; go_simp; (try rfl))⟩) ?_
          simp only [List.getElem_toArray, List.getElem_cons_zero, List.getElem_cons_succ, Act.put, List.setIfInBounds_toArray, List.set_cons_succ, List.set_cons_zero]
          refine wpBk_takeP (i := 5) rfl (by kernel_rfl) (fun _ _ _ _ h => h) (.inl ⟨rfl, fun w' hw' => (by clear hw'; go_simp; (try rfl))⟩) ?_
          simp only [List.getElem_toArray, List.getElem_cons_zero, List.getElem_cons_succ, Act.put, List.setIfInBounds_toArray, List.set_cons_succ, List.set_cons_zero]
          refine wpBk_take (i := 6) rfl (by kernel_rfl) (fun _ _ _ _ h => h) (yieldsIf_load_mid rfl 27 (.tmp 38) rfl T 1 rfl r.id.cells _ (fun w' hw' => hw'.2.1) Tryz.underlying27 rfl (by rw [id_sz]; exact size_idv)) ⟨c0, c1, BD.out⟩ ?_
          simp only [List.getElem_toArray, List.getElem_cons_zero, List.getElem_cons_succ, Act.put, List.setIfInBounds_toArray, List.set_cons_succ, List.set_cons_zero]
          refine wpBk_takeP (i := 7) rfl (by kernel_rfl) (fun _ _ _ _ h => h) (yieldsIf_build rfl 27 [] rfl zI.cells.toArray ZB.out) ?_
          simp only [List.getElem_toArray, List.getElem_cons_zero, List.getElem_cons_succ, Act.put, List.setIfInBounds_toArray, List.set_cons_succ, List.set_cons_zero]
          refine wpBk_takeP (i := 8) rfl (by kernel_rfl) (fun _ _ _ _ h => h) (.inl ⟨rfl, fun w' hw' => (by clear hw'; have e9 := EQ w'; go_simp; (try rfl))⟩) ?_
          simp only [List.getElem_toArray, List.getElem_cons_zero, List.getElem_cons_succ, Act.put, List.setIfInBounds_toArray, List.set_cons_succ, List.set_cons_zero]
          refine wpBk_takeP (i := 9) rfl (by kernel_rfl) (fun _ _ _ _ h => h) (.inl ⟨rfl, fun w' hw' => (by clear hw'; go_simp; (try rfl))⟩) ?_
          simp only [List.getElem_toArray, List.getElem_cons_zero, List.getElem_cons_succ, Act.put, List.setIfInBounds_toArray, List.set_cons_succ, List.set_cons_zero]
          refine wpBk_takeP (i := 10) rfl (by kernel_rfl) (fun _ _ _ _ h => h) (.inl ⟨rfl, fun w' hw' => (by clear hw'; go_simp; (try rfl))⟩) ?_
          simp only [List.getElem_toArray, List.getElem_cons_zero, List.getElem_cons_succ, Act.put, List.setIfInBounds_toArray, List.set_cons_succ, List.set_cons_zero]
          refine wpBk_takeP (i := 11) rfl (by kernel_rfl) (fun _ _ _ _ h => h) (.inr ⟨rfl, rfl⟩) ?_
          simp only [List.getElem_toArray, List.getElem_cons_zero, List.getElem_cons_succ, Act.put, List.setIfInBounds_toArray, List.set_cons_succ, List.set_cons_zero]
          refine wpBk_takeP (i := 12) rfl (by kernel_rfl) (fun _ _ _ _ h => h) (.inr ⟨rfl, rfl⟩) ?_
          simp only [List.getElem_toArray, List.getElem_cons_zero, List.getElem_cons_succ, Act.put, List.setIfInBounds_toArray, List.set_cons_succ, List.set_cons_zero]
          refine wpBk_takeP (i := 13) rfl (by kernel_rfl) (fun _ _ _ _ h => h) (.inr ⟨rfl, rfl⟩) ?_
          simp only [List.getElem_toArray, List.getElem_cons_zero, List.getElem_cons_succ, Act.put, List.setIfInBounds_toArray, List.set_cons_succ, List.set_cons_zero]
          refine wpBk_takeP (i := 14) rfl (by kernel_rfl) (fun _ _ _ _ h => h) (.inr ⟨rfl, rfl⟩) ?_
          simp only [List.getElem_toArray, List.getElem_cons_zero, List.getElem_cons_succ, Act.put, List.setIfInBounds_toArray, List.set_cons_succ, List.set_cons_zero]
          refine wpBk_takeP (i := 15) rfl (by kernel_rfl) (fun _ _ _ _ h => h) (.inr ⟨rfl, rfl⟩) ?_
          simp only [List.getElem_toArray, List.getElem_cons_zero, List.getElem_cons_succ, Act.put, List.setIfInBounds_toArray, List.set_cons_succ, List.set_cons_zero]
          refine wpBk_takeP (i := 16) rfl (by kernel_rfl) (fun _ _ _ _ h => h) (.inr ⟨rfl, rfl⟩) ?_
          simp only [List.getElem_toArray, List.getElem_cons_zero, List.getElem_cons_succ, Act.put, List.setIfInBounds_toArray, List.set_cons_succ, List.set_cons_zero]
          refine wpBk_takeP (i := 17) rfl (by kernel_rfl) (fun _ _ _ _ h => h) (.inr ⟨rfl, rfl⟩) ?_
          simp only [List.getElem_toArray, List.getElem_cons_zero, List.getElem_cons_succ, Act.put, List.setIfInBounds_toArray, List.set_cons_succ, List.set_cons_zero]
          refine wpBk_takeP (i := 18) rfl (by kernel_rfl) (fun _ _ _ _ h => h) (.inr ⟨rfl, rfl⟩) ?_
          simp only [List.getElem_toArray, List.getElem_cons_zero, List.getElem_cons_succ, Act.put, List.setIfInBounds_toArray, List.set_cons_succ, List.set_cons_zero]
          refine wpBk_takeP (i := 19) rfl (by kernel_rfl) (fun _ _ _ _ h => h) (.inr ⟨rfl, rfl⟩) ?_
          simp only [List.getElem_toArray, List.getElem_cons_zero, List.getElem_cons_succ, Act.put, List.setIfInBounds_toArray, List.set_cons_succ, List.set_cons_zero]
          refine wpBk_takeP (i := 20) rfl (by kernel_rfl) (fun _ _ _ _ h => h) (.inr ⟨rfl, rfl⟩) ?_
          simp only [List.getElem_toArray, List.getElem_cons_zero, List.getElem_cons_succ, Act.put, List.setIfInBounds_toArray, List.set_cons_succ, List.set_cons_zero]
          refine wpBk_takeP (i := 21) rfl (by kernel_rfl) (fun _ _ _ _ h => h) (.inr ⟨rfl, rfl⟩) ?_
          simp only [List.getElem_toArray, List.getElem_cons_zero, List.getElem_cons_succ, Act.put, List.setIfInBounds_toArray, List.set_cons_succ, List.set_cons_zero]
          refine wpBk_takeP (i := 22) rfl (by kernel_rfl) (fun _ _ _ _ h => h) (.inr ⟨rfl, rfl⟩) ?_
          simp only [List.getElem_toArray, List.getElem_cons_zero, List.getElem_cons_succ, Act.put, List.setIfInBounds_toArray, List.set_cons_succ, List.set_cons_zero]
          refine wpBk_takeP (i := 23) rfl (by kernel_rfl) (fun _ _ _ _ h => h) (.inr ⟨rfl, rfl⟩) ?_
          simp only [List.getElem_toArray, List.getElem_cons_zero, List.getElem_cons_succ, Act.put, List.setIfInBounds_toArray, List.set_cons_succ, List.set_cons_zero]
          refine wpBk_takeP (i := 24) rfl (by kernel_rfl) (fun _ _ _ _ h => h) (.inr ⟨rfl, rfl⟩) ?_
          simp only [List.getElem_toArray, List.getElem_cons_zero, List.getElem_cons_succ, Act.put, List.setIfInBounds_toArray, List.set_cons_succ, List.set_cons_zero]
          refine wpBk_takeP (i := 25) rfl (by kernel_rfl) (fun _ _ _ _ h => h) (.inl ⟨rfl, fun w' hw' => (by clear hw'; go_simp; (try rfl))⟩) ?_
          simp only [List.getElem_toArray, List.getElem_cons_zero, List.getElem_cons_succ, Act.put, List.setIfInBounds_toArray, List.set_cons_succ, List.set_cons_zero]
          refine ⟨by kernel_rfl, ?_⟩
          refine NoPanic.normal ?_
          go_wp2_with fail
          go_ret
          exact ⟨by rw [HF.out, NO.out]; rfl, B1.out.trans (BD.out.mono B1.out.size)⟩
        rcases Nat.eq_zero_or_pos k with hk00 | hk00
        · subst hk00
          have YES : Hid (LvOk x.lv (0 + 1)) := Lib.hid ⟨fun j hj h => by
            obtain rfl : j = 0 := by omega
            rw [HRR.out]
            exact ⟨HPQ.out, by rw [HZI.out]; exact HZQ.out⟩, fun j _ h => absurd h (by omega)⟩
          clear hd hk0 hk1
          rw [show (((0 : Nat) : Int)) = 0 from rfl]
          refine wp_region_noPanic (wp_region_any (by kernel_rfl) (wpAny_of_bk (S := (fun w' => w'.cell? ⟨T, 0, none⟩ = some (.string r.p) ∧ w'.rangeAt T 1 r.id.cells ∧ Below w1.heap.size w1 w')) (m := 26) _ _ _ _ ?_))
          show wpBk _ _ _ _ _ _ 26 _ _ w5.drew
          rw [hwd]
          refine wpBk_takeP (i := 0) rfl (by kernel_rfl) (fun _ _ _ _ h => h) (.inl ⟨rfl, fun w' hw' => (by clear hw'; go_simp; (try rfl))⟩) ?_
          simp only [List.getElem_toArray, List.getElem_cons_zero, List.getElem_cons_succ, Act.put, List.setIfInBounds_toArray, List.set_cons_succ, List.set_cons_zero]
          refine wpBk_take (i := 1) rfl (by kernel_rfl) (fun _ _ _ _ h => h) (.inl ⟨rfl, fun w' hw' => (by have z0 := hw'.1; clear hw'; go_simp; (try rfl))⟩) ⟨c0, c1, BD.out⟩ ?_
          simp only [List.getElem_toArray, List.getElem_cons_zero, List.getElem_cons_succ, Act.put, List.setIfInBounds_toArray, List.set_cons_succ, List.set_cons_zero]
          refine wpBk_one (i := 2) rfl rfl (by kernel_rfl) (fun K hK => ?_)
          refine wp_fn (f := 60) (xs := #[.string r.p]) (by first | (go_simp; done) | (go_simp; rfl)) (CP.out.mono ?_)
          rintro e _ ⟨rfl, rfl⟩
          refine ⟨_, rfl, hK _ _ ⟨fun h9 _ => h9, ?_⟩⟩
          simp only [List.getElem_toArray, List.getElem_cons_zero, List.getElem_cons_succ, Act.put, List.setIfInBounds_toArray, List.set_cons_succ, List.set_cons_zero]
          refine wpBk_takeP (i := 3) rfl (by kernel_rfl) (fun _ _ _ _ h => h) (.inl ⟨rfl, fun w' hw' => (by clear hw'; go_simp; (try rfl))⟩) ?_
          simp only [List.getElem_toArray, List.getElem_cons_zero, List.getElem_cons_succ, Act.put, List.setIfInBounds_toArray, List.set_cons_succ, List.set_cons_zero]
          refine wpBk_takeP (i := 4) rfl (by kernel_rfl) (fun _ _ _ _ h => h) (.inl ⟨rfl, fun w' hw' => (by clear hw'; go_simp; (try rfl))⟩) ?_
          simp only [List.getElem_toArray, List.getElem_cons_zero, List.getElem_cons_succ, Act.put, List.setIfInBounds_toArray, List.set_cons_succ, List.set_cons_zero]
          refine wpBk_takeP (i := 5) rfl (by kernel_rfl) (fun _ _ _ _ h => h) (.inl ⟨rfl, fun w' hw' => (by clear hw'; go_simp; (try rfl))⟩) ?_
          simp only [List.getElem_toArray, List.getElem_cons_zero, List.getElem_cons_succ, Act.put, List.setIfInBounds_toArray, List.set_cons_succ, List.set_cons_zero]
          refine wpBk_take (i := 6) rfl (by kernel_rfl) (fun _ _ _ _ h => h) (yieldsIf_load_mid rfl 27 (.tmp 38) rfl T 1 rfl r.id.cells _ (fun w' hw' => hw'.2.1) Tryz.underlying27 rfl (by rw [id_sz]; exact size_idv)) ⟨c0, c1, BD.out⟩ ?_
          simp only [List.getElem_toArray, List.getElem_cons_zero, List.getElem_cons_succ, Act.put, List.setIfInBounds_toArray, List.set_cons_succ, List.set_cons_zero]
          refine wpBk_takeP (i := 7) rfl (by kernel_rfl) (fun _ _ _ _ h => h) (yieldsIf_build rfl 27 [] rfl zI.cells.toArray ZB.out) ?_
          simp only [List.getElem_toArray, List.getElem_cons_zero, List.getElem_cons_succ, Act.put, List.setIfInBounds_toArray, List.set_cons_succ, List.set_cons_zero]
          refine wpBk_takeP (i := 8) rfl (by kernel_rfl) (fun _ _ _ _ h => h) (.inl ⟨rfl, fun w' hw' => (by clear hw'; have e9 := EQ w'; go_simp; (try rfl))⟩) ?_
          simp only [List.getElem_toArray, List.getElem_cons_zero, List.getElem_cons_succ, Act.put, List.setIfInBounds_toArray, List.set_cons_succ, List.set_cons_zero]
          refine wpBk_takeP (i := 9) rfl (by kernel_rfl) (fun _ _ _ _ h => h) (.inl ⟨rfl, fun w' hw' => (by clear hw'; go_simp; (try rfl))⟩) ?_
          simp only [List.getElem_toArray, List.getElem_cons_zero, List.getElem_cons_succ, Act.put, List.setIfInBounds_toArray, List.set_cons_succ, List.set_cons_zero]
          refine wpBk_takeP (i := 10) rfl (by kernel_rfl) (fun _ _ _ _ h => h) (.inl ⟨rfl, fun w' hw' => (by clear hw'; go_simp; (try rfl))⟩) ?_
          simp only [List.getElem_toArray, List.getElem_cons_zero, List.getElem_cons_succ, Act.put, List.setIfInBounds_toArray, List.set_cons_succ, List.set_cons_zero]
          refine wpBk_takeP (i := 11) rfl (by kernel_rfl) (fun _ _ _ _ h => h) (.inl ⟨rfl, fun w' hw' => (by clear hw'; go_simp; (try rfl))⟩) ?_
          simp only [List.getElem_toArray, List.getElem_cons_zero, List.getElem_cons_succ, Act.put, List.setIfInBounds_toArray, List.set_cons_succ, List.set_cons_zero]
          refine wpBk_takeP (i := 12) rfl (by kernel_rfl) (fun _ _ _ _ h => h) (.inl ⟨rfl, fun w' hw' => (by clear hw'; go_simp; (try rfl))⟩) ?_
          simp only [List.getElem_toArray, List.getElem_cons_zero, List.getElem_cons_succ, Act.put, List.setIfInBounds_toArray, List.set_cons_succ, List.set_cons_zero]
          refine wpBk_takeP (i := 13) rfl (by kernel_rfl) (fun _ _ _ _ h => h) (.inl ⟨rfl, fun w' hw' => (by clear hw'; go_simp; (try rfl))⟩) ?_
          simp only [List.getElem_toArray, List.getElem_cons_zero, List.getElem_cons_succ, Act.put, List.setIfInBounds_toArray, List.set_cons_succ, List.set_cons_zero]
          refine wpBk_takeP (i := 14) rfl (by kernel_rfl) (fun _ _ _ _ h => h) (.inr ⟨rfl, rfl⟩) ?_
          simp only [List.getElem_toArray, List.getElem_cons_zero, List.getElem_cons_succ, Act.put, List.setIfInBounds_toArray, List.set_cons_succ, List.set_cons_zero]
          refine wpBk_takeP (i := 15) rfl (by kernel_rfl) (fun _ _ _ _ h => h) (.inr ⟨rfl, rfl⟩) ?_
          simp only [List.getElem_toArray, List.getElem_cons_zero, List.getElem_cons_succ, Act.put, List.setIfInBounds_toArray, List.set_cons_succ, List.set_cons_zero]
          refine wpBk_takeP (i := 16) rfl (by kernel_rfl) (fun _ _ _ _ h => h) (.inr ⟨rfl, rfl⟩) ?_
          simp only [List.getElem_toArray, List.getElem_cons_zero, List.getElem_cons_succ, Act.put, List.setIfInBounds_toArray, List.set_cons_succ, List.set_cons_zero]
          refine wpBk_takeP (i := 17) rfl (by kernel_rfl) (fun _ _ _ _ h => h) (.inr ⟨rfl, rfl⟩) ?_
          simp only [List.getElem_toArray, List.getElem_cons_zero, List.getElem_cons_succ, Act.put, List.setIfInBounds_toArray, List.set_cons_succ, List.set_cons_zero]
          refine wpBk_takeP (i := 18) rfl (by kernel_rfl) (fun _ _ _ _ h => h) (.inr ⟨rfl, rfl⟩) ?_
          simp only [List.getElem_toArray, List.getElem_cons_zero, List.getElem_cons_succ, Act.put, List.setIfInBounds_toArray, List.set_cons_succ, List.set_cons_zero]
          refine wpBk_takeP (i := 19) rfl (by kernel_rfl) (fun _ _ _ _ h => h) (.inr ⟨rfl, rfl⟩) ?_
          simp only [List.getElem_toArray, List.getElem_cons_zero, List.getElem_cons_succ, Act.put, List.setIfInBounds_toArray, List.set_cons_succ, List.set_cons_zero]
          refine wpBk_takeP (i := 20) rfl (by kernel_rfl) (fun _ _ _ _ h => h) (.inr ⟨rfl, rfl⟩) ?_
          simp only [List.getElem_toArray, List.getElem_cons_zero, List.getElem_cons_succ, Act.put, List.setIfInBounds_toArray, List.set_cons_succ, List.set_cons_zero]
          refine wpBk_takeP (i := 21) rfl (by kernel_rfl) (fun _ _ _ _ h => h) (.inr ⟨rfl, rfl⟩) ?_
          simp only [List.getElem_toArray, List.getElem_cons_zero, List.getElem_cons_succ, Act.put, List.setIfInBounds_toArray, List.set_cons_succ, List.set_cons_zero]
          refine wpBk_takeP (i := 22) rfl (by kernel_rfl) (fun _ _ _ _ h => h) (.inr ⟨rfl, rfl⟩) ?_
          simp only [List.getElem_toArray, List.getElem_cons_zero, List.getElem_cons_succ, Act.put, List.setIfInBounds_toArray, List.set_cons_succ, List.set_cons_zero]
          refine wpBk_takeP (i := 23) rfl (by kernel_rfl) (fun _ _ _ _ h => h) (.inr ⟨rfl, rfl⟩) ?_
          simp only [List.getElem_toArray, List.getElem_cons_zero, List.getElem_cons_succ, Act.put, List.setIfInBounds_toArray, List.set_cons_succ, List.set_cons_zero]
          refine wpBk_takeP (i := 24) rfl (by kernel_rfl) (fun _ _ _ _ h => h) (.inl ⟨rfl, fun w' hw' => (by clear hw'; go_simp; (try rfl))⟩) ?_
          simp only [List.getElem_toArray, List.getElem_cons_zero, List.getElem_cons_succ, Act.put, List.setIfInBounds_toArray, List.set_cons_succ, List.set_cons_zero]
          refine wpBk_takeP (i := 25) rfl (by kernel_rfl) (fun _ _ _ _ h => h) (.inl ⟨rfl, fun w' hw' => (by clear hw'; go_simp; (try rfl))⟩) ?_
          simp only [List.getElem_toArray, List.getElem_cons_zero, List.getElem_cons_succ, Act.put, List.setIfInBounds_toArray, List.set_cons_succ, List.set_cons_zero]
          refine ⟨by kernel_rfl, ?_⟩
          refine NoPanic.normal ?_
          go_wp2_with fail
          go_roundw
          case rel => exact ⟨0 + 1, by omega, rfl, Lib.hid ⟨YES.out, BD.out⟩⟩
          case measure => simp [intOf]; omega
        · obtain ⟨m, rfl⟩ : ∃ m, k = m + 1 := ⟨k - 1, by omega⟩
          have hml : m < x.lv.length := by omega
          obtain ⟨b', o', hbo, hbl', hrg'⟩ := (HL.out wd (B1.out.trans (BD.out.mono B1.out.size))).l.at_ (show m < nL by omega)
          injection hbo with hbo
          injection hbo with hbo hoo
          subst hbo hoo
          obtain ⟨p0, hp0⟩ : ∃ p, x.lv[m].p = p := ⟨_, rfl⟩
          have c2 : wd.cell? ⟨b, o + m * 33, none⟩ = some (.string p0) := by rw [← hp0]; exact hrg' 0 _ rfl
          have HP0 := Lib.hid hp0
          clear hrg' hp0
          have hm0 : (0 : Int) ≤ (m : Int) := Int.natCast_nonneg _
          have hm2 : (m : Int) < (nL : Int) := by omega
          have hgt : decide (0 < (m : Int) + 1) = true := by simp [hm0] <;> omega
          have hwr : IntKind.i64.wrap (m : Int) = (m : Int) := IntWalk.i64_in _ (by omega)
          have hm3 : (0 : Int) ≤ (m : Int) + 1 := by omega
          have hm1 : (m : Int) + 1 < (nL : Int) := by omega
          clear hd hk0 hk1
          rw [show (((m + 1 : Nat) : Int)) = (m : Int) + 1 from rfl]
          obtain ⟨bq, hbq⟩ : ∃ bq, Op.bytesLess p0.toList r.p.toList = bq := ⟨_, rfl⟩
          have HBQ := Lib.hid (show lt p0 r.p = bq from hbq)
          cases bq
          · have NO : Hid (q0 = false) := Lib.hid (by rw [← H0.out]; exact leaves_no fun h9 => by have h8 := h9.2 m hkl hkl; rw [HRR.out, HP0.out, HBQ.out] at h8; cases h8)
            refine wp_region_noPanic (wp_region_any (by kernel_rfl) (wpAny_of_bk (S := (fun w' => w'.cell? ⟨T, 0, none⟩ = some (.string r.p) ∧ w'.rangeAt T 1 r.id.cells ∧ Below w1.heap.size w1 w' ∧ w'.cell? ⟨b, o + m * 33, none⟩ = some (.string p0))) (m := 26) _ _ _ _ ?_))
            show wpBk _ _ _ _ _ _ 26 _ _ w5.drew
            rw [hwd]
            refine wpBk_takeP (i := 0) rfl (by kernel_rfl) (fun _ _ _ _ h => h) (.inl ⟨rfl, fun w' hw' => (by clear hw'; go_simp; (try rfl))⟩) ?_
            simp only [List.getElem_toArray, List.getElem_cons_zero, List.getElem_cons_succ, Act.put, List.setIfInBounds_toArray, List.set_cons_succ, List.set_cons_zero]
            refine wpBk_take (i := 1) rfl (by kernel_rfl) (fun _ _ _ _ h => h) (.inl ⟨rfl, fun w' hw' => (by have z0 := hw'.1; clear hw'; go_simp; (try rfl))⟩) ⟨c0, c1, BD.out, c2⟩ ?_
            simp only [List.getElem_toArray, List.getElem_cons_zero, List.getElem_cons_succ, Act.put, List.setIfInBounds_toArray, List.set_cons_succ, List.set_cons_zero]
            refine wpBk_one (i := 2) rfl rfl (by kernel_rfl) (fun K hK => ?_)
            refine wp_fn (f := 60) (xs := #[.string r.p]) (by first | (go_simp; done) | (go_simp; rfl)) (CP.out.mono ?_)
            rintro e _ ⟨rfl, rfl⟩
            refine ⟨_, rfl, hK _ _ ⟨fun h9 _ => h9, ?_⟩⟩
            simp only [List.getElem_toArray, List.getElem_cons_zero, List.getElem_cons_succ, Act.put, List.setIfInBounds_toArray, List.set_cons_succ, List.set_cons_zero]
            refine wpBk_takeP (i := 3) rfl (by kernel_rfl) (fun _ _ _ _ h => h) (.inl ⟨rfl, fun w' hw' => (by clear hw'; go_simp; (try rfl))⟩) ?_
            simp only [List.getElem_toArray, List.getElem_cons_zero, List.getElem_cons_succ, Act.put, List.setIfInBounds_toArray, List.set_cons_succ, List.set_cons_zero]
            refine wpBk_takeP (i := 4) rfl (by kernel_rfl) (fun _ _ _ _ h => h) (.inl ⟨rfl, fun w' hw' => (by clear hw'; go_simp; (try rfl))⟩) ?_
            simp only [List.getElem_toArray, List.getElem_cons_zero, List.getElem_cons_succ, Act.put, List.setIfInBounds_toArray, List.set_cons_succ, List.set_cons_zero]
            refine wpBk_takeP (i := 5) rfl (by kernel_rfl) (fun _ _ _ _ h => h) (.inl ⟨rfl, fun w' hw' => (by clear hw'; go_simp; (try rfl))⟩) ?_
            simp only [List.getElem_toArray, List.getElem_cons_zero, List.getElem_cons_succ, Act.put, List.setIfInBounds_toArray, List.set_cons_succ, List.set_cons_zero]
            refine wpBk_take (i := 6) rfl (by kernel_rfl) (fun _ _ _ _ h => h) (yieldsIf_load_mid rfl 27 (.tmp 38) rfl T 1 rfl r.id.cells _ (fun w' hw' => hw'.2.1) Tryz.underlying27 rfl (by rw [id_sz]; exact size_idv)) ⟨c0, c1, BD.out, c2⟩ ?_
            simp only [List.getElem_toArray, List.getElem_cons_zero, List.getElem_cons_succ, Act.put, List.setIfInBounds_toArray, List.set_cons_succ, List.set_cons_zero]
            refine wpBk_takeP (i := 7) rfl (by kernel_rfl) (fun _ _ _ _ h => h) (yieldsIf_build rfl 27 [] rfl zI.cells.toArray ZB.out) ?_
            simp only [List.getElem_toArray, List.getElem_cons_zero, List.getElem_cons_succ, Act.put, List.setIfInBounds_toArray, List.set_cons_succ, List.set_cons_zero]
            refine wpBk_takeP (i := 8) rfl (by kernel_rfl) (fun _ _ _ _ h => h) (.inl ⟨rfl, fun w' hw' => (by clear hw'; have e9 := EQ w'; go_simp; (try rfl))⟩) ?_
            simp only [List.getElem_toArray, List.getElem_cons_zero, List.getElem_cons_succ, Act.put, List.setIfInBounds_toArray, List.set_cons_succ, List.set_cons_zero]
            refine wpBk_takeP (i := 9) rfl (by kernel_rfl) (fun _ _ _ _ h => h) (.inl ⟨rfl, fun w' hw' => (by clear hw'; go_simp; (try rfl))⟩) ?_
            simp only [List.getElem_toArray, List.getElem_cons_zero, List.getElem_cons_succ, Act.put, List.setIfInBounds_toArray, List.set_cons_succ, List.set_cons_zero]
            refine wpBk_takeP (i := 10) rfl (by kernel_rfl) (fun _ _ _ _ h => h) (.inl ⟨rfl, fun w' hw' => (by clear hw'; go_simp; (try rfl))⟩) ?_
            simp only [List.getElem_toArray, List.getElem_cons_zero, List.getElem_cons_succ, Act.put, List.setIfInBounds_toArray, List.set_cons_succ, List.set_cons_zero]
            refine wpBk_takeP (i := 11) rfl (by kernel_rfl) (fun _ _ _ _ h => h) (.inl ⟨rfl, fun w' hw' => (by clear hw'; go_simp; (try rfl))⟩) ?_
            simp only [List.getElem_toArray, List.getElem_cons_zero, List.getElem_cons_succ, Act.put, List.setIfInBounds_toArray, List.set_cons_succ, List.set_cons_zero]
            refine wpBk_takeP (i := 12) rfl (by kernel_rfl) (fun _ _ _ _ h => h) (.inl ⟨rfl, fun w' hw' => (by clear hw'; go_simp; (try rfl))⟩) ?_
            simp only [List.getElem_toArray, List.getElem_cons_zero, List.getElem_cons_succ, Act.put, List.setIfInBounds_toArray, List.set_cons_succ, List.set_cons_zero]
            refine wpBk_takeP (i := 13) rfl (by kernel_rfl) (fun _ _ _ _ h => h) (.inl ⟨rfl, fun w' hw' => (by clear hw'; go_simp; (try rfl))⟩) ?_
            simp only [List.getElem_toArray, List.getElem_cons_zero, List.getElem_cons_succ, Act.put, List.setIfInBounds_toArray, List.set_cons_succ, List.set_cons_zero]
            refine wpBk_takeP (i := 14) rfl (by kernel_rfl) (fun _ _ _ _ h => h) (.inl ⟨rfl, fun w' hw' => (by clear hw'; go_simp; (try rfl))⟩) ?_
            simp only [List.getElem_toArray, List.getElem_cons_zero, List.getElem_cons_succ, Act.put, List.setIfInBounds_toArray, List.set_cons_succ, List.set_cons_zero]
            refine wpBk_take (i := 15) rfl (by kernel_rfl) (fun _ _ _ _ h => h) (.inl ⟨rfl, fun w' hw' => (by have z2 := (HB.out.facts hw'.2.2.1).2.2.1; clear hw'; go_simp; (try rfl))⟩) ⟨c0, c1, BD.out, c2⟩ ?_
            simp only [List.getElem_toArray, List.getElem_cons_zero, List.getElem_cons_succ, Act.put, List.setIfInBounds_toArray, List.set_cons_succ, List.set_cons_zero]
            refine wpBk_takeP (i := 16) rfl (by kernel_rfl) (fun _ _ _ _ h => h) (.inl ⟨rfl, fun w' hw' => (by clear hw'; go_simp; (try rfl))⟩) ?_
            simp only [List.getElem_toArray, List.getElem_cons_zero, List.getElem_cons_succ, Act.put, List.setIfInBounds_toArray, List.set_cons_succ, List.set_cons_zero]
            refine wpBk_takeP (i := 17) rfl (by kernel_rfl) (fun _ _ _ _ h => h) (.inl ⟨rfl, fun w' hw' => (by clear hw'; go_simp; (try rfl))⟩) ?_
            simp only [List.getElem_toArray, List.getElem_cons_zero, List.getElem_cons_succ, Act.put, List.setIfInBounds_toArray, List.set_cons_succ, List.set_cons_zero]
            refine wpBk_takeP (i := 18) rfl (by kernel_rfl) (fun _ _ _ _ h => h) (.inl ⟨rfl, fun w' hw' => (by clear hw'; go_simp; (try rfl))⟩) ?_
            simp only [List.getElem_toArray, List.getElem_cons_zero, List.getElem_cons_succ, Act.put, List.setIfInBounds_toArray, List.set_cons_succ, List.set_cons_zero]
            refine wpBk_takeP (i := 19) rfl (by kernel_rfl) (fun _ _ _ _ h => h) (.inl ⟨rfl, fun w' hw' => (by clear hw'; go_simp; (try rfl))⟩) ?_
            simp only [List.getElem_toArray, List.getElem_cons_zero, List.getElem_cons_succ, Act.put, List.setIfInBounds_toArray, List.set_cons_succ, List.set_cons_zero]
            refine wpBk_take (i := 20) rfl (by kernel_rfl) (fun _ _ _ _ h => h) (.inl ⟨rfl, fun w' hw' => (by have z3 := hw'.2.2.2; clear hw'; go_simp; (try rfl))⟩) ⟨c0, c1, BD.out, c2⟩ ?_
            simp only [List.getElem_toArray, List.getElem_cons_zero, List.getElem_cons_succ, Act.put, List.setIfInBounds_toArray, List.set_cons_succ, List.set_cons_zero]
            refine wpBk_takeP (i := 21) rfl (by kernel_rfl) (fun _ _ _ _ h => h) (.inl ⟨rfl, fun w' hw' => (by clear hw'; go_simp; (try rfl))⟩) ?_
            simp only [List.getElem_toArray, List.getElem_cons_zero, List.getElem_cons_succ, Act.put, List.setIfInBounds_toArray, List.set_cons_succ, List.set_cons_zero]
            refine wpBk_take (i := 22) rfl (by kernel_rfl) (fun _ _ _ _ h => h) (.inl ⟨rfl, fun w' hw' => (by have z0 := hw'.1; clear hw'; go_simp; (try rfl))⟩) ⟨c0, c1, BD.out, c2⟩ ?_
            simp only [List.getElem_toArray, List.getElem_cons_zero, List.getElem_cons_succ, Act.put, List.setIfInBounds_toArray, List.set_cons_succ, List.set_cons_zero]
            refine wpBk_takeP (i := 23) rfl (by kernel_rfl) (fun _ _ _ _ h => h) (.inl ⟨rfl, fun w' hw' => (by clear hw'; go_simp; (try rfl))⟩) ?_
            simp only [List.getElem_toArray, List.getElem_cons_zero, List.getElem_cons_succ, Act.put, List.setIfInBounds_toArray, List.set_cons_succ, List.set_cons_zero]
            refine wpBk_takeP (i := 24) rfl (by kernel_rfl) (fun _ _ _ _ h => h) (.inl ⟨rfl, fun w' hw' => (by clear hw'; go_simp; (try rfl))⟩) ?_
            simp only [List.getElem_toArray, List.getElem_cons_zero, List.getElem_cons_succ, Act.put, List.setIfInBounds_toArray, List.set_cons_succ, List.set_cons_zero]
            refine wpBk_takeP (i := 25) rfl (by kernel_rfl) (fun _ _ _ _ h => h) (.inl ⟨rfl, fun w' hw' => (by clear hw'; go_simp; (try rfl))⟩) ?_
            simp only [List.getElem_toArray, List.getElem_cons_zero, List.getElem_cons_succ, Act.put, List.setIfInBounds_toArray, List.set_cons_succ, List.set_cons_zero]
            refine ⟨by kernel_rfl, ?_⟩
            refine NoPanic.normal ?_
            go_wp2_with fail
            go_ret
            exact ⟨by rw [HF.out, NO.out]; rfl, B1.out.trans (BD.out.mono B1.out.size)⟩
          · have YES : Hid (LvOk x.lv (m + 1 + 1)) := Lib.hid ⟨fun j hj h => by
              by_cases e : j = m + 1
              · subst e
                rw [HRR.out]
                exact ⟨HPQ.out, by rw [HZI.out]; exact HZQ.out⟩
              · exact HLV.out.1 j hj (by omega), fun j hj h => by
              by_cases e : j = m
              · subst e
                rw [HRR.out, HP0.out]
                exact HBQ.out
              · exact HLV.out.2 j hj (by omega)⟩
            refine wp_region_noPanic (wp_region_any (by kernel_rfl) (wpAny_of_bk (S := (fun w' => w'.cell? ⟨T, 0, none⟩ = some (.string r.p) ∧ w'.rangeAt T 1 r.id.cells ∧ Below w1.heap.size w1 w' ∧ w'.cell? ⟨b, o + m * 33, none⟩ = some (.string p0))) (m := 26) _ _ _ _ ?_))
            show wpBk _ _ _ _ _ _ 26 _ _ w5.drew
            rw [hwd]
            refine wpBk_takeP (i := 0) rfl (by kernel_rfl) (fun _ _ _ _ h => h) (.inl ⟨rfl, fun w' hw' => (by clear hw'; go_simp; (try rfl))⟩) ?_
            simp only [List.getElem_toArray, List.getElem_cons_zero, List.getElem_cons_succ, Act.put, List.setIfInBounds_toArray, List.set_cons_succ, List.set_cons_zero]
            refine wpBk_take (i := 1) rfl (by kernel_rfl) (fun _ _ _ _ h => h) (.inl ⟨rfl, fun w' hw' => (by have z0 := hw'.1; clear hw'; go_simp; (try rfl))⟩) ⟨c0, c1, BD.out, c2⟩ ?_
            simp only [List.getElem_toArray, List.getElem_cons_zero, List.getElem_cons_succ, Act.put, List.setIfInBounds_toArray, List.set_cons_succ, List.set_cons_zero]
            refine wpBk_one (i := 2) rfl rfl (by kernel_rfl) (fun K hK => ?_)
            refine wp_fn (f := 60) (xs := #[.string r.p]) (by first | (go_simp; done) | (go_simp; rfl)) (CP.out.mono ?_)
            rintro e _ ⟨rfl, rfl⟩
            refine ⟨_, rfl, hK _ _ ⟨fun h9 _ => h9, ?_⟩⟩
            simp only [List.getElem_toArray, List.getElem_cons_zero, List.getElem_cons_succ, Act.put, List.setIfInBounds_toArray, List.set_cons_succ, List.set_cons_zero]
            refine wpBk_takeP (i := 3) rfl (by kernel_rfl) (fun _ _ _ _ h => h) (.inl ⟨rfl, fun w' hw' => (by clear hw'; go_simp; (try rfl))⟩) ?_
            simp only [List.getElem_toArray, List.getElem_cons_zero, List.getElem_cons_succ, Act.put, List.setIfInBounds_toArray, List.set_cons_succ, List.set_cons_zero]
            refine wpBk_takeP (i := 4) rfl (by kernel_rfl) (fun _ _ _ _ h => h) (.inl ⟨rfl, fun w' hw' => (by clear hw'; go_simp; (try rfl))⟩) ?_
            simp only [List.getElem_toArray, List.getElem_cons_zero, List.getElem_cons_succ, Act.put, List.setIfInBounds_toArray, List.set_cons_succ, List.set_cons_zero]
            refine wpBk_takeP (i := 5) rfl (by kernel_rfl) (fun _ _ _ _ h => h) (.inl ⟨rfl, fun w' hw' => (by clear hw'; go_simp; (try rfl))⟩) ?_
            simp only [List.getElem_toArray, List.getElem_cons_zero, List.getElem_cons_succ, Act.put, List.setIfInBounds_toArray, List.set_cons_succ, List.set_cons_zero]
            refine wpBk_take (i := 6) rfl (by kernel_rfl) (fun _ _ _ _ h => h) (yieldsIf_load_mid rfl 27 (.tmp 38) rfl T 1 rfl r.id.cells _ (fun w' hw' => hw'.2.1) Tryz.underlying27 rfl (by rw [id_sz]; exact size_idv)) ⟨c0, c1, BD.out, c2⟩ ?_
            simp only [List.getElem_toArray, List.getElem_cons_zero, List.getElem_cons_succ, Act.put, List.setIfInBounds_toArray, List.set_cons_succ, List.set_cons_zero]
            refine wpBk_takeP (i := 7) rfl (by kernel_rfl) (fun _ _ _ _ h => h) (yieldsIf_build rfl 27 [] rfl zI.cells.toArray ZB.out) ?_
            simp only [List.getElem_toArray, List.getElem_cons_zero, List.getElem_cons_succ, Act.put, List.setIfInBounds_toArray, List.set_cons_succ, List.set_cons_zero]
            refine wpBk_takeP (i := 8) rfl (by kernel_rfl) (fun _ _ _ _ h => h) (.inl ⟨rfl, fun w' hw' => (by clear hw'; have e9 := EQ w'; go_simp; (try rfl))⟩) ?_
            simp only [List.getElem_toArray, List.getElem_cons_zero, List.getElem_cons_succ, Act.put, List.setIfInBounds_toArray, List.set_cons_succ, List.set_cons_zero]
            refine wpBk_takeP (i := 9) rfl (by kernel_rfl) (fun _ _ _ _ h => h) (.inl ⟨rfl, fun w' hw' => (by clear hw'; go_simp; (try rfl))⟩) ?_
            simp only [List.getElem_toArray, List.getElem_cons_zero, List.getElem_cons_succ, Act.put, List.setIfInBounds_toArray, List.set_cons_succ, List.set_cons_zero]
            refine wpBk_takeP (i := 10) rfl (by kernel_rfl) (fun _ _ _ _ h => h) (.inl ⟨rfl, fun w' hw' => (by clear hw'; go_simp; (try rfl))⟩) ?_
            simp only [List.getElem_toArray, List.getElem_cons_zero, List.getElem_cons_succ, Act.put, List.setIfInBounds_toArray, List.set_cons_succ, List.set_cons_zero]
            refine wpBk_takeP (i := 11) rfl (by kernel_rfl) (fun _ _ _ _ h => h) (.inl ⟨rfl, fun w' hw' => (by clear hw'; go_simp; (try rfl))⟩) ?_
            simp only [List.getElem_toArray, List.getElem_cons_zero, List.getElem_cons_succ, Act.put, List.setIfInBounds_toArray, List.set_cons_succ, List.set_cons_zero]
            refine wpBk_takeP (i := 12) rfl (by kernel_rfl) (fun _ _ _ _ h => h) (.inl ⟨rfl, fun w' hw' => (by clear hw'; go_simp; (try rfl))⟩) ?_
            simp only [List.getElem_toArray, List.getElem_cons_zero, List.getElem_cons_succ, Act.put, List.setIfInBounds_toArray, List.set_cons_succ, List.set_cons_zero]
            refine wpBk_takeP (i := 13) rfl (by kernel_rfl) (fun _ _ _ _ h => h) (.inl ⟨rfl, fun w' hw' => (by clear hw'; go_simp; (try rfl))⟩) ?_
            simp only [List.getElem_toArray, List.getElem_cons_zero, List.getElem_cons_succ, Act.put, List.setIfInBounds_toArray, List.set_cons_succ, List.set_cons_zero]
            refine wpBk_takeP (i := 14) rfl (by kernel_rfl) (fun _ _ _ _ h => h) (.inl ⟨rfl, fun w' hw' => (by clear hw'; go_simp; (try rfl))⟩) ?_
            simp only [List.getElem_toArray, List.getElem_cons_zero, List.getElem_cons_succ, Act.put, List.setIfInBounds_toArray, List.set_cons_succ, List.set_cons_zero]
            refine wpBk_take (i := 15) rfl (by kernel_rfl) (fun _ _ _ _ h => h) (.inl ⟨rfl, fun w' hw' => (by have z2 := (HB.out.facts hw'.2.2.1).2.2.1; clear hw'; go_simp; (try rfl))⟩) ⟨c0, c1, BD.out, c2⟩ ?_
            simp only [List.getElem_toArray, List.getElem_cons_zero, List.getElem_cons_succ, Act.put, List.setIfInBounds_toArray, List.set_cons_succ, List.set_cons_zero]
            refine wpBk_takeP (i := 16) rfl (by kernel_rfl) (fun _ _ _ _ h => h) (.inl ⟨rfl, fun w' hw' => (by clear hw'; go_simp; (try rfl))⟩) ?_
            simp only [List.getElem_toArray, List.getElem_cons_zero, List.getElem_cons_succ, Act.put, List.setIfInBounds_toArray, List.set_cons_succ, List.set_cons_zero]
            refine wpBk_takeP (i := 17) rfl (by kernel_rfl) (fun _ _ _ _ h => h) (.inl ⟨rfl, fun w' hw' => (by clear hw'; go_simp; (try rfl))⟩) ?_
            simp only [List.getElem_toArray, List.getElem_cons_zero, List.getElem_cons_succ, Act.put, List.setIfInBounds_toArray, List.set_cons_succ, List.set_cons_zero]
            refine wpBk_takeP (i := 18) rfl (by kernel_rfl) (fun _ _ _ _ h => h) (.inl ⟨rfl, fun w' hw' => (by clear hw'; go_simp; (try rfl))⟩) ?_
            simp only [List.getElem_toArray, List.getElem_cons_zero, List.getElem_cons_succ, Act.put, List.setIfInBounds_toArray, List.set_cons_succ, List.set_cons_zero]
            refine wpBk_takeP (i := 19) rfl (by kernel_rfl) (fun _ _ _ _ h => h) (.inl ⟨rfl, fun w' hw' => (by clear hw'; go_simp; (try rfl))⟩) ?_
            simp only [List.getElem_toArray, List.getElem_cons_zero, List.getElem_cons_succ, Act.put, List.setIfInBounds_toArray, List.set_cons_succ, List.set_cons_zero]
            refine wpBk_take (i := 20) rfl (by kernel_rfl) (fun _ _ _ _ h => h) (.inl ⟨rfl, fun w' hw' => (by have z3 := hw'.2.2.2; clear hw'; go_simp; (try rfl))⟩) ⟨c0, c1, BD.out, c2⟩ ?_
            simp only [List.getElem_toArray, List.getElem_cons_zero, List.getElem_cons_succ, Act.put, List.setIfInBounds_toArray, List.set_cons_succ, List.set_cons_zero]
            refine wpBk_takeP (i := 21) rfl (by kernel_rfl) (fun _ _ _ _ h => h) (.inl ⟨rfl, fun w' hw' => (by clear hw'; go_simp; (try rfl))⟩) ?_
            simp only [List.getElem_toArray, List.getElem_cons_zero, List.getElem_cons_succ, Act.put, List.setIfInBounds_toArray, List.set_cons_succ, List.set_cons_zero]
            refine wpBk_take (i := 22) rfl (by kernel_rfl) (fun _ _ _ _ h => h) (.inl ⟨rfl, fun w' hw' => (by have z0 := hw'.1; clear hw'; go_simp; (try rfl))⟩) ⟨c0, c1, BD.out, c2⟩ ?_
            simp only [List.getElem_toArray, List.getElem_cons_zero, List.getElem_cons_succ, Act.put, List.setIfInBounds_toArray, List.set_cons_succ, List.set_cons_zero]
            refine wpBk_takeP (i := 23) rfl (by kernel_rfl) (fun _ _ _ _ h => h) (.inl ⟨rfl, fun w' hw' => (by clear hw'; go_simp; (try rfl))⟩) ?_
            simp only [List.getElem_toArray, List.getElem_cons_zero, List.getElem_cons_succ, Act.put, List.setIfInBounds_toArray, List.set_cons_succ, List.set_cons_zero]
            refine wpBk_takeP (i := 24) rfl (by kernel_rfl) (fun _ _ _ _ h => h) (.inl ⟨rfl, fun w' hw' => (by clear hw'; go_simp; (try rfl))⟩) ?_
            simp only [List.getElem_toArray, List.getElem_cons_zero, List.getElem_cons_succ, Act.put, List.setIfInBounds_toArray, List.set_cons_succ, List.set_cons_zero]
            refine wpBk_takeP (i := 25) rfl (by kernel_rfl) (fun _ _ _ _ h => h) (.inl ⟨rfl, fun w' hw' => (by clear hw'; go_simp; (try rfl))⟩) ?_
            simp only [List.getElem_toArray, List.getElem_cons_zero, List.getElem_cons_succ, Act.put, List.setIfInBounds_toArray, List.set_cons_succ, List.set_cons_zero]
            refine ⟨by kernel_rfl, ?_⟩
            refine NoPanic.normal ?_
            clear hwr hbq
            go_wp2_with fail
            go_roundw
            case rel => exact ⟨m + 1 + 1, by omega, by go_num, Lib.hid ⟨YES.out, BD.out⟩⟩
            case measure => simp [intOf]; omega
      · have hd : decide ((k : Int) < (nL : Int)) = false := by simp; omega
        have YES : Hid (q0 = true) := Lib.hid (by rw [← H0.out]; exact leaves_yes (by have h9 := hlo.out.1; rwa [show k = x.lv.length by rw [HLL.out]; omega] at h9))
        obtain ⟨wo, hwo⟩ : ∃ wo : World, wo = wr := ⟨_, rfl⟩
        have BO : Hid (Below w1.heap.size w1 wo) := Lib.hid (by rw [hwo]; exact hlo.out.2)
        have BW := Lib.hid (B1.out.trans (BO.out.mono B1.out.size))
        rw [← hwo]
        clear hwo hlo
        obtain ⟨a0, a1, a2, -, -, -, -, -, -, -, -⟩ := HB.out.facts BO.out
        have h1 := H1.out
        have h2 := H2.out
        cases q1
        · go_wp2_with fail
          go_ret
          exact ⟨by rw [HF.out, YES.out]; rfl, BW.out⟩
        cases q2
        · go_wp2_with fail
          go_ret
          exact ⟨by rw [HF.out, YES.out]; rfl, BW.out⟩
        go_wp2_with (first
          | ((with_reducible refine ldo (.tmp 1) ?_ ?_ w.heap.size 0 ox ?_ (RO.out wo BO.out) ?_); rfl; (first | rfl | go_simp); (first | rfl | go_simp))
          | fail)
        refine (CN.out wo BW.out).mono ?_
        rintro e w2 ⟨rfl, hb2⟩
        dsimp only
        have B2 := Lib.hid (BW.out.trans (hb2.mono BW.out.size))
        clear hb2
        go_wp2_with fail
        go_ret
        exact ⟨by rw [HF.out, YES.out]; rfl, B2.out⟩
  have d2 : (x.kind == 2) = false := by simp [K2]
  by_cases K3 : x.kind = 3
  · have d3 : (x.kind == 3) = true := by simp [K3]
    obtain ⟨q0, h0⟩ : ∃ q, (x.text.toList == []) = q := ⟨_, rfl⟩
    obtain ⟨q1, h1⟩ : ∃ q, ((nL : Int) == 0) = q := ⟨_, rfl⟩
    obtain ⟨q2, h2⟩ : ∃ q, (x.tree.b == zI.b) = q := ⟨_, rfl⟩
    obtain ⟨q3, h3⟩ : ∃ q, rightC x.es = q := ⟨_, rfl⟩
    obtain ⟨q4, h4⟩ : ∃ q, decide ((x.note.size : Int) ≤ 200) = q := ⟨_, rfl⟩
    obtain ⟨q5, h5⟩ : ∃ q, style6R x = q := ⟨_, rfl⟩
    have HF : Hid (fieldsR x = (q0 && q1 && !q2 && q3 && q4 && q5)) := Lib.hid (by unfold fieldsR; rw [if_neg K1, if_neg K2, if_pos K3, h0, h3, h4, h5, HZI.out, h2, ← h1, nat_int0, HLL.out])
    have E2 : ∀ w, (binOp .neq 27 (idV x.tree) (.agg zI.cells.toArray)).run Tryz.prog w = .ok (.bool (!q2)) w := fun w => by rw [← h2]; exact neq_id x.tree zI w
    rw [h3] at CE
    rw [h5] at CS
    clear h2 h3 h5 K1 K2 K3
    have H4 := Lib.hid h4
    clear h4
    cases q0
    · go_wp2_with (first
      | ((with_reducible refine ldi (.tmp 85) ?_ ?_ w.heap.size 4 x.tree ?_ R4.out ?_); rfl; (first | rfl | go_simp); (first | rfl | go_simp))
      | ((with_reducible refine bdt 27 [] ?_ ?_ zI.cells.toArray ?_ ?_); rfl; (first | rfl | go_simp); exact ZB.out)
      | fail)
      go_ret
      exact ⟨by rw [HF.out]; rfl, B1.out⟩
    cases q1
    · go_wp2_with (first
      | ((with_reducible refine ldi (.tmp 85) ?_ ?_ w.heap.size 4 x.tree ?_ R4.out ?_); rfl; (first | rfl | go_simp); (first | rfl | go_simp))
      | ((with_reducible refine bdt 27 [] ?_ ?_ zI.cells.toArray ?_ ?_); rfl; (first | rfl | go_simp); exact ZB.out)
      | fail)
      go_ret
      exact ⟨by rw [HF.out]; rfl, B1.out⟩
    cases q2
    rotate_left
    · go_wp2_with (first
      | ((with_reducible refine ldi (.tmp 85) ?_ ?_ w.heap.size 4 x.tree ?_ R4.out ?_); rfl; (first | rfl | go_simp); (first | rfl | go_simp))
      | ((with_reducible refine bdt 27 [] ?_ ?_ zI.cells.toArray ?_ ?_); rfl; (first | rfl | go_simp); exact ZB.out)
      | fail)
      go_ret
      exact ⟨by rw [HF.out]; rfl, B1.out⟩
    go_wp2_with (first
      | ((with_reducible refine ldi (.tmp 85) ?_ ?_ w.heap.size 4 x.tree ?_ R4.out ?_); rfl; (first | rfl | go_simp); (first | rfl | go_simp))
      | ((with_reducible refine bdt 27 [] ?_ ?_ zI.cells.toArray ?_ ?_); rfl; (first | rfl | go_simp); exact ZB.out)
      | fail)
    refine (CE.out w1 B1.out).mono ?_
    rintro e w2 ⟨rfl, hb2⟩
    dsimp only
    have Y2 := Lib.hid hb2
    have B2 := Lib.hid (B1.out.trans (hb2.mono B1.out.size))
    clear hb2 a0 a1 a2 a3 a6 a7 a8 a9 a10
    cases q3
    · go_wp2_with fail
      go_ret
      exact ⟨by rw [HF.out]; rfl, B2.out⟩
    have a10 := (HB.out.facts Y2.out).2.2.2.2.2.2.2.2.2.2
    have h4 := H4.out
    cases q4
    · go_wp2_with fail
      go_ret
      exact ⟨by rw [HF.out]; rfl, B2.out⟩
    go_wp2_with (first
      | ((with_reducible refine ldo (.tmp 1) ?_ ?_ w.heap.size 0 ox ?_ (RO.out w2 Y2.out) ?_); rfl; (first | rfl | go_simp); (first | rfl | go_simp))
      | fail)
    refine (CS.out w2 B2.out).mono ?_
    rintro e w3 ⟨rfl, hb3⟩
    dsimp only
    have B3 := Lib.hid (B2.out.trans (hb3.mono B2.out.size))
    clear hb3
    go_wp2_with fail
    go_ret
    exact ⟨by rw [HF.out]; rfl, B3.out⟩
  · have d3 : (x.kind == 3) = false := by simp [K3]
    have HF : Hid (fieldsR x = false) := Lib.hid (by unfold fieldsR; rw [if_neg K1, if_neg K2, if_neg K3])
    go_wp2_with fail
    go_ret
    exact ⟨by rw [HF.out]; rfl, B1.out⟩
end Go.Proofs.YtcofkhmgmemkmaaGreatDoor
