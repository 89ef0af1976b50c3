/-
  OBJECTS: Decode.
-/
import Derived.Test.YtcofkhmgmemkmaaGreatDoorK32
namespace Go.Proofs.YtcofkhmgmemkmaaGreatDoor
set_option linter.unusedVariables false
set_option linter.unusedSimpArgs false
open Go.RowKit Go.WideShapes Go.ChangeShapes Go.Deep Go.Shelf
attribute [local irreducible] wpQuiet

/-- The object whose bytes these are. -/
noncomputable def decW (b : List UInt8) : Ov × Int :=
  if (objR (b, 0)).2.2 ≠ 0 then (zOv, (objR (b, 0)).2.2)
  else if okW (objR (b, 0)).1 && (bytesW (objR (b, 0)).1 == b) then ((objR (b, 0)).1, 0)
  else (zOv, 160)
/-- An object that is answered. -/
structure ObjRes (v : Value) (x : Ov) (w' : World) : Prop where
  ob : ∃ L P E, v = ofV (x.at_ L P E) ∧ Obj3 w' w'.heap.size x L P E ∧ Lim L P E
theorem z_ok {w : World} : Obj3 w w.heap.size zOv nSl nSl nSl := by
  have k := kOv_ok (w := w) (B := w.heap.size) (k := 0) ⟨by decide, by decide⟩
  exact ⟨k.l, k.p, k.e, k.kb, k.sb, k.nb, k.ab⟩
theorem ObjRes.zero (w : World) : ObjRes (ofV zOf) zOv w := ⟨nSl, nSl, nSl, rfl, z_ok, by decide, by decide, by decide⟩
set_option maxRecDepth 100000 in
set_option maxHeartbeats 8000000 in
theorem Decode_any {w : World} {A : Option Addr} {n c : Nat} {l : List UInt8} (hs : S3.SlB w w.heap.size A n c l) (hn : n ≤ 1000000) :
    Calls Tryz.prog 5 #[.slice A n c] w fun x w' => (∃ v, x = .returned (.tuple #[v, .int .i64 (decW l).2]) ∧ ObjRes v (decW l).1 w') ∧ Below w.heap.size w w' := by
  obtain ⟨zz, hzz⟩ : ∃ z, zOf = z := ⟨_, rfl⟩
  have ZO : Hid (∀ w : World, (zeroValue 34).run Tryz.prog w = .ok (.agg zz.cells.toArray) w) := Lib.hid (by rw [← hzz]; exact zero_of)
  have BZ : Hid (Tryz.prog.built 34 [] = some zz.cells.toArray) := Lib.hid (by rw [← hzz]; exact built_obz)
  have ZZ1 : Hid (zz.lv.oneCell' = true ∧ zz.pv.oneCell' = true ∧ zz.ev.oneCell' = true) := Lib.hid (by rw [← hzz]; exact zOf_one)
  obtain ⟨w1, hw1⟩ : ∃ w1, w.alloc (.cells zz.cells.toArray 34) = w1 := ⟨_, rfl⟩
  have s1 : w1.heap.size = w.heap.size + 1 := by rw [← hw1]; simp
  have B1 : Hid (Below w.heap.size w w1) := Lib.hid (by rw [← hw1]; exact (Below.refl _ _).alloc (Nat.le_refl _) _)
  have Y1 : Hid (Lies w1 w.heap.size 73 zz.cells) := Lib.hid (by
    rw [← hw1]
    have := Lies.new w zz.cells 34
    rwa [of_sz] at this)
  have HS : Hid (∀ W, Below w.heap.size w W → S3.SlB W w.heap.size A n c l) := Lib.hid fun W hW => hs.below hW
  have hln := hs.len
  obtain ⟨R, hR⟩ : ∃ R, objR (l, 0) = R := ⟨_, rfl⟩
  obtain ⟨D, hD⟩ : ∃ D, decW l = D := ⟨_, rfl⟩
  have HD : Hid ((if R.2.2 ≠ 0 then (zOv, R.2.2) else if okW R.1 && (bytesW R.1 == l) then (R.1, 0) else (zOv, 160)) = D) := Lib.hid (by rw [← hD, ← hR]; rfl)
  have HRR := Lib.hid hR
  rw [hD]
  have HW1 := Lib.hid hw1
  have HZZ := Lib.hid hzz
  clear hw1 hs hR hD hzz
  go_enter Tryz.func5, Tryz.ntmps5
  go_upto_region 1 with (first
    | ((with_reducible refine alt 34 ?_ ?_ zz.cells ZO.out ?_); rfl; rfl; rw [HW1.out]; (try simp only [Act.put, List.setIfInBounds_toArray, List.set_cons_succ, List.set_cons_zero]))
    | fail)
  go_wp2_with fail
  refine (S3.read_any ((HS.out w1 B1.out).more (B := w.heap.size) (B' := w1.heap.size) (by omega)) (Nat.le_refl _) (by omega)).mono ?_
  rintro e w2 ⟨g, hg, rfl, hR2, hb2⟩
  dsimp only
  have R2 : Hid (RdS w2 g (l, 0)) := Lib.hid ⟨hR2, by show l.length ≤ _; omega⟩
  have B2 := Lib.hid (B1.out.trans (hb2.mono B1.out.size))
  have Y2 : Hid (Lies w2 w.heap.size 73 zz.cells) := Lib.hid (Y1.out.below hb2 (by omega))
  have z2 := hb2.size
  have hgl := hR2.lt
  clear hR2 hb2
  go_upto_region 2 with fail
  obtain ⟨w3, hw3⟩ : ∃ w3, w2.alloc (.cells #[S3.rp g] 58) = w3 := ⟨_, rfl⟩
  have b23 : Below w2.heap.size w2 w3 := by rw [← hw3]; exact (Below.refl _ _).alloc (Nat.le_refl _) _
  have s3 : w3.heap.size = w2.heap.size + 1 := by rw [← hw3]; simp
  have K3 : Hid (w3.cell? ⟨w2.heap.size, 0, none⟩ = some (S3.rp g)) := Lib.hid (by rw [← hw3]; exact (Boxed.new w2 58 (S3.rp g)).cell)
  have R3 : Hid (RdS w3 g (l, 0)) := Lib.hid (R2.out.below b23)
  have B3 := Lib.hid (B2.out.trans (b23.mono B2.out.size))
  have Y3 : Hid (Lies w3 w.heap.size 73 zz.cells) := Lib.hid (Y2.out.below b23 (by omega))
  rw [show w2.alloc (.cells #[.pointer (some ⟨g, 0, none⟩)] 58) = w3 from hw3]
  obtain ⟨b4, hb4⟩ : ∃ b, w2.heap.size = b := ⟨_, rfl⟩
  rw [hb4] at K3 s3 hgl z2 ⊢
  clear hw3 b23 hb4
  have k3 := K3.out
  go_wp2_with fail
  refine (objr_any R3.out).mono ?_
  rintro e w4 ⟨v, rfl, hO⟩
  dsimp only
  rw [HRR.out] at hO
  obtain ⟨L, P, E, rfl, hob, hlm, hlo⟩ := hO.ob
  have HLO := Lib.hid hlo
  obtain ⟨xo, hxo⟩ : ∃ o, R.1.at_ L P E = o := ⟨_, rfl⟩
  have HXO := Lib.hid hxo
  have XO1 : Hid (xo.lv.oneCell' = true ∧ xo.pv.oneCell' = true ∧ xo.ev.oneCell' = true) := Lib.hid (by rw [← hxo]; exact ⟨rfl, rfl, rfl⟩)
  rw [hxo]
  have HOB := Lib.hid hob
  have HLM := Lib.hid hlm
  have HG4 := hO.gr
  have R4 := Lib.hid hO.r
  have z4 := HG4.size
  have K4 : Hid (w4.cell? ⟨b4, 0, none⟩ = some (S3.rp g)) := Lib.hid (cell_grown HG4 (by omega) (by omega) K3.out)
  have Y4 : Hid (Lies w4 w.heap.size 73 zz.cells) := Lib.hid (Y3.out.kp (HG4.block _ (by omega) (by simp <;> omega)) z4)
  have B4 : Hid (Below w.heap.size w w4) := Lib.hid (B3.out.trans ⟨HG4.os, HG4.tape, HG4.output, HG4.size, fun i hi => HG4.block i (by omega) (by simp <;> omega)⟩)
  clear hxo hob hlm hlo hO k3 HG4
  obtain ⟨wA, hwA⟩ : ∃ wA, w4.alloc (.cells zz.cells.toArray 34) = wA := ⟨_, rfl⟩
  have YA : Lies wA w4.heap.size 73 zz.cells := by
    rw [← hwA]
    have := Lies.new w4 zz.cells 34
    rwa [of_sz] at this
  obtain ⟨w5, hw5⟩ : ∃ w5, wA.setCells w4.heap.size 0 xo.cells = w5 := ⟨_, rfl⟩
  have C5 : Below w4.heap.size w4 w5 := by rw [← hw5, ← hwA]; exact below_setCells ((Below.refl _ _).alloc (Nat.le_refl _) _) (Nat.le_refl _) _ _
  have X5 : Hid (Lies w5 w4.heap.size 73 xo.cells) := Lib.hid (by rw [← hw5]; exact YA.set_ (of_sz _))
  have R5 : Hid (RdS w5 g R.2) := Lib.hid (R4.out.below C5)
  have K5 : Hid (w5.cell? ⟨b4, 0, none⟩ = some (S3.rp g)) := Lib.hid ((World.cell?_of_block (C5.block b4 (by omega))).trans K4.out)
  have Y5 : Hid (Lies w5 w.heap.size 73 zz.cells) := Lib.hid (Y4.out.below C5 (by omega))
  have B5 := Lib.hid (B4.out.trans (C5.mono B4.out.size))
  have O5 := Lib.hid ((HOB.out.below C5).more C5.size)
  have HC5 := Lib.hid C5
  have hx5 := X5.out.lt
  have HWA := Lib.hid hwA
  have HW5 := Lib.hid hw5
  have TA := Lib.hid YA.th
  clear hwA hw5 YA C5
  go_upto_region 3 with (first
    | ((with_reducible refine alt 34 ?_ ?_ zz.cells ZO.out ?_); rfl; rfl; rw [HWA.out]; (try simp only [Act.put, List.setIfInBounds_toArray, List.set_cons_succ, List.set_cons_zero]))
    | ((with_reducible refine sto (.tmp 5) (.tmp 13) ?_ ?_ w4.heap.size 0 xo ?_ ?_ TA.out XO1.out.1 XO1.out.2.1 XO1.out.2.2 ?_); rfl; rfl; rfl; rfl; rw [HW5.out]; (try simp only [Act.put]))
    | fail)
  obtain ⟨b5, hb5⟩ : ∃ b, w4.heap.size = b := ⟨_, rfl⟩
  have hb5' := hb5
  rw [hb5] at X5 hx5 z4 ⊢
  clear hb5 HWA HW5 TA
  have k5 := K5.out
  go_wp2_with fail
  refine (S3.err_any R5.out.1).mono ?_
  rintro e _ ⟨rfl, rfl⟩
  dsimp only
  obtain ⟨er, her⟩ : ∃ e, R.2.2 = e := ⟨_, rfl⟩
  rw [show R.snd.snd = er from her]
  rw [her] at HD
  clear her
  have T5 := Lib.hid Y5.out.th
  by_cases he : er = 0
  · subst he
    have HDB : Hid ((if okW R.1 && (bytesW R.1 == l) then (R.1, (0 : Int)) else (zOv, 160)) = D) := Lib.hid (by have h := HD.out; rw [if_neg (show ¬ ((0 : Int) ≠ 0) by simp)] at h; exact h)
    obtain ⟨ok, hok⟩ : ∃ b, okW R.1 = b := ⟨_, rfl⟩
    obtain ⟨qe, hqe⟩ : ∃ b, (bytesW R.1 == l) = b := ⟨_, rfl⟩
    have HQE := Lib.hid hqe
    rw [hok, hqe] at HDB
    have CE : Hid (Calls Tryz.prog 10 #[ofV xo] w5 fun e w' => (∃ A n c, e = .returned (.tuple #[.slice A n c, .int .i64 (if ok then 0 else 160)]) ∧ OwnB w' w5.heap.size A n c (if ok then bytesW R.1 else [])) ∧ Below w5.heap.size w5 w') := Lib.hid (by
      rw [← HXO.out, ← hok]
      exact Encode_any O5.out HLM.out)
    have RG5 := Lib.hid X5.out.rg
    clear hok hqe
    go_wp2_with (first
      | ((with_reducible refine ldo (.tmp 5) ?_ ?_ b5 0 xo ?_ RG5.out ?_); rfl; rfl; rfl)
      | fail)
    refine CE.out.mono ?_
    rintro e w6 ⟨⟨A6, n6, c6, rfl, hown⟩, hb6⟩
    dsimp only
    have HOW := Lib.hid hown
    have B6 := Lib.hid (B5.out.trans (hb6.mono B5.out.size))
    have Y6 : Hid (Lies w6 w.heap.size 73 zz.cells) := Lib.hid (Y5.out.below hb6 (by have := B5.out.size; have := Y5.out.lt; omega))
    have X6 : Hid (Lies w6 b5 73 xo.cells) := Lib.hid (X5.out.below hb6 (by omega))
    have O6 := Lib.hid ((O5.out.below hb6).more hb6.size)
    have HB56 := Lib.hid hb6
    clear hown hb6
    cases ok
    · simp only [Bool.false_eq_true, if_false]
      have Tz := Lib.hid Y6.out.th
      obtain ⟨w9, hw9⟩ : ∃ w9, w6.setCells w.heap.size 0 zz.cells = w9 := ⟨_, rfl⟩
      have N9 : Hid (w9.rangeAt w.heap.size 0 zz.cells) := Lib.hid (by rw [← hw9]; exact (Y6.out.set_ (of_sz _)).rg)
      have B9 : Hid (Below w.heap.size w w9) := Lib.hid (by rw [← hw9]; exact below_setCells B6.out (Nat.le_refl _) _ _)
      have HW9 := Lib.hid hw9
      have HDD : Hid ((zOv, (160 : Int)) = D) := Lib.hid (by rw [← HDB.out]; simp)
      clear hw9
      go_wp2_with (first
        | ((with_reducible refine bdt 34 [] ?_ ?_ zz.cells.toArray ?_ ?_); rfl; rfl; exact BZ.out)
        | ((with_reducible refine sto (.tmp 2) (.tmp 34) ?_ ?_ w.heap.size 0 zz ?_ ?_ Tz.out ZZ1.out.1 ZZ1.out.2.1 ZZ1.out.2.2 ?_); rfl; rfl; rfl; rfl; rw [HW9.out])
        | fail)
      exact bodyPost_ret (res_obi rfl _ _ w.heap.size 0 zz _ rfl rfl N9.out) rfl ⟨⟨ofV zz, by rw [← HDD.out]; rfl, by rw [← HDD.out, ← HZZ.out]; exact ObjRes.zero _⟩, B9.out⟩
    · simp only [if_true] at HOW ⊢
      have CQ : Hid (Calls Tryz.prog 16 #[.slice A6 n6 c6, .slice A n c] w6 fun e w' => e = .returned (.bool qe) ∧ w6 = w') := Lib.hid (S3.equal_is HOW.out.sl (HS.out w6 B6.out) qe HQE.out)
      cases qe
      · go_wp2_with fail
        refine CQ.out.mono ?_
        rintro e _ ⟨rfl, rfl⟩
        dsimp only
        have Tz := Lib.hid Y6.out.th
        obtain ⟨w9, hw9⟩ : ∃ w9, w6.setCells w.heap.size 0 zz.cells = w9 := ⟨_, rfl⟩
        have N9 : Hid (w9.rangeAt w.heap.size 0 zz.cells) := Lib.hid (by rw [← hw9]; exact (Y6.out.set_ (of_sz _)).rg)
        have B9 : Hid (Below w.heap.size w w9) := Lib.hid (by rw [← hw9]; exact below_setCells B6.out (Nat.le_refl _) _ _)
        have HW9 := Lib.hid hw9
        have HDD : Hid ((zOv, (160 : Int)) = D) := Lib.hid (by rw [← HDB.out]; simp)
        clear hw9
        go_wp2_with (first
          | ((with_reducible refine bdt 34 [] ?_ ?_ zz.cells.toArray ?_ ?_); rfl; rfl; exact BZ.out)
          | ((with_reducible refine sto (.tmp 2) (.tmp 34) ?_ ?_ w.heap.size 0 zz ?_ ?_ Tz.out ZZ1.out.1 ZZ1.out.2.1 ZZ1.out.2.2 ?_); rfl; rfl; rfl; rfl; rw [HW9.out])
          | fail)
        exact bodyPost_ret (res_obi rfl _ _ w.heap.size 0 zz _ rfl rfl N9.out) rfl ⟨⟨ofV zz, by rw [← HDD.out]; rfl, by rw [← HDD.out, ← HZZ.out]; exact ObjRes.zero _⟩, B9.out⟩
      · go_wp2_with fail
        refine CQ.out.mono ?_
        rintro e _ ⟨rfl, rfl⟩
        dsimp only
        have Tz := Lib.hid Y6.out.th
        have RG6 := Lib.hid X6.out.rg
        obtain ⟨w9, hw9⟩ : ∃ w9, w6.setCells w.heap.size 0 xo.cells = w9 := ⟨_, rfl⟩
        have N9 : Hid (w9.rangeAt w.heap.size 0 xo.cells) := Lib.hid (by rw [← hw9]; exact (Y6.out.set_ (of_sz _)).rg)
        have B9 : Hid (Below w.heap.size w w9) := Lib.hid (by rw [← hw9]; exact below_setCells B6.out (Nat.le_refl _) _ _)
        have O9 : Hid (Obj3 w9 w9.heap.size R.1 L P E) := Lib.hid (by
          have hg9 := grown_setCells w6 w.heap.size 0 xo.cells
          rw [hw9] at hg9
          have q1 := HC5.out.size
          have q2 := HB56.out.size
          have q3 := hg9.size
          exact HLO.out w9 (by omega) fun i h1 h2 => (hg9.block i (by omega) (by simp <;> omega)).trans ((HB56.out.block i (by omega)).trans (HC5.out.block i (by omega))))
        have HW9 := Lib.hid hw9
        have HDD : Hid ((R.1, (0 : Int)) = D) := Lib.hid (by rw [← HDB.out]; simp)
        clear hw9
        go_wp2_with (first
          | ((with_reducible refine ldo (.tmp 5) ?_ ?_ b5 0 xo ?_ RG6.out ?_); rfl; rfl; rfl)
          | ((with_reducible refine sto (.tmp 2) (.tmp 35) ?_ ?_ w.heap.size 0 xo ?_ ?_ Tz.out XO1.out.1 XO1.out.2.1 XO1.out.2.2 ?_); rfl; rfl; rfl; rfl; rw [HW9.out])
          | fail)
        exact bodyPost_ret (res_obi rfl _ _ w.heap.size 0 xo _ rfl rfl N9.out) rfl ⟨⟨ofV xo, by rw [← HDD.out]; rfl, by rw [← HDD.out, ← HXO.out]; exact ⟨L, P, E, rfl, O9.out, HLM.out⟩⟩, B9.out⟩
  · have hd0 : (er == 0) = false := by rw [Bool.eq_false_iff]; simpa using he
    obtain ⟨w6, hw6⟩ : ∃ w6, w5.setCells w.heap.size 0 zz.cells = w6 := ⟨_, rfl⟩
    have N6 : Hid (w6.rangeAt w.heap.size 0 zz.cells) := Lib.hid (by rw [← hw6]; exact (Y5.out.set_ (of_sz _)).rg)
    have B6 : Hid (Below w.heap.size w w6) := Lib.hid (by rw [← hw6]; exact below_setCells B5.out (Nat.le_refl _) _ _)
    have HW6 := Lib.hid hw6
    have HDD : Hid ((zOv, er) = D) := Lib.hid (by rw [← HD.out, if_pos he])
    clear hw6
    go_wp2_with (first
      | ((with_reducible refine bdt 34 [] ?_ ?_ zz.cells.toArray ?_ ?_); rfl; rfl; exact BZ.out)
      | ((with_reducible refine sto (.tmp 2) (.tmp 19) ?_ ?_ w.heap.size 0 zz ?_ ?_ T5.out ZZ1.out.1 ZZ1.out.2.1 ZZ1.out.2.2 ?_); rfl; rfl; rfl; rfl; rw [HW6.out])
      | fail)
    exact bodyPost_ret (res_obi rfl _ _ w.heap.size 0 zz _ rfl rfl N6.out) rfl ⟨⟨ofV zz, by rw [← HDD.out]; rfl, by rw [← HDD.out, ← HZZ.out]; exact ObjRes.zero _⟩, B6.out⟩
end Go.Proofs.YtcofkhmgmemkmaaGreatDoor
