/-
  OBJECTS: Parts, Id.
-/
import Derived.Test.YtnkhoghdfncgpaaGreatDoorK27
namespace Go.Proofs.YtnkhoghdfncgpaaGreatDoor
set_option linter.unusedVariables false
set_option linter.unusedSimpArgs false
open Go.RowKit Go.WideShapes Go.ChangeShapes Go.Deep Go.Shelf
attribute [local irreducible] wpQuiet

noncomputable def partsE (rs : List Rw) : Int := if rightR rs then gErr rs else 150
noncomputable def partsW (rs : List Rw) : List Ov := if rightR rs then gL rs else []
theorem Parts_any {w : World} {A : Option Addr} {n c : Nat} {rs : List Rw} (h : SqR w w.heap.size A n c rs) (hn : n ≤ 1000000) (hg : S3.GK w) :
    Calls Tryz.prog 23 #[.agg #[.slice A n c]] w fun e w' => (∃ A9 n9 c9, e = .returned (.tuple #[.slice A9 n9 c9, .int .i64 (partsE rs)]) ∧ GOut w' A9 n9 c9 (partsW rs)) ∧ Below w.heap.size w w' := by
  obtain ⟨w1, hw1⟩ : ∃ w1, w.alloc (.cells #[.slice A n c] 58) = w1 := ⟨_, rfl⟩
  have B1 : Hid (Below w.heap.size w w1) := Lib.hid (by rw [← hw1]; exact (Below.refl _ _).alloc (Nat.le_refl _) _)
  have X1 : Hid (Boxed w1 w.heap.size 58 (.slice A n c)) := Lib.hid (by rw [← hw1]; exact Boxed.new w _ _)
  have HW1 := Lib.hid hw1
  have HS := Lib.hid h
  have HG := Lib.hid hg
  have h00 := hg.lt
  clear hw1 h hg
  obtain ⟨q, hq⟩ : ∃ q, rightR rs = q := ⟨_, rfl⟩
  have HQ := Lib.hid hq
  have C1 : Hid (∀ W, Below w.heap.size w W → Calls Tryz.prog 44 #[.agg #[.slice A n c]] W fun e w' => e = .returned (.int .i64 (if q then 0 else 150)) ∧ Below W.heap.size W w') := Lib.hid fun W hW => by
    have := Check_any ((HS.out.below hW).more hW.size) hn
    rw [hq] at this
    exact this
  obtain ⟨er, her⟩ : ∃ er, partsE rs = er := ⟨_, rfl⟩
  obtain ⟨gl, hgl⟩ : ∃ l, partsW rs = l := ⟨_, rfl⟩
  have HER : Hid ((if q then gErr rs else 150) = er) := Lib.hid (by rw [← her, ← hq]; rfl)
  have HGL : Hid ((if q then gL rs else []) = gl) := Lib.hid (by rw [← hgl, ← hq]; rfl)
  rw [her, hgl]
  clear her hgl hq
  have C3 : Hid (∀ (W : World) (b : Nat), q = true → Below w.heap.size w W → Boxed W b 58 (.slice A n c) → Calls Tryz.prog 45 #[.func (.func 79) #[] #[.pointer (some ⟨b, 0, none⟩)]] W fun en w' => (∃ A9 n9 c9, en = .returned (.tuple #[.slice A9 n9 c9, .int .i64 er]) ∧ GOut w' A9 n9 c9 gl) ∧ Below W.heap.size W w') := Lib.hid fun W b hqt hW hb => by
    have := gathered_any hb ((HS.out.below hW).more hW.size) (gk_keep HG.out hW h00) (by rw [HQ.out, hqt])
    rw [← HER.out, ← HGL.out, hqt]
    exact this
  go_enter Tryz.func23, Tryz.ntmps23
  go_upto_region 1 with fail
  rw [HW1.out]
  have x1 := X1.out.cell
  go_wp2_with fail
  refine (C1.out w1 B1.out).mono ?_
  rintro e w2 ⟨rfl, hb⟩
  dsimp only
  have B2 := Lib.hid (B1.out.trans (hb.mono B1.out.size))
  have X2 : Hid (Boxed w2 w.heap.size 58 (.slice A n c)) := Lib.hid ((hb.block _ X1.out.lt).trans X1.out)
  clear hb x1
  have x2 := X2.out.cell
  cases q
  · go_wp2_with fail
    go_ret2
    have e1 : er = 150 := by rw [← HER.out]; rfl
    have e2 : gl = [] := by rw [← HGL.out]; rfl
    subst e1
    subst e2
    exact ⟨⟨none, 0, 0, rfl, GOut.nil _⟩, B2.out⟩
  · go_wp2_with fail
    refine (parts_any (w := w2) (A := A) (m := n) (c := c)).mono ?_
    rintro e w3 ⟨rfl, hbx, hb⟩
    dsimp only
    have B3 := Lib.hid (B2.out.trans (hb.mono B2.out.size))
    have HX := Lib.hid hbx
    clear hb hbx
    go_wp2_with fail
    refine (C3.out w3 w2.heap.size (by first | rfl | trivial) B3.out HX.out).mono ?_
    rintro e w4 ⟨⟨A9, n9, c9, rfl, hgo⟩, hb⟩
    dsimp only
    have B4 := Lib.hid (B3.out.trans (hb.mono B3.out.size))
    have HO := Lib.hid hgo
    clear hb hgo
    go_wp2_with fail
    go_ret2
    exact ⟨⟨A9, n9, c9, rfl, HO.out⟩, B4.out⟩
theorem hd_part0 (i : Idv) (j : Of) (w : World) : (part 26 (hdC i j).toArray 0).run Tryz.prog w = .ok (idV i) w := by
  have hu := Tryz.underlying26
  have hs : (sizeOf 26).run Tryz.prog w = .ok 32 w := by kernel_rfl
  simp only [part, isAgg, Sem.run_bind, run_underlying hu, Result.andThen_ok, Sem.run_pure, if_true, hs]
  have e : (hdC i j).toArray.extract 0 (0 + 32) = i.cells.toArray := by
    apply Array.ext'
    simp [hdC]
    rw [List.take_append_of_le_length (by rw [id_sz]; omega), List.take_of_length_le (by rw [id_sz]; omega)]
  rw [e]
  rfl
theorem run_fld (i : Idv) (j : Of) (w : World) : (Instr.field 68 (.agg (hdC i j).toArray) 0).run Tryz.prog w = .ok (idV i) w := by
  have hu := Tryz.underlying68
  have hp := hd_part0 i j w
  simp [Instr.field, Sem.run_bind, run_underlying hu, asAgg, hp]
theorem fld {ops : Array Oper} {rest : List Oper} {op : Oper} {a : Act} {w : World} {Q : Exit → Act → World → Prop} (x : Operand) (ho : op.op = .field 68 x 0) (hw : Region.wanted op (yielded ops a.tmps) = true) (i : Idv) (j : Of) (hx : a.eval x = .agg (hdC i j).toArray)
    (h : wpList Tryz.prog ops Q rest (a.put op.dst (idV i)) w) : wpList Tryz.prog ops Q (op :: rest) a w := by
  refine wpList_want hw ?_
  unfold Oper.wp execOp
  simp only [ho, hx, Sem.run_bind, run_fld, Result.andThen_ok, Sem.run_pure]
  exact h
set_option maxRecDepth 100000 in
theorem Id_any {w : World} {x : Ov} {L P E : Sl} (h : Obj3 w w.heap.size x L P E) (hm : Lim L P E) (hg : S3.GK w) :
    Calls Tryz.prog 9 #[ofV (x.at_ L P E)] w fun e w' => e = .returned (.tuple #[idV (if okW x then idW x else Idv.zero), .int .i64 (if okW x then 0 else 160)]) ∧ Below w.heap.size w w' := by
  obtain ⟨ox, w1, hb⟩ := Bxo.mk_ w x L P E
  have HB := Lib.hid hb
  rw [hb.eq]
  have h00 := hg.lt
  have HL : Hid (∀ W, Below w.heap.size w W → Obj3 W W.heap.size x L P E) := Lib.hid fun W hW => (h.below hW).more hW.size
  have C1 : Hid (∀ W, Below w.heap.size w W → Calls Tryz.prog 11 #[ofV ox] W fun e w' => e = .returned (.int .i64 (if okW x then 0 else 160)) ∧ Below W.heap.size W w') := Lib.hid fun W hW => by
    rw [← hb.eq]; exact OCheck_any (HL.out W hW) hm
  have C3 : Hid (∀ W, Below w.heap.size w W → okW x = true → Calls Tryz.prog 30 #[ofV ox] W fun e w' => e = .returned (.agg (hdC (idW x) ox).toArray) ∧ Below W.heap.size W w') := Lib.hid fun W hW hs => by
    rw [← hb.eq]; exact held_any (HL.out W hW) (layW_of (okW_sound hs)) (gk_keep hg hW h00)
  obtain ⟨cq, hcq⟩ : ∃ q, okW x = q := ⟨_, rfl⟩
  rw [hcq] at C1 C3 ⊢
  obtain ⟨zI, hzI⟩ : ∃ z, Idv.zero = z := ⟨_, rfl⟩
  have ZZ : Hid (∀ w : World, (zeroValue 26).run Tryz.prog w = .ok (.agg zI.cells.toArray) w) := Lib.hid (by rw [← hzI]; exact zero_id)
  have BI : Hid (Tryz.prog.built 26 [] = some zI.cells.toArray) := Lib.hid (by rw [← hzI]; exact built_idz)
  obtain ⟨xi, hxi⟩ : ∃ i, idW x = i := ⟨_, rfl⟩
  rw [hxi] at C3 ⊢
  rw [hzI]
  obtain ⟨wB, hwB⟩ : ∃ wB, w1.alloc (.cells zI.cells.toArray 26) = wB := ⟨_, rfl⟩
  have YB : Hid (Lies wB w1.heap.size 32 zI.cells) := Lib.hid (by
    rw [← hwB]
    have := Lies.new w1 zI.cells 26
    rwa [id_sz] at this)
  have B1 : Hid (Below w1.heap.size w1 wB) := Lib.hid (by rw [← hwB]; exact (Below.refl _ _).alloc (Nat.le_refl _) _)
  have HWB := Lib.hid hwB
  have BB : Hid (Below w.heap.size w wB) := Lib.hid (HB.out.bl.trans (B1.out.mono HB.out.bl.size))
  have RG : Hid (∀ W, Below w1.heap.size w1 W → W.rangeAt w.heap.size 0 ox.cells) := Lib.hid fun W hW => HB.out.rg hW
  have HSZ : Hid (w1.heap.size = w.heap.size + 1) := Lib.hid HB.out.sz
  have HZB : Hid (wB.heap.size = w1.heap.size + 1) := Lib.hid (by rw [← hwB]; simp)
  clear h hb hcq hzI hxi hwB
  go_enter Tryz.func9, Tryz.ntmps9
  have hsz := HSZ.out
  go_upto_region 1 with (first
    | ((with_reducible refine alt 26 ?_ ?_ zI.cells ZZ.out ?_); rfl; rfl; rw [HB.out.al, HWB.out]; (try simp only [Act.put, List.setIfInBounds_toArray, List.set_cons_succ, List.set_cons_zero]))
    | fail)
  go_wp2_with (first
    | ((with_reducible refine ldo (.tmp 1) ?_ ?_ w.heap.size 0 ox ?_ (RG.out wB B1.out) ?_); rfl; (first | rfl | go_simp); (first | rfl | go_simp))
    | fail)
  refine (C1.out wB BB.out).mono ?_
  rintro e w2 ⟨rfl, hb⟩
  dsimp only
  have B2 : Hid (Below w1.heap.size w1 w2) := Lib.hid (B1.out.trans (hb.mono B1.out.size))
  have BB2 := Lib.hid (BB.out.trans (hb.mono BB.out.size))
  have Y2 : Hid (Lies w2 w1.heap.size 32 zI.cells) := Lib.hid (YB.out.below hb (by rw [HZB.out]; omega))
  clear hb
  cases cq
  · have T2 := Lib.hid Y2.out.th
    obtain ⟨w3, hw3⟩ : ∃ w3, w2.setCells w1.heap.size 0 zI.cells = w3 := ⟨_, rfl⟩
    have N3 : Hid (w3.rangeAt w1.heap.size 0 zI.cells) := Lib.hid (by rw [← hw3]; exact (Y2.out.set_ (id_sz _)).rg)
    have B3 : Hid (Below w.heap.size w w3) := Lib.hid (by rw [← hw3]; exact below_setCells BB2.out (by omega) _ _)
    have HW3 := Lib.hid hw3
    clear hw3
    simp only [Bool.false_eq_true, if_false]
    go_wp2_with (first
      | ((with_reducible refine bdt 26 [] ?_ ?_ zI.cells.toArray ?_ ?_); rfl; rfl; exact BI.out)
      | ((with_reducible refine sti (.tmp 2) (.tmp 9) ?_ ?_ w1.heap.size 0 zI ?_ ?_ T2.out ?_); rfl; rfl; (first | rfl | go_simp); rfl; rw [HW3.out])
      | fail)
    refine bodyPost_ret (res_idi rfl _ _ w1.heap.size 0 zI _ (by first | rfl | simp [hsz]) rfl N3.out) rfl ⟨rfl, B3.out⟩
  · simp only [if_true]
    go_wp2_with (first
      | ((with_reducible refine ldo (.tmp 1) ?_ ?_ w.heap.size 0 ox ?_ (RG.out w2 B2.out) ?_); rfl; (first | rfl | go_simp); (first | rfl | go_simp))
      | fail)
    refine (C3.out w2 BB2.out (by first | rfl | trivial)).mono ?_
    rintro e w4 ⟨rfl, hb⟩
    dsimp only
    have BB4 := Lib.hid (BB2.out.trans (hb.mono BB2.out.size))
    have Y4 : Hid (Lies w4 w1.heap.size 32 zI.cells) := Lib.hid (Y2.out.below hb (by have := B2.out.size; have := Y2.out.lt; omega))
    clear hb
    have T4 := Lib.hid Y4.out.th
    obtain ⟨w5, hw5⟩ : ∃ w5, w4.setCells w1.heap.size 0 xi.cells = w5 := ⟨_, rfl⟩
    have N5 : Hid (w5.rangeAt w1.heap.size 0 xi.cells) := Lib.hid (by rw [← hw5]; exact (Y4.out.set_ (id_sz _)).rg)
    have B5 : Hid (Below w.heap.size w w5) := Lib.hid (by rw [← hw5]; exact below_setCells BB4.out (by omega) _ _)
    have HW5 := Lib.hid hw5
    clear hw5
    go_wp2_with (first
      | ((with_reducible refine fld (.tmp 12) ?_ ?_ xi ox ?_ ?_); rfl; rfl; rfl)
      | ((with_reducible refine sti (.tmp 2) (.tmp 13) ?_ ?_ w1.heap.size 0 xi ?_ ?_ T4.out ?_); rfl; rfl; (first | rfl | go_simp); rfl; rw [HW5.out])
      | fail)
    refine bodyPost_ret (res_idi rfl _ _ w1.heap.size 0 xi _ (by first | rfl | simp [hsz]) rfl N5.out) rfl ⟨rfl, B5.out⟩
end Go.Proofs.YtnkhoghdfncgpaaGreatDoor
