/-
  OBJECTS: Parts, Id.
-/
import Derived.Test.YtcofkhmgmemkmaaGreatDoorK27
namespace Go.Proofs.YtcofkhmgmemkmaaGreatDoor
set_option linter.unusedVariables false
set_option linter.unusedSimpArgs false
open Go.RowKit Go.WideShapes Go.ChangeShapes Go.Deep Go.Shelf
attribute [local irreducible] wpQuiet

noncomputable def partsE (rs : List Rw) : Int := if rightR rs then gErr rs else 150
noncomputable def partsW (rs : List Rw) : List Ov := if rightR rs then gL rs else []
theorem Parts_any {w : World} {A : Option Addr} {n c : Nat} {rs : List Rw} (h : SqR w w.heap.size A n c rs) (hn : n ≤ 1000000) (hg : S3.GK w) :
    Calls Tryz.prog 11 #[.agg #[.slice A n c]] w fun e w' => (∃ A9 n9 c9, e = .returned (.tuple #[.slice A9 n9 c9, .int .i64 (partsE rs)]) ∧ GOut w' A9 n9 c9 (partsW rs)) ∧ Below w.heap.size w w' := by
  obtain ⟨w1, hw1⟩ : ∃ w1, w.alloc (.cells #[.slice A n c] 51) = w1 := ⟨_, rfl⟩
  have B1 : Hid (Below w.heap.size w w1) := Lib.hid (by rw [← hw1]; exact (Below.refl _ _).alloc (Nat.le_refl _) _)
  have X1 : Hid (Boxed w1 w.heap.size 51 (.slice A n c)) := Lib.hid (by rw [← hw1]; exact Boxed.new w _ _)
  have HW1 := Lib.hid hw1
  have HS := Lib.hid h
  have HG := Lib.hid hg
  have h00 := hg.lt
  clear hw1 h hg
  obtain ⟨q, hq⟩ : ∃ q, rightR rs = q := ⟨_, rfl⟩
  have HQ := Lib.hid hq
  have C1 : Hid (∀ W, Below w.heap.size w W → Calls Tryz.prog 24 #[.agg #[.slice A n c]] W fun e w' => e = .returned (.int .i64 (if q then 0 else 150)) ∧ Below W.heap.size W w') := Lib.hid fun W hW => by
    have := Check_any ((HS.out.below hW).more hW.size) hn
    rw [hq] at this
    exact this
  obtain ⟨er, her⟩ : ∃ er, partsE rs = er := ⟨_, rfl⟩
  obtain ⟨gl, hgl⟩ : ∃ l, partsW rs = l := ⟨_, rfl⟩
  have HER : Hid ((if q then gErr rs else 150) = er) := Lib.hid (by rw [← her, ← hq]; rfl)
  have HGL : Hid ((if q then gL rs else []) = gl) := Lib.hid (by rw [← hgl, ← hq]; rfl)
  rw [her, hgl]
  clear her hgl hq
  have C3 : Hid (∀ (W : World) (b : Nat), q = true → Below w.heap.size w W → Boxed W b 51 (.slice A n c) → Calls Tryz.prog 25 #[.func (.func 53) #[] #[.pointer (some ⟨b, 0, none⟩)]] W fun en w' => (∃ A9 n9 c9, en = .returned (.tuple #[.slice A9 n9 c9, .int .i64 er]) ∧ GOut w' A9 n9 c9 gl) ∧ Below W.heap.size W w') := Lib.hid fun W b hqt hW hb => by
    have := gathered_any hb ((HS.out.below hW).more hW.size) (gk_keep HG.out hW h00) (by rw [HQ.out, hqt])
    rw [← HER.out, ← HGL.out, hqt]
    exact this
  go_enter Tryz.func11, Tryz.ntmps11
  go_upto_region 1 with fail
  rw [HW1.out]
  have x1 := X1.out.cell
  go_wp2_with fail
  refine (C1.out w1 B1.out).mono ?_
  rintro e w2 ⟨rfl, hb⟩
  dsimp only
  have B2 := Lib.hid (B1.out.trans (hb.mono B1.out.size))
  have X2 : Hid (Boxed w2 w.heap.size 51 (.slice A n c)) := Lib.hid ((hb.block _ X1.out.lt).trans X1.out)
  clear hb x1
  have x2 := X2.out.cell
  cases q
  · go_wp2_with fail
    go_ret2
    have e1 : er = 150 := by rw [← HER.out]; rfl
    have e2 : gl = [] := by rw [← HGL.out]; rfl
    subst e1
    subst e2
    exact ⟨⟨none, 0, 0, rfl, GOut.nil _⟩, B2.out⟩
  · go_wp2_with fail
    refine (parts_any (w := w2) (A := A) (m := n) (c := c)).mono ?_
    rintro e w3 ⟨rfl, hbx, hb⟩
    dsimp only
    have B3 := Lib.hid (B2.out.trans (hb.mono B2.out.size))
    have HX := Lib.hid hbx
    clear hb hbx
    go_wp2_with fail
    refine (C3.out w3 w2.heap.size (by first | rfl | trivial) B3.out HX.out).mono ?_
    rintro e w4 ⟨⟨A9, n9, c9, rfl, hgo⟩, hb⟩
    dsimp only
    have B4 := Lib.hid (B3.out.trans (hb.mono B3.out.size))
    have HO := Lib.hid hgo
    clear hb hgo
    go_wp2_with fail
    go_ret2
    exact ⟨⟨A9, n9, c9, rfl, HO.out⟩, B4.out⟩
theorem hd_part0 (i : Idv) (j : Of) (w : World) : (part 27 (hdC i j).toArray 0).run Tryz.prog w = .ok (idV i) w := by
  have hu := Tryz.underlying27
  have hs : (sizeOf 27).run Tryz.prog w = .ok 32 w := by kernel_rfl
  simp only [part, isAgg, Sem.run_bind, run_underlying hu, Result.andThen_ok, Sem.run_pure, if_true, hs]
  have e : (hdC i j).toArray.extract 0 (0 + 32) = i.cells.toArray := by
    apply Array.ext'
    simp [hdC]
    rw [List.take_append_of_le_length (by rw [id_sz]; omega), List.take_of_length_le (by rw [id_sz]; omega)]
  rw [e]
  rfl
theorem run_fld (i : Idv) (j : Of) (w : World) : (Instr.field 54 (.agg (hdC i j).toArray) 0).run Tryz.prog w = .ok (idV i) w := by
  have hu := Tryz.underlying54
  have hp := hd_part0 i j w
  simp [Instr.field, Sem.run_bind, run_underlying hu, asAgg, hp]
theorem fld {ops : Array Oper} {rest : List Oper} {op : Oper} {a : Act} {w : World} {Q : Exit → Act → World → Prop} (x : Operand) (ho : op.op = .field 54 x 0) (hw : Region.wanted op (yielded ops a.tmps) = true) (i : Idv) (j : Of) (hx : a.eval x = .agg (hdC i j).toArray)
    (h : wpList Tryz.prog ops Q rest (a.put op.dst (idV i)) w) : wpList Tryz.prog ops Q (op :: rest) a w := by
  refine wpList_want hw ?_
  unfold Oper.wp execOp
  simp only [ho, hx, Sem.run_bind, run_fld, Result.andThen_ok, Sem.run_pure]
  exact h
end Go.Proofs.YtcofkhmgmemkmaaGreatDoor
