/-
  OBJECTS: loads and stores; Same.
  OBJECTS IN MEMORY: laws on loads, stores, builds.
-/
import Derived.Test.YtcofkhmgmemkmaaGreatDoorK14
import Derived.Laws.Tables
namespace Go.Proofs.YtcofkhmgmemkmaaGreatDoor
set_option linter.unusedVariables false
set_option linter.unusedSimpArgs false
open Go.RowKit Go.WideShapes Go.ChangeShapes Go.Deep
attribute [local irreducible] wpQuiet

theorem wpList_want {P : Program} {w : World} {ops : Array Oper} {rest : List Oper} {o : Oper} {a : Act} {Q : Exit → Act → World → Prop} (hw : Region.wanted o (yielded ops a.tmps) = true) (h : o.wp P a w (wpList P ops Q rest) Q) : wpList P ops Q (o :: rest) a w := by
  unfold wpList
  rw [if_pos hw]
  exact .inl h
section
variable {ops : Array Oper} {rest : List Oper} {op : Oper} {a : Act} {w : World} {Q : Exit → Act → World → Prop}
theorem ldi (x : Operand) (ho : op.op = .load 27 x) (hw : Region.wanted op (yielded ops a.tmps) = true) (b o : Nat) (i : Idv) (hx : a.eval x = .pointer (some ⟨b, o, none⟩)) (hc : w.rangeAt b o i.cells)
    (h : wpList Tryz.prog ops Q rest (a.put op.dst (idV i)) w) : wpList Tryz.prog ops Q (op :: rest) a w :=
  wpList_want hw (wp_load_mid _ x ho b o hx i.cells _ hc Tryz.underlying27 rfl (by rw [id_sz]; exact size_idv) h)
theorem ldo (x : Operand) (ho : op.op = .load 34 x) (hw : Region.wanted op (yielded ops a.tmps) = true) (b o : Nat) (i : Of) (hx : a.eval x = .pointer (some ⟨b, o, none⟩)) (hc : w.rangeAt b o i.cells)
    (h : wpList Tryz.prog ops Q rest (a.put op.dst (ofV i)) w) : wpList Tryz.prog ops Q (op :: rest) a w :=
  wpList_want hw (wp_load_mid _ x ho b o hx i.cells _ hc Tryz.underlying34 rfl (by rw [of_sz]; exact size_of) h)
theorem ldl (x : Operand) (ho : op.op = .load 68 x) (hw : Region.wanted op (yielded ops a.tmps) = true) (b o : Nat) (i : Lf) (hx : a.eval x = .pointer (some ⟨b, o, none⟩)) (hc : w.rangeAt b o i.cells)
    (h : wpList Tryz.prog ops Q rest (a.put op.dst (.agg i.cells.toArray)) w) : wpList Tryz.prog ops Q (op :: rest) a w :=
  wpList_want hw (wp_load_mid _ x ho b o hx i.cells _ hc Tryz.underlying68 rfl (by rw [lf_sz]; exact size_lf) h)
end
theorem obj_lies {w : World} {b : Nat} {x : Ov} {AL AP AE : Option Addr} {nL cL nP cP nE cE : Nat} (h : Lies w b 73 (x.at_ ⟨AL, nL, cL⟩ ⟨AP, nP, cP⟩ ⟨AE, nE, cE⟩).cells) :
    w.cell? ⟨b, 0, none⟩ = some (.int .i64 x.kind) ∧ w.cell? ⟨b, 1, none⟩ = some (.string x.text) ∧ w.cell? ⟨b, 2, none⟩ = some (.slice AL nL cL) ∧ w.cell? ⟨b, 3, none⟩ = some (.int .i64 x.style) ∧
    w.rangeAt b 4 x.tree.cells ∧ w.rangeAt b 36 x.base.cells ∧ w.cell? ⟨b, 68, none⟩ = some (.slice AP nP cP) ∧ w.cell? ⟨b, 69, none⟩ = some (.slice AE nE cE) ∧
    w.cell? ⟨b, 70, none⟩ = some (.int .u32 (x.num : Int)) ∧ w.cell? ⟨b, 71, none⟩ = some (.int .u32 (x.auth : Int)) ∧ w.cell? ⟨b, 72, none⟩ = some (.string x.note) := of_lies h
/-- Whether two objects are the same, field by field. -/
noncomputable def sameO (x y : Ov) : Bool := x.kind == y.kind && x.text.toList == y.text.toList && sameLs x.lv y.lv && x.style == y.style && x.tree.b == y.tree.b && x.base.b == y.base.b && sameI x.ps y.ps && sameE x.es y.es && x.num == y.num && x.auth == y.auth && x.note.toList == y.note.toList
/-- The same, by how its parts are. -/
theorem sameO_eq {x y : Ov} {q0 q1 q2 q3 q4 q5 q6 q7 q8 q9 q10 : Bool} (h0 : (x.kind == y.kind) = q0) (h1 : (x.text.toList == y.text.toList) = q1) (h2 : sameLs x.lv y.lv = q2) (h3 : (x.style == y.style) = q3) (h4 : (x.tree.b == y.tree.b) = q4) (h5 : (x.base.b == y.base.b) = q5)
    (h6 : sameI x.ps y.ps = q6) (h7 : sameE x.es y.es = q7) (h8 : ((x.num : Int) == (y.num : Int)) = q8) (h9 : ((x.auth : Int) == (y.auth : Int)) = q9) (h10 : (x.note.toList == y.note.toList) = q10) : sameO x y = (q0 && q1 && q2 && q3 && q4 && q5 && q6 && q7 && q8 && q9 && q10) := by
  have e8 : (x.num == y.num) = q8 := by rw [← h8, Bool.eq_iff_iff, beq_iff_eq, beq_iff_eq]; omega
  have e9 : (x.auth == y.auth) = q9 := by rw [← h9, Bool.eq_iff_iff, beq_iff_eq, beq_iff_eq]; omega
  unfold sameO
  rw [h0, h1, h2, h3, h4, h5, h6, h7, e8, e9, h10]
set_option maxRecDepth 100000 in
set_option maxHeartbeats 4000000 in
theorem Same_any {w : World} {x y : Ov} {L P E L' P' E' : Sl} (h : Obj3 w w.heap.size x L P E) (h' : Obj3 w w.heap.size y L' P' E') (hL : L.n ≤ 1000000) (hP : P.n ≤ 1000000) (hE : E.n ≤ 1000000) :
    Calls Tryz.prog 52 #[ofV (x.at_ L P E), ofV (y.at_ L' P' E')] w fun e w' => e = .returned (.bool (sameO x y)) ∧ Below w.heap.size w w' := by
  obtain ⟨w2, hw2⟩ : ∃ w2, (w.alloc (.cells (x.at_ L P E).cells.toArray 34)).alloc (.cells (y.at_ L' P' E').cells.toArray 34) = w2 := ⟨_, rfl⟩
  have B2 : Hid (Below w.heap.size w w2) := Lib.hid (by rw [← hw2]; exact ((Below.refl _ _).alloc (Nat.le_refl _) _).alloc (by simp) _)
  have S2 : w2.heap.size = w.heap.size + 2 := by rw [← hw2]; simp
  have X0 : Hid (Lies w2 w.heap.size 73 (x.at_ L P E).cells) := Lib.hid (by
    rw [← hw2]
    have := (Lies.new w (x.at_ L P E).cells 34).alloc (.cells (y.at_ L' P' E').cells.toArray 34)
    rwa [of_sz] at this)
  have X1 : Hid (Lies w2 (w.heap.size + 1) 73 (y.at_ L' P' E').cells) := Lib.hid (by
    rw [← hw2]
    have := Lies.new (w.alloc (.cells (x.at_ L P E).cells.toArray 34)) (y.at_ L' P' E').cells 34
    rwa [World.size_alloc, of_sz] at this)
  obtain ⟨AL, nL, cL⟩ := L
  obtain ⟨AP, nP, cP⟩ := P
  obtain ⟨AE, nE, cE⟩ := E
  obtain ⟨AL', nL', cL'⟩ := L'
  obtain ⟨AP', nP', cP'⟩ := P'
  obtain ⟨AE', nE', cE'⟩ := E'
  have HW := Lib.hid hw2
  obtain ⟨q0, h0⟩ : ∃ q, (x.kind == y.kind) = q := ⟨_, rfl⟩
  obtain ⟨q1, h1⟩ : ∃ q, (x.text.toList == y.text.toList) = q := ⟨_, rfl⟩
  obtain ⟨q2, h2⟩ : ∃ q, sameLs x.lv y.lv = q := ⟨_, rfl⟩
  obtain ⟨q3, h3⟩ : ∃ q, (x.style == y.style) = q := ⟨_, rfl⟩
  obtain ⟨q4, h4⟩ : ∃ q, (x.tree.b == y.tree.b) = q := ⟨_, rfl⟩
  obtain ⟨q5, h5⟩ : ∃ q, (x.base.b == y.base.b) = q := ⟨_, rfl⟩
  obtain ⟨q6, h6⟩ : ∃ q, sameI x.ps y.ps = q := ⟨_, rfl⟩
  obtain ⟨q7, h7⟩ : ∃ q, sameE x.es y.es = q := ⟨_, rfl⟩
  obtain ⟨q8, h8⟩ : ∃ q, ((x.num : Int) == (y.num : Int)) = q := ⟨_, rfl⟩
  obtain ⟨q9, h9⟩ : ∃ q, ((x.auth : Int) == (y.auth : Int)) = q := ⟨_, rfl⟩
  obtain ⟨q10, h10⟩ : ∃ q, (x.note.toList == y.note.toList) = q := ⟨_, rfl⟩
  have C2 : Hid (∀ w3, Below w2.heap.size w2 w3 → Calls Tryz.prog 71 #[.slice AL nL cL, .slice AL' nL' cL'] w3 fun e w' => e = .returned (.bool q2) ∧ Below w3.heap.size w3 w') := Lib.hid fun w3 hb => by
    have b3 : Below w.heap.size w w3 := B2.out.trans (hb.mono B2.out.size)
    rw [← h2]
    exact equalL_any ((h.l.below b3).more b3.size) ((h'.l.below b3).more b3.size) hL
  have C6 : Hid (∀ w3, Below w2.heap.size w2 w3 → Calls Tryz.prog 72 #[.slice AP nP cP, .slice AP' nP' cP'] w3 fun e w' => e = .returned (.bool q6) ∧ Below w3.heap.size w3 w') := Lib.hid fun w3 hb => by
    have b3 : Below w.heap.size w w3 := B2.out.trans (hb.mono B2.out.size)
    rw [← h6]
    exact equalI_any ((h.p.below b3).more b3.size) ((h'.p.below b3).more b3.size) hP
  have C7 : Hid (∀ w3, Below w2.heap.size w2 w3 → Calls Tryz.prog 73 #[.agg #[.slice AE nE cE], .agg #[.slice AE' nE' cE']] w3 fun e w' => e = .returned (.bool q7) ∧ Below w3.heap.size w3 w') := Lib.hid fun w3 hb => by
    have b3 : Below w.heap.size w w3 := B2.out.trans (hb.mono B2.out.size)
    rw [← h7]
    exact sameE_any ((h.e.below b3).more b3.size) ((h'.e.below b3).more b3.size) hE
  have HF := Lib.hid (sameO_eq h0 h1 h2 h3 h4 h5 h6 h7 h8 h9 h10)
  have E4 : Hid (∀ w, (binOp .eql 27 (idV x.tree) (idV y.tree)).run Tryz.prog w = .ok (.bool q4) w) := Lib.hid (by rw [← h4]; exact eql_id x.tree y.tree)
  have E5 : Hid (∀ w, (binOp .eql 27 (idV x.base) (idV y.base)).run Tryz.prog w = .ok (.bool q5) w) := Lib.hid (by rw [← h5]; exact eql_id x.base y.base)
  have Z2 := Lib.hid S2
  clear hw2 h h' h2 h6 h7 h4 h5 S2
  obtain ⟨sq, hsq⟩ : ∃ q, sameO x y = q := ⟨_, rfl⟩
  rw [hsq] at HF ⊢
  clear hsq
  go_enter Tryz.func52, Tryz.ntmps52
  go_upto_region 1 with fail
  rw [HW.out]
  simp only [List.append]
  clear HW
  obtain ⟨a0, a1, a2, a3, R4, R5, a6, a7, a8, a9, a10⟩ := obj_lies X0.out
  obtain ⟨b0, b1, b2, b3, T4, T5, b6, b7, b8, b9, b10⟩ := obj_lies X1.out
  replace R4 := Lib.hid R4
  replace R5 := Lib.hid R5
  replace T4 := Lib.hid T4
  replace T5 := Lib.hid T5
  have GE : Hid (Below w.heap.size w w2) := B2
  cases q0
  · go_wp2_with fail
    go_ret
    exact ⟨by rw [HF.out]; rfl, GE.out⟩
  cases q1
  · go_wp2_with fail
    go_ret
    exact ⟨by rw [HF.out]; rfl, GE.out⟩
  go_wp2_with fail
  refine (C2.out w2 (Below.refl _ _)).mono ?_
  rintro e w3 ⟨rfl, hb⟩
  dsimp only
  clear a0 a1 a2 a3 R4 R5 a6 a7 a8 a9 a10 b0 b1 b2 b3 T4 T5 b6 b7 b8 b9 b10
  have Yw3 : Hid (Below w2.heap.size w2 w3) := Lib.hid (hb)
  clear GE
  have GE : Hid (Below w.heap.size w w3) := Lib.hid (B2.out.trans (Yw3.out.mono B2.out.size))
  clear hb
  obtain ⟨a0, a1, a2, a3, R4, R5, a6, a7, a8, a9, a10⟩ := obj_lies (X0.out.below Yw3.out (by rw [Z2.out]; omega))
  obtain ⟨b0, b1, b2, b3, T4, T5, b6, b7, b8, b9, b10⟩ := obj_lies (X1.out.below Yw3.out (by rw [Z2.out]; omega))
  replace R4 := Lib.hid R4
  replace R5 := Lib.hid R5
  replace T4 := Lib.hid T4
  replace T5 := Lib.hid T5
  cases q2
  · go_wp2_with fail
    go_ret
    exact ⟨by rw [HF.out]; rfl, GE.out⟩
  cases q3
  · go_wp2_with fail
    go_ret
    exact ⟨by rw [HF.out]; rfl, GE.out⟩
  have e4 := E4.out
  have e5 := E5.out
  cases q4
  · go_wp2_with (first | ((with_reducible refine ldi (.tmp 32) ?_ ?_ w.heap.size 4 x.tree ?_ R4.out ?_); (rfl); (first | rfl | go_simp); (first | rfl | go_simp)) | ((with_reducible refine ldi (.tmp 34) ?_ ?_ (w.heap.size + 1) 4 y.tree ?_ T4.out ?_); (rfl); (first | rfl | go_simp); (first | rfl | go_simp)) | ((with_reducible refine ldi (.tmp 39) ?_ ?_ w.heap.size 36 x.base ?_ R5.out ?_); (rfl); (first | rfl | go_simp); (first | rfl | go_simp)) | ((with_reducible refine ldi (.tmp 41) ?_ ?_ (w.heap.size + 1) 36 y.base ?_ T5.out ?_); (rfl); (first | rfl | go_simp); (first | rfl | go_simp)) | fail)
    go_ret
    exact ⟨by rw [HF.out]; rfl, GE.out⟩
  cases q5
  · go_wp2_with (first | ((with_reducible refine ldi (.tmp 32) ?_ ?_ w.heap.size 4 x.tree ?_ R4.out ?_); (rfl); (first | rfl | go_simp); (first | rfl | go_simp)) | ((with_reducible refine ldi (.tmp 34) ?_ ?_ (w.heap.size + 1) 4 y.tree ?_ T4.out ?_); (rfl); (first | rfl | go_simp); (first | rfl | go_simp)) | ((with_reducible refine ldi (.tmp 39) ?_ ?_ w.heap.size 36 x.base ?_ R5.out ?_); (rfl); (first | rfl | go_simp); (first | rfl | go_simp)) | ((with_reducible refine ldi (.tmp 41) ?_ ?_ (w.heap.size + 1) 36 y.base ?_ T5.out ?_); (rfl); (first | rfl | go_simp); (first | rfl | go_simp)) | fail)
    go_ret
    exact ⟨by rw [HF.out]; rfl, GE.out⟩
  go_wp2_with (first | ((with_reducible refine ldi (.tmp 32) ?_ ?_ w.heap.size 4 x.tree ?_ R4.out ?_); (rfl); (first | rfl | go_simp); (first | rfl | go_simp)) | ((with_reducible refine ldi (.tmp 34) ?_ ?_ (w.heap.size + 1) 4 y.tree ?_ T4.out ?_); (rfl); (first | rfl | go_simp); (first | rfl | go_simp)) | ((with_reducible refine ldi (.tmp 39) ?_ ?_ w.heap.size 36 x.base ?_ R5.out ?_); (rfl); (first | rfl | go_simp); (first | rfl | go_simp)) | ((with_reducible refine ldi (.tmp 41) ?_ ?_ (w.heap.size + 1) 36 y.base ?_ T5.out ?_); (rfl); (first | rfl | go_simp); (first | rfl | go_simp)) | fail)
  refine (C6.out w3 Yw3.out).mono ?_
  rintro e w4 ⟨rfl, hb⟩
  dsimp only
  clear a0 a1 a2 a3 R4 R5 a6 a7 a8 a9 a10 b0 b1 b2 b3 T4 T5 b6 b7 b8 b9 b10
  have Yw4 : Hid (Below w2.heap.size w2 w4) := Lib.hid (Yw3.out.trans (hb.mono Yw3.out.size))
  clear GE
  have GE : Hid (Below w.heap.size w w4) := Lib.hid (B2.out.trans (Yw4.out.mono B2.out.size))
  clear hb
  obtain ⟨a0, a1, a2, a3, R4, R5, a6, a7, a8, a9, a10⟩ := obj_lies (X0.out.below Yw4.out (by rw [Z2.out]; omega))
  obtain ⟨b0, b1, b2, b3, T4, T5, b6, b7, b8, b9, b10⟩ := obj_lies (X1.out.below Yw4.out (by rw [Z2.out]; omega))
  replace R4 := Lib.hid R4
  replace R5 := Lib.hid R5
  replace T4 := Lib.hid T4
  replace T5 := Lib.hid T5
  clear e4 e5
  cases q6
  · go_wp2_with fail
    go_ret
    exact ⟨by rw [HF.out]; rfl, GE.out⟩
  go_wp2_with fail
  refine (C7.out w4 Yw4.out).mono ?_
  rintro e w5 ⟨rfl, hb⟩
  dsimp only
  clear a0 a1 a2 a3 R4 R5 a6 a7 a8 a9 a10 b0 b1 b2 b3 T4 T5 b6 b7 b8 b9 b10
  have Yw5 : Hid (Below w2.heap.size w2 w5) := Lib.hid (Yw4.out.trans (hb.mono Yw4.out.size))
  clear GE
  have GE : Hid (Below w.heap.size w w5) := Lib.hid (B2.out.trans (Yw5.out.mono B2.out.size))
  clear hb
  obtain ⟨a0, a1, a2, a3, R4, R5, a6, a7, a8, a9, a10⟩ := obj_lies (X0.out.below Yw5.out (by rw [Z2.out]; omega))
  obtain ⟨b0, b1, b2, b3, T4, T5, b6, b7, b8, b9, b10⟩ := obj_lies (X1.out.below Yw5.out (by rw [Z2.out]; omega))
  replace R4 := Lib.hid R4
  replace R5 := Lib.hid R5
  replace T4 := Lib.hid T4
  replace T5 := Lib.hid T5
  cases q7
  · go_wp2_with fail
    go_ret
    exact ⟨by rw [HF.out]; rfl, GE.out⟩
  cases q8
  · go_wp2_with fail
    go_ret
    exact ⟨by rw [HF.out]; rfl, GE.out⟩
  cases q9
  · go_wp2_with fail
    go_ret
    exact ⟨by rw [HF.out]; rfl, GE.out⟩
  cases q10
  · go_wp2_with fail
    go_ret
    exact ⟨by rw [HF.out]; rfl, GE.out⟩
  go_wp2_with fail
  go_ret
  exact ⟨by rw [HF.out]; rfl, GE.out⟩
end Go.Proofs.YtcofkhmgmemkmaaGreatDoor
namespace Go.Proofs.YtcofkhmgmemkmaaGreatDoor
set_option linter.unusedVariables false
set_option linter.unusedSimpArgs false
open Go.RowKit Go.WideShapes Go.ChangeShapes Go.Deep

theorem size_setCells (w : World) (b o : Nat) (vs : List Value) : (w.setCells b o vs).heap.size = w.heap.size := (setCells_os b vs o w).2.2.2.1
section
variable {W W' : World} {b k : Nat} {l : List Value}
theorem Lies.other (h : Lies W b k l) {b' : Nat} (hn : b ≠ b') (o : Nat) (vs : List Value) : Lies (W.setCells b' o vs) b k l :=
  ⟨rangeAt_keep h.rg ((setCells_os b' vs o W).2.2.2.2 b hn), World.there_setCells h.th _ _ _, by rw [(setCells_os b' vs o W).2.2.2.1]; exact h.lt, h.len⟩
theorem Lies.set_ (h : Lies W b k l) {l' : List Value} (hl : l'.length = k) : Lies (W.setCells b 0 l') b k l' :=
  ⟨World.rangeAt_setCells_same _ _ _ _ (by rw [hl]; exact h.th), World.there_setCells h.th _ _ _, by rw [(setCells_os b l' 0 W).2.2.2.1]; exact h.lt, hl⟩
theorem Lies.mv {S : Nat → Prop} (h : Lies W b k l) (hm : Mv S W W') (hn : ¬ S b) : Lies W' b k l :=
  ⟨rangeAt_keep h.rg (hm.block b h.lt hn), there_keep h.th (hm.block b h.lt hn), Nat.lt_of_lt_of_le h.lt hm.size, h.len⟩
theorem Lies.far (h : Lies W b k l) {p : Addr} (hn : b ≠ p.block) (u : Value) : Lies (W.setCell p u) b k l :=
  h.kp (Below.heap_setCell W p u b hn) (by simp [World.setCell])
theorem Lies.set1 (h : Lies W b k l) (j : Nat) (u : Value) : Lies (W.setCell ⟨b, j, none⟩ u) b k (l.set j u) := by
  refine ⟨fun i v hv => ?_, fun i hi => ?_, by simpa [World.setCell] using h.lt, by rw [List.length_set]; exact h.len⟩
  · have hi : i < l.length := by have := (List.getElem?_eq_some_iff.1 hv).1; simpa using this
    by_cases hij : j = i
    · subst hij
      rw [List.getElem?_set_self hi] at hv
      injection hv with hv
      subst hv
      have hs := (h.th j (by rw [← h.len]; exact hi)).1
      rw [Nat.zero_add] at hs ⊢
      exact World.cell?_setCell_same' W _ _ hs
    · rw [List.getElem?_set_ne hij] at hv
      have := h.rg i v hv
      rw [Nat.zero_add] at this ⊢
      rw [World.cell?_setCell_other (a := ⟨b, j, none⟩) (b := ⟨b, i, none⟩) W u (fun e => hij (by simp at e))]
      exact this
  · exact (World.there_setCells h.th b j [u] : (W.setCells b j [u]).there b 0 k) i hi
end
theorem bvs_all {l : List UInt8} : (S3.bvs l).toArray.all (·.oneCell') = true := all_oneCell_toArray (S3.bvs_one l)
theorem id_one (i : Idv) : i.cells.toArray.all (·.oneCell') = true := bvs_all
theorem lf_one (l : Lf) : l.cells.toArray.all (·.oneCell') = true := all_oneCell_toArray (fun v hv => by
  rcases List.mem_cons.1 hv with rfl | h
  · rfl
  · exact S3.bvs_one _ v h)
theorem of_one {x : Of} (h : x.lv.oneCell' = true) (h' : x.pv.oneCell' = true) (h'' : x.ev.oneCell' = true) : x.cells.toArray.all (·.oneCell') = true := all_oneCell_toArray (fun v hv => by
  unfold Of.cells at hv
  simp only [List.mem_append, List.mem_cons, List.not_mem_nil, or_false] at hv
  rcases hv with (rfl | rfl | rfl | rfl) | hv | hv | rfl | rfl | rfl | rfl | rfl <;> first | rfl | assumption | exact S3.bvs_one _ v hv)
section
variable {ops : Array Oper} {rest : List Oper} {op : Oper} {a : Act} {w : World} {Q : Exit → Act → World → Prop}
theorem sti (x y : Operand) (ho : op.op = .store 27 x y) (hw : Region.wanted op (yielded ops a.tmps) = true) (b o : Nat) (i : Idv) (hx : a.eval x = .pointer (some ⟨b, o, none⟩)) (hy : a.eval y = idV i) (ht : w.there b o 32)
    (h : wpList Tryz.prog ops Q rest (a.put op.dst undef) (w.setCells b o i.cells)) : wpList Tryz.prog ops Q (op :: rest) a w :=
  wpList_want hw (wp_store_mid _ x y ho b o i.cells.toArray hx hy (by simpa [id_sz] using ht) (by simpa [id_sz] using size_idv) (id_one i) h)
theorem stl (x y : Operand) (ho : op.op = .store 68 x y) (hw : Region.wanted op (yielded ops a.tmps) = true) (b o : Nat) (i : Lf) (hx : a.eval x = .pointer (some ⟨b, o, none⟩)) (hy : a.eval y = .agg i.cells.toArray) (ht : w.there b o 33)
    (h : wpList Tryz.prog ops Q rest (a.put op.dst undef) (w.setCells b o i.cells)) : wpList Tryz.prog ops Q (op :: rest) a w :=
  wpList_want hw (wp_store_mid _ x y ho b o i.cells.toArray hx hy (by simpa [lf_sz] using ht) (by simpa [lf_sz] using size_lf) (lf_one i) h)
theorem sto (x y : Operand) (ho : op.op = .store 34 x y) (hw : Region.wanted op (yielded ops a.tmps) = true) (b o : Nat) (i : Of) (hx : a.eval x = .pointer (some ⟨b, o, none⟩)) (hy : a.eval y = ofV i) (ht : w.there b o 73) (h1 : i.lv.oneCell' = true) (h2 : i.pv.oneCell' = true) (h3 : i.ev.oneCell' = true)
    (h : wpList Tryz.prog ops Q rest (a.put op.dst undef) (w.setCells b o i.cells)) : wpList Tryz.prog ops Q (op :: rest) a w :=
  wpList_want hw (wp_store_mid _ x y ho b o i.cells.toArray hx hy (by simpa [of_sz] using ht) (by simpa [of_sz] using size_of) (of_one h1 h2 h3) h)
/-- A struct that is built. -/
theorem bdt (t : TypeId) (ps : List (Nat × Operand)) (ho : op.op = .build t ps.toArray) (hw : Region.wanted op (yielded ops a.tmps) = true) (zs : Array Value) (hb : Tryz.prog.built t (ps.map fun ix => (ix.1, a.eval ix.2)) = some zs)
    (h : wpList Tryz.prog ops Q rest (a.put op.dst (.agg zs)) w) : wpList Tryz.prog ops Q (op :: rest) a w := by
  have e : (ps.toArray.map fun (i, x) => (i, a.eval x)).toList = ps.map fun ix => (ix.1, a.eval ix.2) := by simp
  refine wpList_want hw ?_
  refine wp_build t ps.toArray ho (by rw [e, hb]; rfl) ?_
  rw [e, hb]
  exact h
/-- A variable that is made. -/
theorem alt (e : TypeId) (ho : op.op = .alloc e) (hw : Region.wanted op (yielded ops a.tmps) = true) (zs : List Value) (hz : ∀ w : World, (zeroValue e).run Tryz.prog w = .ok (.agg zs.toArray) w)
    (h : wpList Tryz.prog ops Q rest (a.put op.dst (.pointer (some ⟨w.heap.size, 0, none⟩))) (w.alloc (.cells zs.toArray e))) : wpList Tryz.prog ops Q (op :: rest) a w := by
  refine wpList_want hw ?_
  unfold Oper.wp execOp
  simp only [ho, Instr.alloc, Sem.run_bind, hz, Result.andThen_ok, newVar, newRow, newObj, Sem.run_pure, Value.cells]
  exact h
end
/-- Nothing. -/
def zOf : Of := ⟨0, ⟨#[]⟩, .slice none 0 0, 0, Idv.zero, Idv.zero, .slice none 0 0, .slice none 0 0, 0, 0, ⟨#[]⟩⟩
def zLf : Lf := ⟨⟨#[]⟩, Idv.zero⟩
def zOv : Ov := ⟨0, ⟨#[]⟩, [], 0, Idv.zero, Idv.zero, [], [], 0, 0, ⟨#[]⟩⟩
theorem zero_of (w : World) : (zeroValue 34).run Tryz.prog w = .ok (.agg zOf.cells.toArray) w := by kernel_rfl
theorem zero_lf (w : World) : (zeroValue 68).run Tryz.prog w = .ok (.agg zLf.cells.toArray) w := by kernel_rfl
theorem zero_id (w : World) : (zeroValue 27).run Tryz.prog w = .ok (.agg Idv.zero.cells.toArray) w := by kernel_rfl
end Go.Proofs.YtcofkhmgmemkmaaGreatDoor
