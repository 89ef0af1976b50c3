/-
  OBJECTS: isCommit.
-/
import Derived.Test.YtcofkhmgmemkmaaGreatDoorK17
namespace Go.Proofs.YtcofkhmgmemkmaaGreatDoor
set_option linter.unusedVariables false
set_option linter.unusedSimpArgs false
open Go.RowKit Go.WideShapes Go.ChangeShapes Go.Deep Go.Shelf
attribute [local irreducible] wpQuiet

def pneq : List Idv → Bool
  | [a, b] => !(a.b == b.b)
  | _ => false
/-- Whether a commit's style is right. -/
def styleW (x : Ov) : Bool := if x.style = 1 then (x.ps.length == 0) && (x.base.b == Idv.zero.b) && (x.es.length == 0) && (x.num == 0) else if x.style = 2 then (x.ps.length == 1) && (x.base.b == Idv.zero.b) && decide (0 < x.num) else if x.style = 3 then (x.ps.length == 2) && pneq x.ps && decide (0 < x.num) else false
theorem styleW_1 {x : Ov} (h : x.style = 1) : styleW x = ((x.ps.length == 0) && (x.base.b == Idv.zero.b) && (x.es.length == 0) && (x.num == 0)) := if_pos h
theorem styleW_2 {x : Ov} (h1 : ¬ x.style = 1) (h : x.style = 2) : styleW x = ((x.ps.length == 1) && (x.base.b == Idv.zero.b) && decide (0 < x.num)) := (if_neg h1).trans (if_pos h)
theorem styleW_3 {x : Ov} (h1 : ¬ x.style = 1) (h2 : ¬ x.style = 2) (h : x.style = 3) : styleW x = ((x.ps.length == 2) && pneq x.ps && decide (0 < x.num)) := (if_neg h1).trans ((if_neg h2).trans (if_pos h))
theorem styleW_3n {x : Ov} (h1 : ¬ x.style = 1) (h2 : ¬ x.style = 2) (h : x.style = 3) (hn : ¬ x.ps.length = 2) : styleW x = false := by
  rw [styleW_3 h1 h2 h, show (x.ps.length == 2) = false by simpa using hn]
  rfl
theorem styleW_0 {x : Ov} (h1 : ¬ x.style = 1) (h2 : ¬ x.style = 2) (h3 : ¬ x.style = 3) : styleW x = false := (if_neg h1).trans ((if_neg h2).trans (if_neg h3))
theorem beq0 {a b : Nat} (h : a = b) : ((b : Int) == 0) = (a == 0) := by
  subst h
  rw [Bool.eq_iff_iff, beq_iff_eq, beq_iff_eq]
  omega
theorem beq1 {a b : Nat} (h : a = b) : ((b : Int) == 1) = (a == 1) := by
  subst h
  rw [Bool.eq_iff_iff, beq_iff_eq, beq_iff_eq]
  omega
/-- Whether what a commit has is as its style asks. -/
def comW (x : Ov) : Bool := !(x.tree.b == Idv.zero.b) && !(hasI x.ps Idv.zero) && !(decide (200 < (x.note.size : Int))) && rightC x.es && styleW x
set_option maxRecDepth 100000 in
set_option maxHeartbeats 4000000 in
theorem isCommit_any {w : World} {x : Ov} {L P E : Sl} (h : Obj3 w w.heap.size x L P E) (hP : P.n ≤ 1000000) (hE : E.n ≤ 1000000) :
    Calls Tryz.prog 64 #[ofV (x.at_ L P E)] w fun e w' => e = .returned (.bool (comW x)) ∧ Below w.heap.size w w' := by
  obtain ⟨AL, nL, cL⟩ := L
  obtain ⟨AP, nP, cP⟩ := P
  obtain ⟨AE, nE, cE⟩ := E
  obtain ⟨ox, hox⟩ : ∃ o, x.at_ ⟨AL, nL, cL⟩ ⟨AP, nP, cP⟩ ⟨AE, nE, cE⟩ = o := ⟨_, rfl⟩
  have HOX := Lib.hid hox
  rw [hox]
  clear hox
  obtain ⟨zI, hzI⟩ : ∃ i, Idv.zero = i := ⟨_, rfl⟩
  have BZ : Hid (Tryz.prog.built 27 [] = some zI.cells.toArray) := Lib.hid (by rw [← hzI]; exact built_idz)
  have ZZ : Hid (∀ w : World, (zeroValue 27).run Tryz.prog w = .ok (.agg zI.cells.toArray) w) := Lib.hid (by rw [← hzI]; exact zero_id)
  have HZI := Lib.hid hzI.symm
  obtain ⟨w1, hw1⟩ : ∃ w1, w.alloc (.cells ox.cells.toArray 34) = w1 := ⟨_, rfl⟩
  have B1 : Below w.heap.size w w1 := by rw [← hw1]; exact (Below.refl _ _).alloc (Nat.le_refl _) _
  have Z1 : w1.heap.size = w.heap.size + 1 := by rw [← hw1]; simp
  have X1 : Lies w1 w.heap.size 73 ox.cells := by
    rw [← hw1]
    have := Lies.new w ox.cells 34
    rwa [of_sz] at this
  obtain ⟨wA, hwA⟩ : ∃ wA, w1.alloc (.cells zI.cells.toArray 27) = wA := ⟨_, rfl⟩
  have YA : Lies wA (w.heap.size + 1) 32 zI.cells := by
    rw [← hwA, ← Z1]
    have := Lies.new w1 zI.cells 27
    rwa [id_sz] at this
  obtain ⟨w2, hw2⟩ : ∃ w2, wA.setCells (w.heap.size + 1) 0 zI.cells = w2 := ⟨_, rfl⟩
  have X2 : Hid (Lies w2 w.heap.size 73 ox.cells) := Lib.hid (by rw [← hw2, ← hwA]; exact (X1.alloc _).other (by omega) _ _)
  have N2 : Hid (Lies w2 (w.heap.size + 1) 32 zI.cells) := Lib.hid (by rw [← hw2]; exact YA.set_ (id_sz _))
  have B2 : Hid (Below w.heap.size w w2) := Lib.hid (by rw [← hw2, ← hwA]; exact below_setCells (B1.alloc (by omega) _) (by omega) _ _)
  have Z2 : Hid (w2.heap.size = w.heap.size + 2) := Lib.hid (by rw [← hw2, size_setCells, ← hwA]; simp; omega)
  have TA := Lib.hid YA.th
  have HW1 := Lib.hid hw1
  have HWA := Lib.hid hwA
  have HW2 := Lib.hid hw2
  have HZ1 := Lib.hid Z1
  have HX : Hid (∀ W, Below w2.heap.size w2 W → W.cell? ⟨w.heap.size, 0, none⟩ = some (.int .i64 x.kind) ∧ W.cell? ⟨w.heap.size, 1, none⟩ = some (.string x.text) ∧ W.cell? ⟨w.heap.size, 2, none⟩ = some (.slice AL nL cL) ∧ W.cell? ⟨w.heap.size, 3, none⟩ = some (.int .i64 x.style) ∧
    W.rangeAt w.heap.size 4 x.tree.cells ∧ W.rangeAt w.heap.size 36 x.base.cells ∧ W.cell? ⟨w.heap.size, 68, none⟩ = some (.slice AP nP cP) ∧ W.cell? ⟨w.heap.size, 69, none⟩ = some (.slice AE nE cE) ∧
    W.cell? ⟨w.heap.size, 70, none⟩ = some (.int .u32 (x.num : Int)) ∧ W.cell? ⟨w.heap.size, 71, none⟩ = some (.int .u32 (x.auth : Int)) ∧ W.cell? ⟨w.heap.size, 72, none⟩ = some (.string x.note)) := Lib.hid fun W hW => obj_lies (by rw [HOX.out]; exact X2.out.below hW (by rw [Z2.out]; omega))
  have C1 : Hid (∀ W, Below w2.heap.size w2 W → Calls Tryz.prog 80 #[.slice AP nP cP, idV zI] W fun e w' => e = .returned (.bool (hasI x.ps zI)) ∧ Below W.heap.size W w') := Lib.hid fun W hW => by
    have b3 : Below w.heap.size w W := B2.out.trans (hW.mono B2.out.size)
    exact contains_any ((h.p.below b3).more b3.size) zI hP
  have C3 : Hid (∀ W, Below w2.heap.size w2 W → Calls Tryz.prog 81 #[.agg #[.slice AE nE cE]] W fun e w' => e = .returned (.int .i64 (if rightC x.es then 0 else 151)) ∧ Below W.heap.size W w') := Lib.hid fun W hW => by
    have b3 : Below w.heap.size w W := B2.out.trans (hW.mono B2.out.size)
    exact CheckEdit_any ((h.e.below b3).more b3.size) hE
  have HLP : Hid (x.ps.length = nP) := Lib.hid h.p.len
  have HLE : Hid (x.es.length = nE) := Lib.hid h.e.len
  have HPS : Hid (∀ W, Below w2.heap.size w2 W → SqI W w.heap.size AP nP cP x.ps) := Lib.hid fun W hW => h.p.below (B2.out.trans (hW.mono B2.out.size))
  have HB := Lib.hid h.nb
  clear hzI hw1 hwA hw2 B1 Z1 X1 YA h
  obtain ⟨q0, h0⟩ : ∃ q, (x.tree.b == zI.b) = q := ⟨_, rfl⟩
  obtain ⟨q1, h1⟩ : ∃ q, hasI x.ps zI = q := ⟨_, rfl⟩
  obtain ⟨q2, h2⟩ : ∃ q, decide (200 < (x.note.size : Int)) = q := ⟨_, rfl⟩
  obtain ⟨q3, h3⟩ : ∃ q, rightC x.es = q := ⟨_, rfl⟩
  obtain ⟨sq, hsq⟩ : ∃ q, styleW x = q := ⟨_, rfl⟩
  have HSQ := Lib.hid hsq
  obtain ⟨cq, hcq⟩ : ∃ q, comW x = q := ⟨_, rfl⟩
  have HF : Hid (cq = (!q0 && !q1 && !q2 && q3 && sq)) := Lib.hid (by
    rw [← hcq, ← h0, ← h1, ← h2, ← h3, ← hsq, HZI.out]
    rfl)
  rw [hcq]
  rw [h1] at C1
  rw [h3] at C3
  have H2 := Lib.hid h2
  have H3 : Hid True := Lib.hid trivial
  have E0 : Hid (∀ w, (Op.equalIn 10000 27 (.agg (S3.bvs x.tree.b).toArray) (.agg (S3.bvs zI.b).toArray)).run Tryz.prog w = .ok q0 w) := Lib.hid (fun w => by rw [← h0]; exact eq_id x.tree zI w)
  have E5 : Hid (∀ w, (Op.equalIn 10000 27 (.agg (S3.bvs x.base.b).toArray) (.agg (S3.bvs zI.b).toArray)).run Tryz.prog w = .ok (x.base.b == zI.b) w) := Lib.hid (fun w => eq_id x.base zI w)
  clear h0 h1 h2 h3 hsq hcq
  go_enter Tryz.func64, Tryz.ntmps64
  go_upto_region 1 with fail
  rw [HW1.out]
  have hz1 := HZ1.out
  go_upto_region 2 with (first
    | ((with_reducible refine bdt 27 [] ?_ ?_ zI.cells.toArray ?_ ?_); rfl; rfl; exact BZ.out)
    | ((with_reducible refine alt 27 ?_ ?_ zI.cells ZZ.out ?_); rfl; rfl; rw [HWA.out]; (try simp only [Act.put, List.setIfInBounds_toArray, List.set_cons_succ, List.set_cons_zero, hz1]))
    | ((with_reducible refine sti (.tmp 3) (.tmp 4) ?_ ?_ (w.heap.size + 1) 0 zI ?_ ?_ TA.out ?_); rfl; rfl; rfl; rfl; rw [HW2.out])
    | fail)
  clear hz1
  obtain ⟨a0, a1, a2, a3, R4, R5, a6, a7, a8, a9, a10⟩ := HX.out w2 (Below.refl w2.heap.size _)
  replace R4 := Lib.hid R4
  replace R5 := Lib.hid R5
  have NR := Lib.hid (N2.out.below (Below.refl w2.heap.size _) (by rw [Z2.out]; omega)).rg
  have GE : Hid (Below w.heap.size w w2) := B2
  have e0 := E0.out
  cases q0
  rotate_left
  · go_wp2_with (first | ((with_reducible refine ldi (.tmp 5) ?_ ?_ w.heap.size 4 x.tree ?_ R4.out ?_); rfl; (first | rfl | go_simp); (first | rfl | go_simp)) | ((with_reducible refine ldi (.tmp 3) ?_ ?_ (w.heap.size + 1) 0 zI ?_ NR.out ?_); rfl; (first | rfl | go_simp); (first | rfl | go_simp)) | ((with_reducible refine ldi (.tmp 34) ?_ ?_ w.heap.size 36 x.base ?_ R5.out ?_); rfl; (first | rfl | go_simp); (first | rfl | go_simp)) | ((with_reducible refine ldi (.tmp 58) ?_ ?_ w.heap.size 36 x.base ?_ R5.out ?_); rfl; (first | rfl | go_simp); (first | rfl | go_simp)) | fail)
    go_ret
    exact ⟨by rw [HF.out]; rfl, GE.out⟩
  go_wp2_with (first | ((with_reducible refine ldi (.tmp 5) ?_ ?_ w.heap.size 4 x.tree ?_ R4.out ?_); rfl; (first | rfl | go_simp); (first | rfl | go_simp)) | ((with_reducible refine ldi (.tmp 3) ?_ ?_ (w.heap.size + 1) 0 zI ?_ NR.out ?_); rfl; (first | rfl | go_simp); (first | rfl | go_simp)) | ((with_reducible refine ldi (.tmp 34) ?_ ?_ w.heap.size 36 x.base ?_ R5.out ?_); rfl; (first | rfl | go_simp); (first | rfl | go_simp)) | ((with_reducible refine ldi (.tmp 58) ?_ ?_ w.heap.size 36 x.base ?_ R5.out ?_); rfl; (first | rfl | go_simp); (first | rfl | go_simp)) | fail)
  refine (C1.out w2 (Below.refl _ _)).mono ?_
  rintro e w3 ⟨rfl, hb⟩
  dsimp only
  clear a0 a1 a2 a3 R4 R5 a6 a7 a8 a9 a10 NR
  have Yw3 : Hid (Below w2.heap.size w2 w3) := Lib.hid (hb)
  clear GE
  have GE : Hid (Below w.heap.size w w3) := Lib.hid (B2.out.trans (Yw3.out.mono B2.out.size))
  clear hb
  obtain ⟨a0, a1, a2, a3, R4, R5, a6, a7, a8, a9, a10⟩ := HX.out w3 Yw3.out
  replace R4 := Lib.hid R4
  replace R5 := Lib.hid R5
  have NR := Lib.hid (N2.out.below Yw3.out (by rw [Z2.out]; omega)).rg
  clear e0
  cases q1
  rotate_left
  · go_wp2_with fail
    go_ret
    exact ⟨by rw [HF.out]; rfl, GE.out⟩
  have hq2 := H2.out
  cases q2
  rotate_left
  · go_wp2_with fail
    go_ret
    exact ⟨by rw [HF.out]; rfl, GE.out⟩
  go_wp2_with fail
  refine (C3.out w3 Yw3.out).mono ?_
  rintro e w4 ⟨rfl, hb⟩
  dsimp only
  clear a0 a1 a2 a3 R4 R5 a6 a7 a8 a9 a10 NR
  have Yw4 : Hid (Below w2.heap.size w2 w4) := Lib.hid (Yw3.out.trans (hb.mono Yw3.out.size))
  clear GE
  have GE : Hid (Below w.heap.size w w4) := Lib.hid (B2.out.trans (Yw4.out.mono B2.out.size))
  clear hb
  obtain ⟨a0, a1, a2, a3, R4, R5, a6, a7, a8, a9, a10⟩ := HX.out w4 Yw4.out
  replace R4 := Lib.hid R4
  replace R5 := Lib.hid R5
  have NR := Lib.hid (N2.out.below Yw4.out (by rw [Z2.out]; omega)).rg
  have hq3 := H3.out
  cases q3
  · go_wp2_with fail
    go_ret
    exact ⟨by rw [HF.out]; rfl, GE.out⟩
  clear hq2 hq3
  have e5 := E5.out
  have hb := HB.out
  by_cases K1 : x.style = 1
  · have d1 : (x.style == 1) = true := by simp [K1]
    obtain ⟨s0, h0⟩ : ∃ q, ((nP : Int) == 0) = q := ⟨_, rfl⟩
    obtain ⟨s1, h1⟩ : ∃ q, (x.base.b == zI.b) = q := ⟨_, rfl⟩
    obtain ⟨s2, h2⟩ : ∃ q, ((nE : Int) == 0) = q := ⟨_, rfl⟩
    obtain ⟨s3, h3⟩ : ∃ q, ((x.num : Int) == 0) = q := ⟨_, rfl⟩
    have HS : Hid (sq = (s0 && s1 && s2 && s3)) := Lib.hid (by
      rw [← HSQ.out, styleW_1 K1, ← h0, ← h1, ← h2, ← h3, HZI.out, beq0 HLP.out, beq0 HLE.out, beq0 (rfl : x.num = x.num)])
    rw [h1] at e5
    cases s0
    · go_wp2_with (first | ((with_reducible refine ldi (.tmp 5) ?_ ?_ w.heap.size 4 x.tree ?_ R4.out ?_); rfl; (first | rfl | go_simp); (first | rfl | go_simp)) | ((with_reducible refine ldi (.tmp 3) ?_ ?_ (w.heap.size + 1) 0 zI ?_ NR.out ?_); rfl; (first | rfl | go_simp); (first | rfl | go_simp)) | ((with_reducible refine ldi (.tmp 34) ?_ ?_ w.heap.size 36 x.base ?_ R5.out ?_); rfl; (first | rfl | go_simp); (first | rfl | go_simp)) | ((with_reducible refine ldi (.tmp 58) ?_ ?_ w.heap.size 36 x.base ?_ R5.out ?_); rfl; (first | rfl | go_simp); (first | rfl | go_simp)) | fail)
      go_ret
      exact ⟨by rw [HF.out, HS.out]; rfl, GE.out⟩
    cases s1
    · go_wp2_with (first | ((with_reducible refine ldi (.tmp 5) ?_ ?_ w.heap.size 4 x.tree ?_ R4.out ?_); rfl; (first | rfl | go_simp); (first | rfl | go_simp)) | ((with_reducible refine ldi (.tmp 3) ?_ ?_ (w.heap.size + 1) 0 zI ?_ NR.out ?_); rfl; (first | rfl | go_simp); (first | rfl | go_simp)) | ((with_reducible refine ldi (.tmp 34) ?_ ?_ w.heap.size 36 x.base ?_ R5.out ?_); rfl; (first | rfl | go_simp); (first | rfl | go_simp)) | ((with_reducible refine ldi (.tmp 58) ?_ ?_ w.heap.size 36 x.base ?_ R5.out ?_); rfl; (first | rfl | go_simp); (first | rfl | go_simp)) | fail)
      go_ret
      exact ⟨by rw [HF.out, HS.out]; rfl, GE.out⟩
    cases s2
    · go_wp2_with (first | ((with_reducible refine ldi (.tmp 5) ?_ ?_ w.heap.size 4 x.tree ?_ R4.out ?_); rfl; (first | rfl | go_simp); (first | rfl | go_simp)) | ((with_reducible refine ldi (.tmp 3) ?_ ?_ (w.heap.size + 1) 0 zI ?_ NR.out ?_); rfl; (first | rfl | go_simp); (first | rfl | go_simp)) | ((with_reducible refine ldi (.tmp 34) ?_ ?_ w.heap.size 36 x.base ?_ R5.out ?_); rfl; (first | rfl | go_simp); (first | rfl | go_simp)) | ((with_reducible refine ldi (.tmp 58) ?_ ?_ w.heap.size 36 x.base ?_ R5.out ?_); rfl; (first | rfl | go_simp); (first | rfl | go_simp)) | fail)
      go_ret
      exact ⟨by rw [HF.out, HS.out]; rfl, GE.out⟩
    cases s3
    · go_wp2_with (first | ((with_reducible refine ldi (.tmp 5) ?_ ?_ w.heap.size 4 x.tree ?_ R4.out ?_); rfl; (first | rfl | go_simp); (first | rfl | go_simp)) | ((with_reducible refine ldi (.tmp 3) ?_ ?_ (w.heap.size + 1) 0 zI ?_ NR.out ?_); rfl; (first | rfl | go_simp); (first | rfl | go_simp)) | ((with_reducible refine ldi (.tmp 34) ?_ ?_ w.heap.size 36 x.base ?_ R5.out ?_); rfl; (first | rfl | go_simp); (first | rfl | go_simp)) | ((with_reducible refine ldi (.tmp 58) ?_ ?_ w.heap.size 36 x.base ?_ R5.out ?_); rfl; (first | rfl | go_simp); (first | rfl | go_simp)) | fail)
      go_ret
      exact ⟨by rw [HF.out, HS.out]; rfl, GE.out⟩
    go_wp2_with (first | ((with_reducible refine ldi (.tmp 5) ?_ ?_ w.heap.size 4 x.tree ?_ R4.out ?_); rfl; (first | rfl | go_simp); (first | rfl | go_simp)) | ((with_reducible refine ldi (.tmp 3) ?_ ?_ (w.heap.size + 1) 0 zI ?_ NR.out ?_); rfl; (first | rfl | go_simp); (first | rfl | go_simp)) | ((with_reducible refine ldi (.tmp 34) ?_ ?_ w.heap.size 36 x.base ?_ R5.out ?_); rfl; (first | rfl | go_simp); (first | rfl | go_simp)) | ((with_reducible refine ldi (.tmp 58) ?_ ?_ w.heap.size 36 x.base ?_ R5.out ?_); rfl; (first | rfl | go_simp); (first | rfl | go_simp)) | fail)
    go_ret
    exact ⟨by rw [HF.out, HS.out]; rfl, GE.out⟩
  · have d1 : (x.style == 1) = false := by simp [K1]
    by_cases K2 : x.style = 2
    · have d2 : (x.style == 2) = true := by simp [K2]
      obtain ⟨s0, h0⟩ : ∃ q, ((nP : Int) == 1) = q := ⟨_, rfl⟩
      obtain ⟨s1, h1⟩ : ∃ q, (x.base.b == zI.b) = q := ⟨_, rfl⟩
      obtain ⟨s2, h2⟩ : ∃ q, decide (0 < x.num) = q := ⟨_, rfl⟩
      have HS : Hid (sq = (s0 && s1 && s2)) := Lib.hid (by
        rw [← HSQ.out, styleW_2 K1 K2, ← h0, ← h1, ← h2, HZI.out, beq1 HLP.out])
      rw [h1] at e5
      cases s0
      · go_wp2_with (first | ((with_reducible refine ldi (.tmp 5) ?_ ?_ w.heap.size 4 x.tree ?_ R4.out ?_); rfl; (first | rfl | go_simp); (first | rfl | go_simp)) | ((with_reducible refine ldi (.tmp 3) ?_ ?_ (w.heap.size + 1) 0 zI ?_ NR.out ?_); rfl; (first | rfl | go_simp); (first | rfl | go_simp)) | ((with_reducible refine ldi (.tmp 34) ?_ ?_ w.heap.size 36 x.base ?_ R5.out ?_); rfl; (first | rfl | go_simp); (first | rfl | go_simp)) | ((with_reducible refine ldi (.tmp 58) ?_ ?_ w.heap.size 36 x.base ?_ R5.out ?_); rfl; (first | rfl | go_simp); (first | rfl | go_simp)) | fail)
        go_ret
        exact ⟨by rw [HF.out, HS.out]; rfl, GE.out⟩
      cases s1
      · go_wp2_with (first | ((with_reducible refine ldi (.tmp 5) ?_ ?_ w.heap.size 4 x.tree ?_ R4.out ?_); rfl; (first | rfl | go_simp); (first | rfl | go_simp)) | ((with_reducible refine ldi (.tmp 3) ?_ ?_ (w.heap.size + 1) 0 zI ?_ NR.out ?_); rfl; (first | rfl | go_simp); (first | rfl | go_simp)) | ((with_reducible refine ldi (.tmp 34) ?_ ?_ w.heap.size 36 x.base ?_ R5.out ?_); rfl; (first | rfl | go_simp); (first | rfl | go_simp)) | ((with_reducible refine ldi (.tmp 58) ?_ ?_ w.heap.size 36 x.base ?_ R5.out ?_); rfl; (first | rfl | go_simp); (first | rfl | go_simp)) | fail)
        go_ret
        exact ⟨by rw [HF.out, HS.out]; rfl, GE.out⟩
      cases s2
      · go_wp2_with (first | ((with_reducible refine ldi (.tmp 5) ?_ ?_ w.heap.size 4 x.tree ?_ R4.out ?_); rfl; (first | rfl | go_simp); (first | rfl | go_simp)) | ((with_reducible refine ldi (.tmp 3) ?_ ?_ (w.heap.size + 1) 0 zI ?_ NR.out ?_); rfl; (first | rfl | go_simp); (first | rfl | go_simp)) | ((with_reducible refine ldi (.tmp 34) ?_ ?_ w.heap.size 36 x.base ?_ R5.out ?_); rfl; (first | rfl | go_simp); (first | rfl | go_simp)) | ((with_reducible refine ldi (.tmp 58) ?_ ?_ w.heap.size 36 x.base ?_ R5.out ?_); rfl; (first | rfl | go_simp); (first | rfl | go_simp)) | fail)
        go_ret
        exact ⟨by rw [HF.out, HS.out]; rfl, GE.out⟩
      go_wp2_with (first | ((with_reducible refine ldi (.tmp 5) ?_ ?_ w.heap.size 4 x.tree ?_ R4.out ?_); rfl; (first | rfl | go_simp); (first | rfl | go_simp)) | ((with_reducible refine ldi (.tmp 3) ?_ ?_ (w.heap.size + 1) 0 zI ?_ NR.out ?_); rfl; (first | rfl | go_simp); (first | rfl | go_simp)) | ((with_reducible refine ldi (.tmp 34) ?_ ?_ w.heap.size 36 x.base ?_ R5.out ?_); rfl; (first | rfl | go_simp); (first | rfl | go_simp)) | ((with_reducible refine ldi (.tmp 58) ?_ ?_ w.heap.size 36 x.base ?_ R5.out ?_); rfl; (first | rfl | go_simp); (first | rfl | go_simp)) | fail)
      go_ret
      exact ⟨by rw [HF.out, HS.out]; rfl, GE.out⟩
    · have d2 : (x.style == 2) = false := by simp [K2]
      by_cases K3 : x.style = 3
      · have d3 : (x.style == 3) = true := by simp [K3]
        by_cases N2P : nP = 2
        · obtain ⟨p0, p1, hps⟩ : ∃ p0 p1, x.ps = [p0, p1] := by
            have := HLP.out
            match hx : x.ps, this with
            | [a, b], _ => exact ⟨a, b, rfl⟩
            | [], e => simp at e; omega
            | [a], e => simp at e; omega
            | a :: b :: c :: r, e => simp at e; omega
          obtain ⟨b, o, rfl, -, -⟩ := (HPS.out w2 (Below.refl _ _)).at_ (i := 0) (by omega)
          have P0 : Hid (∀ W, Below w2.heap.size w2 W → W.rangeAt b o p0.cells) := Lib.hid fun W hW => by
            obtain ⟨b', o', e, -, hr⟩ := (HPS.out W hW).at_ (i := 0) (by omega)
            injection e with e
            injection e with e1 e2
            subst e1 e2
            simpa [hps] using hr
          have P1 : Hid (∀ W, Below w2.heap.size w2 W → W.rangeAt b (o + 32) p1.cells) := Lib.hid fun W hW => by
            obtain ⟨b', o', e, -, hr⟩ := (HPS.out W hW).at_ (i := 1) (by omega)
            injection e with e
            injection e with e1 e2
            subst e1 e2
            simpa [hps] using hr
          subst N2P
          obtain ⟨s1, h1⟩ : ∃ q, (p0.b == p1.b) = q := ⟨_, rfl⟩
          obtain ⟨s2, h2⟩ : ∃ q, decide (0 < x.num) = q := ⟨_, rfl⟩
          have HNE : Hid (∀ w, (Op.equalIn 10000 27 (.agg p0.cells.toArray) (.agg p1.cells.toArray)).run Tryz.prog w = .ok s1 w) := Lib.hid (fun w => by rw [← h1]; exact eq_id p0 p1 w)
          have HS : Hid (sq = (!s1 && s2)) := Lib.hid (by rw [← HSQ.out, styleW_3 K1 K2 K3, hps, ← h1, ← h2]; rfl)
          have H22 := Lib.hid h2
          clear h1 hps h2 e5
          go_upto_region 12 with fail
          cases s1
          · have h2 := H22.out
            clear a0 a1 a2 a3 a6 a7 a8 a9 a10
            refine wp_region_noPanic ?_
            refine wp_region_held_drew (S := (fun w' => Below w2.heap.size w2 w')) (by kernel_rfl) Yw4.out.drew (fun _ => ?_)
            refine wpAnyH_take (i := 0) rfl (by kernel_rfl) (by kernel_rfl) (by kernel_rfl) (fun _ _ _ h => h) (.inl ⟨rfl, fun w' hw' => (by obtain ⟨a0, a1, a2, a3, -, -, a6, a7, a8, a9, a10⟩ := HX.out w' hw'; clear hw'; go_simp; (try rfl))⟩) Yw4.out.drew ?_
            simp only [List.getElem_toArray, List.getElem_cons_zero, List.getElem_cons_succ, Act.put, List.setIfInBounds_toArray, List.set_cons_succ, List.set_cons_zero]
            refine wpAnyH_take (i := 1) rfl (by kernel_rfl) (by kernel_rfl) (by kernel_rfl) (fun _ _ _ h => h) (.inl ⟨rfl, fun w' hw' => (by obtain ⟨a0, a1, a2, a3, -, -, a6, a7, a8, a9, a10⟩ := HX.out w' hw'; clear hw'; go_simp; (try rfl))⟩) Yw4.out.drew ?_
            simp only [List.getElem_toArray, List.getElem_cons_zero, List.getElem_cons_succ, Act.put, List.setIfInBounds_toArray, List.set_cons_succ, List.set_cons_zero]
            refine wpAnyH_take (i := 2) rfl (by kernel_rfl) (by kernel_rfl) (by kernel_rfl) (fun _ _ _ h => h) (.inl ⟨rfl, fun w' hw' => (by obtain ⟨a0, a1, a2, a3, -, -, a6, a7, a8, a9, a10⟩ := HX.out w' hw'; clear hw'; go_simp; (try rfl))⟩) Yw4.out.drew ?_
            simp only [List.getElem_toArray, List.getElem_cons_zero, List.getElem_cons_succ, Act.put, List.setIfInBounds_toArray, List.set_cons_succ, List.set_cons_zero]
            refine wpAnyH_take (i := 3) rfl (by kernel_rfl) (by kernel_rfl) (by kernel_rfl) (fun _ _ _ h => h) (.inl ⟨rfl, fun w' hw' => (by obtain ⟨a0, a1, a2, a3, -, -, a6, a7, a8, a9, a10⟩ := HX.out w' hw'; clear hw'; go_simp; (try rfl))⟩) Yw4.out.drew ?_
            simp only [List.getElem_toArray, List.getElem_cons_zero, List.getElem_cons_succ, Act.put, List.setIfInBounds_toArray, List.set_cons_succ, List.set_cons_zero]
            refine wpAnyH_take (i := 4) rfl (by kernel_rfl) (by kernel_rfl) (by kernel_rfl) (fun _ _ _ h => h) (.inl ⟨rfl, fun w' hw' => (by obtain ⟨a0, a1, a2, a3, -, -, a6, a7, a8, a9, a10⟩ := HX.out w' hw'; clear hw'; go_simp; (try rfl))⟩) Yw4.out.drew ?_
            simp only [List.getElem_toArray, List.getElem_cons_zero, List.getElem_cons_succ, Act.put, List.setIfInBounds_toArray, List.set_cons_succ, List.set_cons_zero]
            refine wpAnyH_take (i := 5) rfl (by kernel_rfl) (by kernel_rfl) (by kernel_rfl) (fun _ _ _ h => h) (.inl ⟨rfl, fun w' hw' => (by obtain ⟨a0, a1, a2, a3, -, -, a6, a7, a8, a9, a10⟩ := HX.out w' hw'; clear hw'; go_simp; (try rfl))⟩) Yw4.out.drew ?_
            simp only [List.getElem_toArray, List.getElem_cons_zero, List.getElem_cons_succ, Act.put, List.setIfInBounds_toArray, List.set_cons_succ, List.set_cons_zero]
            refine wpAnyH_take (i := 6) rfl (by kernel_rfl) (by kernel_rfl) (by kernel_rfl) (fun _ _ _ h => h) (.inl ⟨rfl, fun w' hw' => (by obtain ⟨a0, a1, a2, a3, -, -, a6, a7, a8, a9, a10⟩ := HX.out w' hw'; clear hw'; go_simp; (try rfl))⟩) Yw4.out.drew ?_
            simp only [List.getElem_toArray, List.getElem_cons_zero, List.getElem_cons_succ, Act.put, List.setIfInBounds_toArray, List.set_cons_succ, List.set_cons_zero]
            refine wpAnyH_take (i := 7) rfl (by kernel_rfl) (by kernel_rfl) (by kernel_rfl) (fun _ _ _ h => h) (.inl ⟨rfl, fun w' hw' => (by obtain ⟨a0, a1, a2, a3, -, -, a6, a7, a8, a9, a10⟩ := HX.out w' hw'; clear hw'; go_simp; (try rfl))⟩) Yw4.out.drew ?_
            simp only [List.getElem_toArray, List.getElem_cons_zero, List.getElem_cons_succ, Act.put, List.setIfInBounds_toArray, List.set_cons_succ, List.set_cons_zero]
            refine wpAnyH_take (i := 8) rfl (by kernel_rfl) (by kernel_rfl) (by kernel_rfl) (fun _ _ _ h => h) (yieldsIf_load_mid rfl 27 _ rfl b o rfl p0.cells _ (fun w' hw' => P0.out w' hw') Tryz.underlying27 rfl (by rw [id_sz]; exact size_idv)) Yw4.out.drew ?_
            simp only [List.getElem_toArray, List.getElem_cons_zero, List.getElem_cons_succ, Act.put, List.setIfInBounds_toArray, List.set_cons_succ, List.set_cons_zero]
            refine wpAnyH_take (i := 9) rfl (by kernel_rfl) (by kernel_rfl) (by kernel_rfl) (fun _ _ _ h => h) (.inl ⟨rfl, fun w' hw' => (by obtain ⟨a0, a1, a2, a3, -, -, a6, a7, a8, a9, a10⟩ := HX.out w' hw'; clear hw'; go_simp; (try rfl))⟩) Yw4.out.drew ?_
            simp only [List.getElem_toArray, List.getElem_cons_zero, List.getElem_cons_succ, Act.put, List.setIfInBounds_toArray, List.set_cons_succ, List.set_cons_zero]
            refine wpAnyH_take (i := 10) rfl (by kernel_rfl) (by kernel_rfl) (by kernel_rfl) (fun _ _ _ h => h) (.inl ⟨rfl, fun w' hw' => (by obtain ⟨a0, a1, a2, a3, -, -, a6, a7, a8, a9, a10⟩ := HX.out w' hw'; clear hw'; go_simp; (try rfl))⟩) Yw4.out.drew ?_
            simp only [List.getElem_toArray, List.getElem_cons_zero, List.getElem_cons_succ, Act.put, List.setIfInBounds_toArray, List.set_cons_succ, List.set_cons_zero]
            refine wpAnyH_take (i := 11) rfl (by kernel_rfl) (by kernel_rfl) (by kernel_rfl) (fun _ _ _ h => h) (.inl ⟨rfl, fun w' hw' => (by obtain ⟨a0, a1, a2, a3, -, -, a6, a7, a8, a9, a10⟩ := HX.out w' hw'; clear hw'; go_simp; (try rfl))⟩) Yw4.out.drew ?_
            simp only [List.getElem_toArray, List.getElem_cons_zero, List.getElem_cons_succ, Act.put, List.setIfInBounds_toArray, List.set_cons_succ, List.set_cons_zero]
            refine wpAnyH_take (i := 12) rfl (by kernel_rfl) (by kernel_rfl) (by kernel_rfl) (fun _ _ _ h => h) (yieldsIf_load_mid rfl 27 _ rfl b (o + 32) rfl p1.cells _ (fun w' hw' => P1.out w' hw') Tryz.underlying27 rfl (by rw [id_sz]; exact size_idv)) Yw4.out.drew ?_
            simp only [List.getElem_toArray, List.getElem_cons_zero, List.getElem_cons_succ, Act.put, List.setIfInBounds_toArray, List.set_cons_succ, List.set_cons_zero]
            refine wpAnyH_take (i := 13) rfl (by kernel_rfl) (by kernel_rfl) (by kernel_rfl) (fun _ _ _ h => h) (.inl ⟨rfl, fun w' hw' => (by obtain ⟨a0, a1, a2, a3, -, -, a6, a7, a8, a9, a10⟩ := HX.out w' hw'; clear hw'; have e := HNE.out w'; go_simp; (try rfl))⟩) Yw4.out.drew ?_
            simp only [List.getElem_toArray, List.getElem_cons_zero, List.getElem_cons_succ, Act.put, List.setIfInBounds_toArray, List.set_cons_succ, List.set_cons_zero]
            refine wpAnyH_take (i := 14) rfl (by kernel_rfl) (by kernel_rfl) (by kernel_rfl) (fun _ _ _ h => h) (.inl ⟨rfl, fun w' hw' => (by clear hw'; go_simp; (try rfl))⟩) Yw4.out.drew ?_
            simp only [List.getElem_toArray, List.getElem_cons_zero, List.getElem_cons_succ, Act.put, List.setIfInBounds_toArray, List.set_cons_succ, List.set_cons_zero]
            refine wpAnyH_take (i := 15) rfl (by kernel_rfl) (by kernel_rfl) (by kernel_rfl) (fun _ _ _ h => h) (.inl ⟨rfl, fun w' hw' => (by clear hw'; go_simp; (try rfl))⟩) Yw4.out.drew ?_
            simp only [List.getElem_toArray, List.getElem_cons_zero, List.getElem_cons_succ, Act.put, List.setIfInBounds_toArray, List.set_cons_succ, List.set_cons_zero]
            refine wpAnyH_take (i := 16) rfl (by kernel_rfl) (by kernel_rfl) (by kernel_rfl) (fun _ _ _ h => h) (.inl ⟨rfl, fun w' hw' => (by obtain ⟨a0, a1, a2, a3, -, -, a6, a7, a8, a9, a10⟩ := HX.out w' hw'; clear hw'; go_simp; (try rfl))⟩) Yw4.out.drew ?_
            simp only [List.getElem_toArray, List.getElem_cons_zero, List.getElem_cons_succ, Act.put, List.setIfInBounds_toArray, List.set_cons_succ, List.set_cons_zero]
            refine wpAnyH_take (i := 17) rfl (by kernel_rfl) (by kernel_rfl) (by kernel_rfl) (fun _ _ _ h => h) (.inl ⟨rfl, fun w' hw' => (by obtain ⟨a0, a1, a2, a3, -, -, a6, a7, a8, a9, a10⟩ := HX.out w' hw'; clear hw'; go_simp; (try rfl))⟩) Yw4.out.drew ?_
            simp only [List.getElem_toArray, List.getElem_cons_zero, List.getElem_cons_succ, Act.put, List.setIfInBounds_toArray, List.set_cons_succ, List.set_cons_zero]
            refine wpAnyH_take (i := 18) rfl (by kernel_rfl) (by kernel_rfl) (by kernel_rfl) (fun _ _ _ h => h) (.inl ⟨rfl, fun w' hw' => (by obtain ⟨a0, a1, a2, a3, -, -, a6, a7, a8, a9, a10⟩ := HX.out w' hw'; clear hw'; go_simp; (try rfl))⟩) Yw4.out.drew ?_
            simp only [List.getElem_toArray, List.getElem_cons_zero, List.getElem_cons_succ, Act.put, List.setIfInBounds_toArray, List.set_cons_succ, List.set_cons_zero]
            refine wpAnyH_take (i := 19) rfl (by kernel_rfl) (by kernel_rfl) (by kernel_rfl) (fun _ _ _ h => h) (.inl ⟨rfl, fun w' hw' => (by clear hw'; go_simp; (try rfl))⟩) Yw4.out.drew ?_
            simp only [List.getElem_toArray, List.getElem_cons_zero, List.getElem_cons_succ, Act.put, List.setIfInBounds_toArray, List.set_cons_succ, List.set_cons_zero]
            refine wpAnyH_take (i := 20) rfl (by kernel_rfl) (by kernel_rfl) (by kernel_rfl) (fun _ _ _ h => h) (.inl ⟨rfl, fun w' hw' => (by clear hw'; go_simp; (try rfl))⟩) Yw4.out.drew ?_
            simp only [List.getElem_toArray, List.getElem_cons_zero, List.getElem_cons_succ, Act.put, List.setIfInBounds_toArray, List.set_cons_succ, List.set_cons_zero]
            refine wpAnyH_done (by kernel_rfl) ?_ _
            refine NoPanic.normal ?_
            cases s2
            · have GE9 : Hid (Below w.heap.size w w4.drew) := Lib.hid GE.out.drew
              go_wp2_with fail
              go_ret
              exact ⟨by rw [HF.out, HS.out]; rfl, GE9.out⟩
            · have GE9 : Hid (Below w.heap.size w w4.drew) := Lib.hid GE.out.drew
              go_wp2_with fail
              go_ret
              exact ⟨by rw [HF.out, HS.out]; rfl, GE9.out⟩
          · clear a0 a1 a2 a3 a6 a7 a8 a9 a10
            refine wp_region_noPanic ?_
            refine wp_region_held_drew (S := (fun w' => Below w2.heap.size w2 w')) (by kernel_rfl) Yw4.out.drew (fun _ => ?_)
            refine wpAnyH_take (i := 0) rfl (by kernel_rfl) (by kernel_rfl) (by kernel_rfl) (fun _ _ _ h => h) (.inl ⟨rfl, fun w' hw' => (by obtain ⟨a0, a1, a2, a3, -, -, a6, a7, a8, a9, a10⟩ := HX.out w' hw'; clear hw'; go_simp; (try rfl))⟩) Yw4.out.drew ?_
            simp only [List.getElem_toArray, List.getElem_cons_zero, List.getElem_cons_succ, Act.put, List.setIfInBounds_toArray, List.set_cons_succ, List.set_cons_zero]
            refine wpAnyH_take (i := 1) rfl (by kernel_rfl) (by kernel_rfl) (by kernel_rfl) (fun _ _ _ h => h) (.inl ⟨rfl, fun w' hw' => (by obtain ⟨a0, a1, a2, a3, -, -, a6, a7, a8, a9, a10⟩ := HX.out w' hw'; clear hw'; go_simp; (try rfl))⟩) Yw4.out.drew ?_
            simp only [List.getElem_toArray, List.getElem_cons_zero, List.getElem_cons_succ, Act.put, List.setIfInBounds_toArray, List.set_cons_succ, List.set_cons_zero]
            refine wpAnyH_take (i := 2) rfl (by kernel_rfl) (by kernel_rfl) (by kernel_rfl) (fun _ _ _ h => h) (.inl ⟨rfl, fun w' hw' => (by obtain ⟨a0, a1, a2, a3, -, -, a6, a7, a8, a9, a10⟩ := HX.out w' hw'; clear hw'; go_simp; (try rfl))⟩) Yw4.out.drew ?_
            simp only [List.getElem_toArray, List.getElem_cons_zero, List.getElem_cons_succ, Act.put, List.setIfInBounds_toArray, List.set_cons_succ, List.set_cons_zero]
            refine wpAnyH_take (i := 3) rfl (by kernel_rfl) (by kernel_rfl) (by kernel_rfl) (fun _ _ _ h => h) (.inl ⟨rfl, fun w' hw' => (by obtain ⟨a0, a1, a2, a3, -, -, a6, a7, a8, a9, a10⟩ := HX.out w' hw'; clear hw'; go_simp; (try rfl))⟩) Yw4.out.drew ?_
            simp only [List.getElem_toArray, List.getElem_cons_zero, List.getElem_cons_succ, Act.put, List.setIfInBounds_toArray, List.set_cons_succ, List.set_cons_zero]
            refine wpAnyH_take (i := 4) rfl (by kernel_rfl) (by kernel_rfl) (by kernel_rfl) (fun _ _ _ h => h) (.inl ⟨rfl, fun w' hw' => (by obtain ⟨a0, a1, a2, a3, -, -, a6, a7, a8, a9, a10⟩ := HX.out w' hw'; clear hw'; go_simp; (try rfl))⟩) Yw4.out.drew ?_
            simp only [List.getElem_toArray, List.getElem_cons_zero, List.getElem_cons_succ, Act.put, List.setIfInBounds_toArray, List.set_cons_succ, List.set_cons_zero]
            refine wpAnyH_take (i := 5) rfl (by kernel_rfl) (by kernel_rfl) (by kernel_rfl) (fun _ _ _ h => h) (.inl ⟨rfl, fun w' hw' => (by obtain ⟨a0, a1, a2, a3, -, -, a6, a7, a8, a9, a10⟩ := HX.out w' hw'; clear hw'; go_simp; (try rfl))⟩) Yw4.out.drew ?_
            simp only [List.getElem_toArray, List.getElem_cons_zero, List.getElem_cons_succ, Act.put, List.setIfInBounds_toArray, List.set_cons_succ, List.set_cons_zero]
            refine wpAnyH_take (i := 6) rfl (by kernel_rfl) (by kernel_rfl) (by kernel_rfl) (fun _ _ _ h => h) (.inl ⟨rfl, fun w' hw' => (by obtain ⟨a0, a1, a2, a3, -, -, a6, a7, a8, a9, a10⟩ := HX.out w' hw'; clear hw'; go_simp; (try rfl))⟩) Yw4.out.drew ?_
            simp only [List.getElem_toArray, List.getElem_cons_zero, List.getElem_cons_succ, Act.put, List.setIfInBounds_toArray, List.set_cons_succ, List.set_cons_zero]
            refine wpAnyH_take (i := 7) rfl (by kernel_rfl) (by kernel_rfl) (by kernel_rfl) (fun _ _ _ h => h) (.inl ⟨rfl, fun w' hw' => (by obtain ⟨a0, a1, a2, a3, -, -, a6, a7, a8, a9, a10⟩ := HX.out w' hw'; clear hw'; go_simp; (try rfl))⟩) Yw4.out.drew ?_
            simp only [List.getElem_toArray, List.getElem_cons_zero, List.getElem_cons_succ, Act.put, List.setIfInBounds_toArray, List.set_cons_succ, List.set_cons_zero]
            refine wpAnyH_take (i := 8) rfl (by kernel_rfl) (by kernel_rfl) (by kernel_rfl) (fun _ _ _ h => h) (yieldsIf_load_mid rfl 27 _ rfl b o rfl p0.cells _ (fun w' hw' => P0.out w' hw') Tryz.underlying27 rfl (by rw [id_sz]; exact size_idv)) Yw4.out.drew ?_
            simp only [List.getElem_toArray, List.getElem_cons_zero, List.getElem_cons_succ, Act.put, List.setIfInBounds_toArray, List.set_cons_succ, List.set_cons_zero]
            refine wpAnyH_take (i := 9) rfl (by kernel_rfl) (by kernel_rfl) (by kernel_rfl) (fun _ _ _ h => h) (.inl ⟨rfl, fun w' hw' => (by obtain ⟨a0, a1, a2, a3, -, -, a6, a7, a8, a9, a10⟩ := HX.out w' hw'; clear hw'; go_simp; (try rfl))⟩) Yw4.out.drew ?_
            simp only [List.getElem_toArray, List.getElem_cons_zero, List.getElem_cons_succ, Act.put, List.setIfInBounds_toArray, List.set_cons_succ, List.set_cons_zero]
            refine wpAnyH_take (i := 10) rfl (by kernel_rfl) (by kernel_rfl) (by kernel_rfl) (fun _ _ _ h => h) (.inl ⟨rfl, fun w' hw' => (by obtain ⟨a0, a1, a2, a3, -, -, a6, a7, a8, a9, a10⟩ := HX.out w' hw'; clear hw'; go_simp; (try rfl))⟩) Yw4.out.drew ?_
            simp only [List.getElem_toArray, List.getElem_cons_zero, List.getElem_cons_succ, Act.put, List.setIfInBounds_toArray, List.set_cons_succ, List.set_cons_zero]
            refine wpAnyH_take (i := 11) rfl (by kernel_rfl) (by kernel_rfl) (by kernel_rfl) (fun _ _ _ h => h) (.inl ⟨rfl, fun w' hw' => (by obtain ⟨a0, a1, a2, a3, -, -, a6, a7, a8, a9, a10⟩ := HX.out w' hw'; clear hw'; go_simp; (try rfl))⟩) Yw4.out.drew ?_
            simp only [List.getElem_toArray, List.getElem_cons_zero, List.getElem_cons_succ, Act.put, List.setIfInBounds_toArray, List.set_cons_succ, List.set_cons_zero]
            refine wpAnyH_take (i := 12) rfl (by kernel_rfl) (by kernel_rfl) (by kernel_rfl) (fun _ _ _ h => h) (yieldsIf_load_mid rfl 27 _ rfl b (o + 32) rfl p1.cells _ (fun w' hw' => P1.out w' hw') Tryz.underlying27 rfl (by rw [id_sz]; exact size_idv)) Yw4.out.drew ?_
            simp only [List.getElem_toArray, List.getElem_cons_zero, List.getElem_cons_succ, Act.put, List.setIfInBounds_toArray, List.set_cons_succ, List.set_cons_zero]
            refine wpAnyH_take (i := 13) rfl (by kernel_rfl) (by kernel_rfl) (by kernel_rfl) (fun _ _ _ h => h) (.inl ⟨rfl, fun w' hw' => (by obtain ⟨a0, a1, a2, a3, -, -, a6, a7, a8, a9, a10⟩ := HX.out w' hw'; clear hw'; have e := HNE.out w'; go_simp; (try rfl))⟩) Yw4.out.drew ?_
            simp only [List.getElem_toArray, List.getElem_cons_zero, List.getElem_cons_succ, Act.put, List.setIfInBounds_toArray, List.set_cons_succ, List.set_cons_zero]
            refine wpAnyH_take (i := 14) rfl (by kernel_rfl) (by kernel_rfl) (by kernel_rfl) (fun _ _ _ h => h) (.inl ⟨rfl, fun w' hw' => (by clear hw'; go_simp; (try rfl))⟩) Yw4.out.drew ?_
            simp only [List.getElem_toArray, List.getElem_cons_zero, List.getElem_cons_succ, Act.put, List.setIfInBounds_toArray, List.set_cons_succ, List.set_cons_zero]
            refine wpAnyH_take (i := 15) rfl (by kernel_rfl) (by kernel_rfl) (by kernel_rfl) (fun _ _ _ h => h) (.inl ⟨rfl, fun w' hw' => (by clear hw'; go_simp; (try rfl))⟩) Yw4.out.drew ?_
            simp only [List.getElem_toArray, List.getElem_cons_zero, List.getElem_cons_succ, Act.put, List.setIfInBounds_toArray, List.set_cons_succ, List.set_cons_zero]
            refine wpAnyH_take (i := 16) rfl (by kernel_rfl) (by kernel_rfl) (by kernel_rfl) (fun _ _ _ h => h) (.inr ⟨rfl, rfl⟩) Yw4.out.drew ?_
            simp only [List.getElem_toArray, List.getElem_cons_zero, List.getElem_cons_succ, Act.put, List.setIfInBounds_toArray, List.set_cons_succ, List.set_cons_zero]
            refine wpAnyH_take (i := 17) rfl (by kernel_rfl) (by kernel_rfl) (by kernel_rfl) (fun _ _ _ h => h) (.inr ⟨rfl, rfl⟩) Yw4.out.drew ?_
            simp only [List.getElem_toArray, List.getElem_cons_zero, List.getElem_cons_succ, Act.put, List.setIfInBounds_toArray, List.set_cons_succ, List.set_cons_zero]
            refine wpAnyH_take (i := 18) rfl (by kernel_rfl) (by kernel_rfl) (by kernel_rfl) (fun _ _ _ h => h) (.inr ⟨rfl, rfl⟩) Yw4.out.drew ?_
            simp only [List.getElem_toArray, List.getElem_cons_zero, List.getElem_cons_succ, Act.put, List.setIfInBounds_toArray, List.set_cons_succ, List.set_cons_zero]
            refine wpAnyH_take (i := 19) rfl (by kernel_rfl) (by kernel_rfl) (by kernel_rfl) (fun _ _ _ h => h) (.inl ⟨rfl, fun w' hw' => (by clear hw'; go_simp; (try rfl))⟩) Yw4.out.drew ?_
            simp only [List.getElem_toArray, List.getElem_cons_zero, List.getElem_cons_succ, Act.put, List.setIfInBounds_toArray, List.set_cons_succ, List.set_cons_zero]
            refine wpAnyH_take (i := 20) rfl (by kernel_rfl) (by kernel_rfl) (by kernel_rfl) (fun _ _ _ h => h) (.inl ⟨rfl, fun w' hw' => (by clear hw'; go_simp; (try rfl))⟩) Yw4.out.drew ?_
            simp only [List.getElem_toArray, List.getElem_cons_zero, List.getElem_cons_succ, Act.put, List.setIfInBounds_toArray, List.set_cons_succ, List.set_cons_zero]
            refine wpAnyH_done (by kernel_rfl) ?_ _
            refine NoPanic.normal ?_
            have GE9 : Hid (Below w.heap.size w w4.drew) := Lib.hid GE.out.drew
            go_wp2_with fail
            go_ret
            exact ⟨by rw [HF.out, HS.out]; rfl, GE9.out⟩
        · have d4 : ((nP : Int) == 2) = false := by simp; omega
          have HS : Hid (sq = false) := Lib.hid (by rw [← HSQ.out]; exact styleW_3n K1 K2 K3 (by rw [HLP.out]; exact N2P))
          go_upto_region 12 with fail
          clear a0 a1 a2 a3 a6 a7 a8 a9 a10
          refine wp_region_noPanic ?_
          refine wp_region_held_drew (S := (fun w' => Below w2.heap.size w2 w')) (by kernel_rfl) Yw4.out.drew (fun _ => ?_)
          refine wpAnyH_take (i := 0) rfl (by kernel_rfl) (by kernel_rfl) (by kernel_rfl) (fun _ _ _ h => h) (.inl ⟨rfl, fun w' hw' => (by obtain ⟨a0, a1, a2, a3, -, -, a6, a7, a8, a9, a10⟩ := HX.out w' hw'; clear hw'; go_simp; (try rfl))⟩) Yw4.out.drew ?_
          simp only [List.getElem_toArray, List.getElem_cons_zero, List.getElem_cons_succ, Act.put, List.setIfInBounds_toArray, List.set_cons_succ, List.set_cons_zero]
          refine wpAnyH_take (i := 1) rfl (by kernel_rfl) (by kernel_rfl) (by kernel_rfl) (fun _ _ _ h => h) (.inl ⟨rfl, fun w' hw' => (by obtain ⟨a0, a1, a2, a3, -, -, a6, a7, a8, a9, a10⟩ := HX.out w' hw'; clear hw'; go_simp; (try rfl))⟩) Yw4.out.drew ?_
          simp only [List.getElem_toArray, List.getElem_cons_zero, List.getElem_cons_succ, Act.put, List.setIfInBounds_toArray, List.set_cons_succ, List.set_cons_zero]
          refine wpAnyH_take (i := 2) rfl (by kernel_rfl) (by kernel_rfl) (by kernel_rfl) (fun _ _ _ h => h) (.inl ⟨rfl, fun w' hw' => (by obtain ⟨a0, a1, a2, a3, -, -, a6, a7, a8, a9, a10⟩ := HX.out w' hw'; clear hw'; go_simp; (try rfl))⟩) Yw4.out.drew ?_
          simp only [List.getElem_toArray, List.getElem_cons_zero, List.getElem_cons_succ, Act.put, List.setIfInBounds_toArray, List.set_cons_succ, List.set_cons_zero]
          refine wpAnyH_take (i := 3) rfl (by kernel_rfl) (by kernel_rfl) (by kernel_rfl) (fun _ _ _ h => h) (.inl ⟨rfl, fun w' hw' => (by obtain ⟨a0, a1, a2, a3, -, -, a6, a7, a8, a9, a10⟩ := HX.out w' hw'; clear hw'; go_simp; (try rfl))⟩) Yw4.out.drew ?_
          simp only [List.getElem_toArray, List.getElem_cons_zero, List.getElem_cons_succ, Act.put, List.setIfInBounds_toArray, List.set_cons_succ, List.set_cons_zero]
          refine wpAnyH_take (i := 4) rfl (by kernel_rfl) (by kernel_rfl) (by kernel_rfl) (fun _ _ _ h => h) (.inl ⟨rfl, fun w' hw' => (by obtain ⟨a0, a1, a2, a3, -, -, a6, a7, a8, a9, a10⟩ := HX.out w' hw'; clear hw'; go_simp; (try rfl))⟩) Yw4.out.drew ?_
          simp only [List.getElem_toArray, List.getElem_cons_zero, List.getElem_cons_succ, Act.put, List.setIfInBounds_toArray, List.set_cons_succ, List.set_cons_zero]
          refine wpAnyH_take (i := 5) rfl (by kernel_rfl) (by kernel_rfl) (by kernel_rfl) (fun _ _ _ h => h) (.inr ⟨rfl, rfl⟩) Yw4.out.drew ?_
          simp only [List.getElem_toArray, List.getElem_cons_zero, List.getElem_cons_succ, Act.put, List.setIfInBounds_toArray, List.set_cons_succ, List.set_cons_zero]
          refine wpAnyH_take (i := 6) rfl (by kernel_rfl) (by kernel_rfl) (by kernel_rfl) (fun _ _ _ h => h) (.inr ⟨rfl, rfl⟩) Yw4.out.drew ?_
          simp only [List.getElem_toArray, List.getElem_cons_zero, List.getElem_cons_succ, Act.put, List.setIfInBounds_toArray, List.set_cons_succ, List.set_cons_zero]
          refine wpAnyH_take (i := 7) rfl (by kernel_rfl) (by kernel_rfl) (by kernel_rfl) (fun _ _ _ h => h) (.inr ⟨rfl, rfl⟩) Yw4.out.drew ?_
          simp only [List.getElem_toArray, List.getElem_cons_zero, List.getElem_cons_succ, Act.put, List.setIfInBounds_toArray, List.set_cons_succ, List.set_cons_zero]
          refine wpAnyH_take (i := 8) rfl (by kernel_rfl) (by kernel_rfl) (by kernel_rfl) (fun _ _ _ h => h) (.inr ⟨rfl, rfl⟩) Yw4.out.drew ?_
          simp only [List.getElem_toArray, List.getElem_cons_zero, List.getElem_cons_succ, Act.put, List.setIfInBounds_toArray, List.set_cons_succ, List.set_cons_zero]
          refine wpAnyH_take (i := 9) rfl (by kernel_rfl) (by kernel_rfl) (by kernel_rfl) (fun _ _ _ h => h) (.inr ⟨rfl, rfl⟩) Yw4.out.drew ?_
          simp only [List.getElem_toArray, List.getElem_cons_zero, List.getElem_cons_succ, Act.put, List.setIfInBounds_toArray, List.set_cons_succ, List.set_cons_zero]
          refine wpAnyH_take (i := 10) rfl (by kernel_rfl) (by kernel_rfl) (by kernel_rfl) (fun _ _ _ h => h) (.inr ⟨rfl, rfl⟩) Yw4.out.drew ?_
          simp only [List.getElem_toArray, List.getElem_cons_zero, List.getElem_cons_succ, Act.put, List.setIfInBounds_toArray, List.set_cons_succ, List.set_cons_zero]
          refine wpAnyH_take (i := 11) rfl (by kernel_rfl) (by kernel_rfl) (by kernel_rfl) (fun _ _ _ h => h) (.inr ⟨rfl, rfl⟩) Yw4.out.drew ?_
          simp only [List.getElem_toArray, List.getElem_cons_zero, List.getElem_cons_succ, Act.put, List.setIfInBounds_toArray, List.set_cons_succ, List.set_cons_zero]
          refine wpAnyH_take (i := 12) rfl (by kernel_rfl) (by kernel_rfl) (by kernel_rfl) (fun _ _ _ h => h) (.inr ⟨rfl, rfl⟩) Yw4.out.drew ?_
          simp only [List.getElem_toArray, List.getElem_cons_zero, List.getElem_cons_succ, Act.put, List.setIfInBounds_toArray, List.set_cons_succ, List.set_cons_zero]
          refine wpAnyH_take (i := 13) rfl (by kernel_rfl) (by kernel_rfl) (by kernel_rfl) (fun _ _ _ h => h) (.inr ⟨rfl, rfl⟩) Yw4.out.drew ?_
          simp only [List.getElem_toArray, List.getElem_cons_zero, List.getElem_cons_succ, Act.put, List.setIfInBounds_toArray, List.set_cons_succ, List.set_cons_zero]
          refine wpAnyH_take (i := 14) rfl (by kernel_rfl) (by kernel_rfl) (by kernel_rfl) (fun _ _ _ h => h) (.inl ⟨rfl, fun w' hw' => (by clear hw'; go_simp; (try rfl))⟩) Yw4.out.drew ?_
          simp only [List.getElem_toArray, List.getElem_cons_zero, List.getElem_cons_succ, Act.put, List.setIfInBounds_toArray, List.set_cons_succ, List.set_cons_zero]
          refine wpAnyH_take (i := 15) rfl (by kernel_rfl) (by kernel_rfl) (by kernel_rfl) (fun _ _ _ h => h) (.inl ⟨rfl, fun w' hw' => (by clear hw'; go_simp; (try rfl))⟩) Yw4.out.drew ?_
          simp only [List.getElem_toArray, List.getElem_cons_zero, List.getElem_cons_succ, Act.put, List.setIfInBounds_toArray, List.set_cons_succ, List.set_cons_zero]
          refine wpAnyH_take (i := 16) rfl (by kernel_rfl) (by kernel_rfl) (by kernel_rfl) (fun _ _ _ h => h) (.inr ⟨rfl, rfl⟩) Yw4.out.drew ?_
          simp only [List.getElem_toArray, List.getElem_cons_zero, List.getElem_cons_succ, Act.put, List.setIfInBounds_toArray, List.set_cons_succ, List.set_cons_zero]
          refine wpAnyH_take (i := 17) rfl (by kernel_rfl) (by kernel_rfl) (by kernel_rfl) (fun _ _ _ h => h) (.inr ⟨rfl, rfl⟩) Yw4.out.drew ?_
          simp only [List.getElem_toArray, List.getElem_cons_zero, List.getElem_cons_succ, Act.put, List.setIfInBounds_toArray, List.set_cons_succ, List.set_cons_zero]
          refine wpAnyH_take (i := 18) rfl (by kernel_rfl) (by kernel_rfl) (by kernel_rfl) (fun _ _ _ h => h) (.inr ⟨rfl, rfl⟩) Yw4.out.drew ?_
          simp only [List.getElem_toArray, List.getElem_cons_zero, List.getElem_cons_succ, Act.put, List.setIfInBounds_toArray, List.set_cons_succ, List.set_cons_zero]
          refine wpAnyH_take (i := 19) rfl (by kernel_rfl) (by kernel_rfl) (by kernel_rfl) (fun _ _ _ h => h) (.inl ⟨rfl, fun w' hw' => (by clear hw'; go_simp; (try rfl))⟩) Yw4.out.drew ?_
          simp only [List.getElem_toArray, List.getElem_cons_zero, List.getElem_cons_succ, Act.put, List.setIfInBounds_toArray, List.set_cons_succ, List.set_cons_zero]
          refine wpAnyH_take (i := 20) rfl (by kernel_rfl) (by kernel_rfl) (by kernel_rfl) (fun _ _ _ h => h) (.inl ⟨rfl, fun w' hw' => (by clear hw'; go_simp; (try rfl))⟩) Yw4.out.drew ?_
          simp only [List.getElem_toArray, List.getElem_cons_zero, List.getElem_cons_succ, Act.put, List.setIfInBounds_toArray, List.set_cons_succ, List.set_cons_zero]
          refine wpAnyH_done (by kernel_rfl) ?_ _
          refine NoPanic.normal ?_
          have GE9 : Hid (Below w.heap.size w w4.drew) := Lib.hid GE.out.drew
          go_wp2_with fail
          go_ret
          exact ⟨by rw [HF.out, HS.out]; rfl, GE9.out⟩
      · have d3 : (x.style == 3) = false := by simp [K3]
        have HS : Hid (sq = false) := Lib.hid (by rw [← HSQ.out]; exact styleW_0 K1 K2 K3)
        go_wp2_with fail
        go_ret
        exact ⟨by rw [HF.out, HS.out]; rfl, GE.out⟩
end Go.Proofs.YtcofkhmgmemkmaaGreatDoor
