/-
  STAGE 6's REFERENCE: whose fields are right is what the program asks (pure).
  STAGE 6's REFERENCE: the bytes, what is right, the Id.
  STAGE 6: rows of objects that come in.
  STAGE 6's LAW: whether two rows of Ids are the same.
  STAGE 6's LAW: an object cut short is small (pure); two objects' boxes beside two calls; a row of Ids that is written over.
-/
import Derived.Test.YtnkhoghdfncgpaaGreatDoorK51
import Derived.Test.YtnkhoghdfncgpaaGreatDoorK34
import Derived.Test.YtnkhoghdfncgpaaGreatDoorK21
import Derived.Test.YtnkhoghdfncgpaaGreatDoorK45
import Derived.Test.YtnkhoghdfncgpaaGreatDoorK28
import Derived.Test.YtnkhoghdfncgpaaGreatDoorK38
namespace Go.Proofs.YtnkhoghdfncgpaaGreatDoor
set_option linter.unusedVariables false
set_option linter.unusedSimpArgs false
open Go.RowKit Go.WideShapes Go.ChangeShapes Go.Deep Go.Shelf

theorem len0 {α : Type} (l : List α) : (l.length == 0) = true ↔ l = [] := by rw [beq_iff_eq]; exact List.length_eq_zero_iff
theorem sameLs_nil (l : List Lf) : sameLs l [] = (l.length == 0) := by
  rw [Bool.eq_iff_iff, len0]
  constructor
  · intro h
    unfold sameLs at h
    exact List.length_eq_zero_iff.1 (of_decide_eq_true h).1
  · rintro rfl
    exact sameLs_refl []
theorem sameI_nil (l : List Idv) : sameI l [] = (l.length == 0) := by
  rw [Bool.eq_iff_iff, len0]
  constructor
  · intro h
    unfold sameI at h
    have := of_decide_eq_true h
    simpa using this
  · rintro rfl
    exact sameI_refl []
theorem sameE_nil (l : List Ch) : sameE l [] = (l.length == 0) := by
  rw [Bool.eq_iff_iff, len0]
  constructor
  · intro h
    unfold sameE at h
    exact List.length_eq_zero_iff.1 (of_decide_eq_true h).1
  · rintro rfl
    exact sameE_refl []
theorem none_list : (⟨#[]⟩ : ByteArray).toList = [] := by rw [ByteArray.toList_eq]

theorem treeW_leaves (l : List Lf) : treeW l = (leavesR l && decide ((l.length : Int) ≤ 32)) := by
  rw [Bool.eq_iff_iff]
  unfold treeW
  rw [Bool.and_eq_true, Bool.and_eq_true, rightR_iff, List.all_eq_true, decide_eq_true_iff]
  have hrl : (rowsL l).length = l.length := by unfold rowsL; simp
  have hg : ∀ j (hj : j < l.length) (hj' : j < (rowsL l).length), (rowsL l)[j] = rowL l[j] := fun j hj hj' => List.getElem_map (l := l) (i := j) (h := hj') rowL
  have hfit : ∀ x : Lf, fitP (rowL x).p (rowL x).t = pathW x.p := fun x => by rw [fitP_path]; exact Bool.and_true _
  rw [show (leavesR l = true) ↔ LvOk l l.length from by unfold leavesR; classical exact decide_eq_true_iff]
  constructor
  · rintro ⟨h1, h2, h3, h4⟩
    refine ⟨⟨fun j hj _ => ⟨?_, ?_⟩, fun j hj _ => ?_⟩, by omega⟩
    · have := h3 j (by omega)
      rw [hg j hj, hfit] at this
      exact this
    · have := h1 _ (List.getElem_mem hj)
      simpa using this
    · have := h4 j (by omega)
      rw [hg j (by omega), hg (j + 1) hj] at this
      exact this
  · rintro ⟨⟨h1, h2⟩, h3⟩
    refine ⟨fun x hx => ?_, by omega, fun j hj => ?_, fun j hj => ?_⟩
    · obtain ⟨j, hj, rfl⟩ := List.getElem_of_mem hx
      rw [(h1 j hj hj).2]
      rfl
    · rw [hg j (by omega), hfit]
      exact (h1 j (by omega) (by omega)).1
    · rw [hg j (by omega), hg (j + 1) (by omega)]
      exact h2 j (by omega) (by omega)

theorem fieldsR_is (x : Ov) : fieldsR x = (bareO x && soundW x) := by
  unfold fieldsR bareO soundW
  by_cases K1 : x.kind = 1
  · rw [if_pos K1, if_pos K1]
    unfold cntO sameO noneR
    rw [if_pos K1]
    simp only [kOv, zOv, sameLs_nil, sameI_nil, sameE_nil, none_list, beq_self_eq_true, Bool.true_and]
    ac_rfl
  rw [if_neg K1, if_neg K1]
  by_cases K2 : x.kind = 2
  · rw [if_pos K2, if_pos K2, treeW_leaves]
    unfold cntO sameO noneR
    rw [if_neg K1, if_pos K2]
    simp only [kOv, zOv, sameLs_refl, sameI_nil, sameE_nil, none_list, beq_self_eq_true, Bool.true_and, Bool.and_true]
    ac_rfl
  rw [if_neg K2, if_neg K2]
  by_cases K3 : x.kind = 3
  · rw [if_pos K3, if_pos K3]
    unfold cntO sameO comW style6R
    rw [if_neg K1, if_neg K2, if_pos K3]
    have hn : (!decide (200 < (x.note.size : Int))) = decide ((x.note.size : Int) ≤ 200) := by
      rw [Bool.eq_iff_iff]
      simp
    simp only [hn, kOv, zOv, sameLs_nil, sameI_refl, sameE_refl, none_list, beq_self_eq_true, Bool.true_and, Bool.and_true]
    ac_rfl
  · rw [if_neg K3, if_neg K3, Bool.and_false]
end Go.Proofs.YtnkhoghdfncgpaaGreatDoor
namespace Go.Proofs.YtnkhoghdfncgpaaGreatDoor
set_option linter.unusedVariables false
set_option linter.unusedSimpArgs false
open Go.RowKit Go.WideShapes Go.ChangeShapes Go.Deep Go.Shelf
attribute [local irreducible] wpQuiet

theorem bytes6_any {w : World} {x : Ov} {L P E : Sl} (h : Obj3 w w.heap.size x L P E) (hs : layW x) :
    Calls Tryz.prog 15 #[ofV (x.at_ L P E)] w fun e w' => (∃ A n c, e = .returned (.slice A n c) ∧ OwnB w' w.heap.size A n c (bytesW x)) ∧ Below w.heap.size w w' := by
  rcases hs with ⟨k, hs⟩ | ⟨k, hs⟩ | ⟨k, hs⟩
  · exact bytes6_blob h k hs
  · exact bytes6_tree h k hs
  · exact bytes6_com h k (com_ok hs h.p.len h.e.len)
set_option maxRecDepth 100000 in
set_option maxHeartbeats 4000000 in
theorem right6_any {w : World} {x : Ov} {L P E : Sl} (h : Obj3 w w.heap.size x L P E) (hm : Lim L P E) (hlp : ∀ l ∈ x.lv, l.p.size ≤ 1000000) (hep : ∀ r ∈ x.es, r.p.size ≤ 1000000) :
    Calls Tryz.prog 13 #[ofV (x.at_ L P E)] w fun e w' => e = .returned (.bool (okW x)) ∧ Below w.heap.size w w' := by
  obtain ⟨ox, w1, hb⟩ := Bxo.mk_ w x L P E
  have HB := Lib.hid hb
  rw [hb.eq]
  have HL : Hid (∀ W, Below w.heap.size w W → Obj3 W W.heap.size x L P E) := Lib.hid fun W hW => (h.below hW).more hW.size
  have C1 : Hid (∀ W, Below w.heap.size w W → Calls Tryz.prog 33 #[ofV ox] W fun e w' => e = .returned (.bool (fieldsR x)) ∧ Below W.heap.size W w') := Lib.hid fun W hW => by
    rw [← hb.eq]; exact fields6_any (HL.out W hW) hm hlp hep
  have C2 : Hid (∀ W, Below w.heap.size w W → fieldsR x = true → Calls Tryz.prog 15 #[ofV ox] W fun e w' => (∃ A n c, e = .returned (.slice A n c) ∧ OwnB w' W.heap.size A n c (bytesW x)) ∧ Below W.heap.size W w') := Lib.hid fun W hW hs => by
    rw [← hb.eq]; exact bytes6_any (HL.out W hW) (layW_of (by rw [fieldsR_is, Bool.and_eq_true] at hs; exact hs.2))
  obtain ⟨q0, h0⟩ : ∃ q, fieldsR x = q := ⟨_, rfl⟩
  obtain ⟨q2, h2⟩ : ∃ q, decide (((bytesW x).length : Int) ≤ 800) = q := ⟨_, rfl⟩
  obtain ⟨cq, hcq⟩ : ∃ q, okW x = q := ⟨_, rfl⟩
  have HF : Hid (cq = (q0 && q2)) := Lib.hid (by
    rw [← hcq, ← h0, ← h2, fieldsR_is]
    unfold okW
    congr 1
    rw [Bool.eq_iff_iff]
    simp)
  rw [h0] at C1 C2
  rw [hcq]
  have H2 := Lib.hid h2
  clear h hb h0 h2 hcq hlp hep
  go_enter Tryz.func13, Tryz.ntmps13
  go_upto_region 1 with fail
  rw [HB.out.al]
  have B1 := Lib.hid HB.out.bl
  have RG : Hid (∀ W, Below w1.heap.size w1 W → W.rangeAt w.heap.size 0 ox.cells) := Lib.hid fun W hW => HB.out.rg hW
  go_wp2_with (first
    | ((with_reducible refine ldo (.tmp 1) ?_ ?_ w.heap.size 0 ox ?_ (RG.out w1 (Below.refl _ _)) ?_); rfl; (first | rfl | go_simp); (first | rfl | go_simp))
    | fail)
  refine (C1.out w1 B1.out).mono ?_
  rintro e w2 ⟨rfl, hb⟩
  dsimp only
  have Y2 : Hid (Below w1.heap.size w1 w2) := Lib.hid hb
  have B2 := Lib.hid (B1.out.trans (hb.mono B1.out.size))
  clear hb
  cases q0
  · go_wp2_with fail
    go_ret
    exact ⟨by rw [HF.out]; rfl, B2.out⟩
  go_wp2_with (first
    | ((with_reducible refine ldo (.tmp 1) ?_ ?_ w.heap.size 0 ox ?_ (RG.out w2 Y2.out) ?_); rfl; (first | rfl | go_simp); (first | rfl | go_simp))
    | fail)
  refine (C2.out w2 B2.out (by first | rfl | trivial)).mono ?_
  rintro e w4 ⟨⟨A, n, c, rfl, own⟩, hb⟩
  dsimp only
  have B4 := Lib.hid (B2.out.trans (hb.mono B2.out.size))
  have hn : (bytesW x).length = n := own.sl.len
  have h2 := H2.out
  rw [hn] at h2
  clear hb own hn
  cases q2
  · go_wp2_with fail
    go_ret
    exact ⟨by rw [HF.out]; rfl, B4.out⟩
  · go_wp2_with fail
    go_ret
    exact ⟨by rw [HF.out]; rfl, B4.out⟩
set_option maxRecDepth 100000 in
set_option maxHeartbeats 4000000 in
theorem id6_any {w : World} {x : Ov} {L P E : Sl} (h : Obj3 w w.heap.size x L P E) (hs : layW x) (hn : (bytesW x).length ≤ 800) :
    Calls Tryz.prog 16 #[ofV (x.at_ L P E)] w fun e w' => e = .returned (idV (idW x)) ∧ Below w.heap.size w w' := by
  obtain ⟨ox, w1, hb⟩ := Bxo.mk_ w x L P E
  have HB := Lib.hid hb
  rw [hb.eq]
  have HL : Hid (∀ W, Below w.heap.size w W → Obj3 W W.heap.size x L P E) := Lib.hid fun W hW => (h.below hW).more hW.size
  have C2 : Hid (∀ W, Below w.heap.size w W → Calls Tryz.prog 15 #[ofV ox] W fun e w' => (∃ A n c, e = .returned (.slice A n c) ∧ OwnB w' W.heap.size A n c (bytesW x)) ∧ Below W.heap.size W w') := Lib.hid fun W hW => by
    rw [← hb.eq]; exact bytes6_any (HL.out W hW) hs
  obtain ⟨zI, hzI⟩ : ∃ z, Idv.zero = z := ⟨_, rfl⟩
  have ZZ : Hid (∀ w : World, (zeroValue 26).run Tryz.prog w = .ok (.agg zI.cells.toArray) w) := Lib.hid (by rw [← hzI]; exact zero_id)
  obtain ⟨xi, hxi⟩ : ∃ i, idW x = i := ⟨_, rfl⟩
  have HXI : Hid (.agg (S3.bvs (S3.sumW (bytesW x))).toArray = idV xi) := Lib.hid (by rw [← hxi]; rfl)
  rw [hxi]
  obtain ⟨wB, hwB⟩ : ∃ wB, w1.alloc (.cells zI.cells.toArray 26) = wB := ⟨_, rfl⟩
  have YB : Hid (Lies wB w1.heap.size 32 zI.cells) := Lib.hid (by
    rw [← hwB]
    have := Lies.new w1 zI.cells 26
    rwa [id_sz] at this)
  have B1 : Hid (Below w1.heap.size w1 wB) := Lib.hid (by rw [← hwB]; exact (Below.refl _ _).alloc (Nat.le_refl _) _)
  have HWB := Lib.hid hwB
  have BB : Hid (Below w.heap.size w wB) := Lib.hid (HB.out.bl.trans (B1.out.mono HB.out.bl.size))
  have RG : Hid (∀ W, Below w1.heap.size w1 W → W.rangeAt w.heap.size 0 ox.cells) := Lib.hid fun W hW => HB.out.rg hW
  have HSZ : Hid (w1.heap.size = w.heap.size + 1) := Lib.hid HB.out.sz
  have HZB : Hid (wB.heap.size = w1.heap.size + 1) := Lib.hid (by rw [← hwB]; simp)
  have HN := Lib.hid hn
  clear h hb hzI hxi hwB hn
  go_enter Tryz.func16, Tryz.ntmps16
  have hsz := HSZ.out
  go_upto_region 1 with (first
    | ((with_reducible refine alt 26 ?_ ?_ zI.cells ZZ.out ?_); rfl; rfl; rw [HB.out.al, HWB.out]; (try simp only [Act.put, List.setIfInBounds_toArray, List.set_cons_succ, List.set_cons_zero]))
    | fail)
  go_wp2_with (first
    | ((with_reducible refine ldo (.tmp 1) ?_ ?_ w.heap.size 0 ox ?_ (RG.out wB B1.out) ?_); rfl; (first | rfl | go_simp); (first | rfl | go_simp))
    | fail)
  refine (C2.out wB BB.out).mono ?_
  rintro e w2 ⟨⟨A, n, c, rfl, own⟩, hb⟩
  dsimp only
  have BB2 := Lib.hid (BB.out.trans (hb.mono BB.out.size))
  have Y2 : Hid (Lies w2 w1.heap.size 32 zI.cells) := Lib.hid (YB.out.below hb (by rw [HZB.out]; omega))
  have hn : (bytesW x).length = n := own.sl.len
  have SL := Lib.hid own.sl
  have hn8 : n ≤ 800 := by have := HN.out; omega
  clear hb own hn
  go_wp2_with fail
  refine (S3.sum_ref SL.out (Nat.le_refl _) hn8).mono ?_
  rintro e w3 ⟨rfl, hb⟩
  rw [HXI.out]
  dsimp only
  have BB3 := Lib.hid (BB2.out.trans (hb.mono BB2.out.size))
  have Y3 : Hid (Lies w3 w1.heap.size 32 zI.cells) := Lib.hid (Y2.out.below hb (by have := Y2.out.lt; omega))
  have T3 := Lib.hid Y3.out.th
  obtain ⟨w4, hw4⟩ : ∃ w4, w3.setCells w1.heap.size 0 xi.cells = w4 := ⟨_, rfl⟩
  have N4 : Hid (w4.rangeAt w1.heap.size 0 xi.cells) := Lib.hid (by rw [← hw4]; exact (Y3.out.set_ (id_sz _)).rg)
  have B4 : Hid (Below w.heap.size w w4) := Lib.hid (by rw [← hw4]; exact below_setCells BB3.out (by omega) _ _)
  have HW4 := Lib.hid hw4
  clear hw4 hb
  go_wp2_with (first
    | ((with_reducible refine sti (.tmp 2) (.tmp 5) ?_ ?_ w1.heap.size 0 xi ?_ ?_ T3.out ?_); rfl; rfl; (first | rfl | go_simp); rfl; rw [HW4.out])
    | fail)
  refine bodyPost_ret (S3.res_id rfl _ _ w1.heap.size xi.b xi.h (by rw [hsz]; rfl) N4.out) rfl ⟨rfl, B4.out⟩
end Go.Proofs.YtnkhoghdfncgpaaGreatDoor
namespace Go.Proofs.YtnkhoghdfncgpaaGreatDoor
set_option linter.unusedVariables false
set_option linter.unusedSimpArgs false
open Go.RowKit Go.WideShapes Go.ChangeShapes Go.Deep Go.Shelf
section
variable {H : Type} {enc : TypeId × Value → H} {W : World}
set_option maxRecDepth 100000 in
set_option maxHeartbeats 1000000 in
theorem obj_el {fuel : Nat} {cs : List Value} {y : DataW H × List MemPlace} (hcl : cs.length = 73) (hf : DataW.trod enc Tryz.prog W 0 (fun _ => true) true fuel 33 cs = some y) :
    ∃ x L P E, cs = (Ov.at_ x L P E).cells ∧ Obj3 W W.heap.size x L P E := by
  have hC : Tryz.prog.cellsOf 33 = 73 := by kernel_rfl
  obtain ⟨xs, n, _, _, hl, hlen, hfs⟩ := DataW.trod_struct Tryz.underlying33 hf
  have k2 : Tryz.prog.cellsOf 24 = 1 := by kernel_rfl
  have k6 : Tryz.prog.cellsOf 27 = 1 := by kernel_rfl
  have k7 : Tryz.prog.cellsOf 30 = 1 := by kernel_rfl
  have k8 : Tryz.prog.cellsOf 28 = 1 := by kernel_rfl
  have k9 : Tryz.prog.cellsOf 31 = 1 := by kernel_rfl
  have k10 : Tryz.prog.cellsOf 3 = 1 := by kernel_rfl
  obtain ⟨y0, y1, y2, y3, y4, y5, y6, y7, y8, y9, y10, rfl⟩ : ∃ y0 y1 y2 y3 y4 y5 y6 y7 y8 y9 y10, xs = [y0, y1, y2, y3, y4, y5, y6, y7, y8, y9, y10] := by
    match xs, hlen with
    | [y0, y1, y2, y3, y4, y5, y6, y7, y8, y9, y10], _ => exact ⟨y0, y1, y2, y3, y4, y5, y6, y7, y8, y9, y10, rfl⟩
  have f0 := hfs 0 _ rfl
  have f1 := hfs 1 _ rfl
  have f2 := hfs 2 _ rfl
  have f3 := hfs 3 _ rfl
  have f4 := hfs 4 _ rfl
  have f5 := hfs 5 _ rfl
  have f6 := hfs 6 _ rfl
  have f7 := hfs 7 _ rfl
  have f8 := hfs 8 _ rfl
  have f9 := hfs 9 _ rfl
  have f10 := hfs 10 _ rfl
  clear hfs
  simp only [Value.cells, List.getElem?_cons_zero, List.getElem?_cons_succ, List.getElem_toArray, List.getElem_cons_zero, List.getElem_cons_succ, cells_str, cells_id, k2, k6, k7, k9, k10] at f0 f1 f2 f3 f4 f5 f6 f7 f8 f9 f10
  obtain ⟨a0, e0, _, w0⟩ := DataW.trod_int Tryz.underlying3 f0
  obtain ⟨a1, e1, _, _⟩ := DataW.trod_string Tryz.underlying9 f1
  obtain ⟨a3, e3, _, w3⟩ := DataW.trod_int Tryz.underlying3 f3
  obtain ⟨a4, l4, e4⟩ := arr8_el Tryz.underlying26 cells_id f4
  obtain ⟨a5, l5, e5⟩ := arr8_el Tryz.underlying26 cells_id f5
  obtain ⟨a8, e8, _, w8⟩ := DataW.trod_int Tryz.underlying31 f8
  obtain ⟨a9, e9, _, w9⟩ := DataW.trod_int Tryz.underlying31 f9
  obtain ⟨a10, e10, _, _⟩ := DataW.trod_string Tryz.underlying9 f10
  have one : ∀ k, k < 73 → ∃ c, (cs.drop k).take 1 = [c] := fun k hk => by
    exact List.length_eq_one_iff.1 (by rw [List.length_take, List.length_drop, hcl]; omega)
  obtain ⟨c2, e2⟩ := one 2 (by omega)
  obtain ⟨c6, e6⟩ := one 68 (by omega)
  obtain ⟨c7, e7⟩ := one 69 (by omega)
  rw [e2] at f2
  rw [e6] at f6
  rw [e7] at f7
  obtain ⟨AL, nL, cL, L, rfl, hL⟩ := leaves_arg f2
  obtain ⟨AP, nP, cP, P, rfl, hP⟩ := ids_arg f6
  obtain ⟨z0, n', _, _, g0⟩ := trod_struct1 Tryz.underlying30 f7
  simp only [k8, List.drop_zero, List.take_succ_cons, List.take_zero] at g0
  obtain ⟨AE, nE, cE, E, rfl, hE⟩ := changes_arg g0
  have b0 := bounds_i64 w0
  have b3 := bounds_i64 w3
  have b8 := bounds_u32 w8
  have b9 := bounds_u32 w9
  refine ⟨⟨a0, a1, L, a3, ⟨a4, l4⟩, ⟨a5, l5⟩, P, E, a8.toNat, a9.toNat, a10⟩, ⟨AL, nL, cL⟩, ⟨AP, nP, cP⟩, ⟨AE, nE, cE⟩, ?_, hL, hP, hE, b0, b3, by show a8.toNat < _; omega, by show a9.toNat < _; omega⟩
  have hall : cs = Of.cells (Ov.at_ ⟨a0, a1, L, a3, ⟨a4, l4⟩, ⟨a5, l5⟩, P, E, a8.toNat, a9.toNat, a10⟩ ⟨AL, nL, cL⟩ ⟨AP, nP, cP⟩ ⟨AE, nE, cE⟩) := by
    have hlen := hcl
    have s0 := split_at cs 0 1
    have s1 := split_at cs 1 1
    have s2 := split_at cs 2 1
    have s3 := split_at cs 3 1
    have s4 := split_at cs 4 32
    have s5 := split_at cs 36 32
    have s6 := split_at cs 68 1
    have s7 := split_at cs 69 1
    have s8 := split_at cs 70 1
    have s9 := split_at cs 71 1
    have s10 := split_at cs 72 1
    have s11 : cs.drop 73 = [] := List.drop_eq_nil_of_le (by omega)
    rw [s11] at s10
    simp only [Nat.reduceAdd, List.drop_zero] at s0 s1 s2 s3 s4 s5 s6 s7 s8 s9 s10
    rw [List.drop_zero] at e0
    rw [s0, s1, s2, s3, s4, s5, s6, s7, s8, s9, s10, e0, e1, e2, e3, e4, e5, e6, e7, e8, e9, e10]
    unfold Of.cells Ov.at_
    rw [show ((a8.toNat : Nat) : Int) = a8 by omega, show ((a9.toNat : Nat) : Int) = a9 by omega]
    simp
  exact hall
/-- A row of objects that came in, each with its lists. -/
def InO (W : World) : Type := { o : Of // ∃ x L P E, o = Ov.at_ x L P E ∧ Obj3 W W.heap.size x L P E }
theorem cells_obj : Tryz.prog.cellsOf 33 = 73 := by kernel_rfl
theorem objs_arg {fuel : Nat} {v : Value} {x : DataW H × List MemPlace} (hf : DataW.trod enc Tryz.prog W 0 (fun _ => true) true fuel 22 [v] = some x) :
    ∃ A n c l, v = .slice A n c ∧ Sq (fun o : InO W => o.1.cells) 73 W W.heap.size A n c l :=
  slice_arg (fun o : InO W => o.1.cells) 73 (by omega) (fun o => of_sz o.1) Tryz.underlying22 cells_obj hf fun n cs y hcl h => by
    obtain ⟨x, L, P, E, e, ho⟩ := obj_el hcl h
    exact ⟨⟨_, x, L, P, E, rfl, ho⟩, e⟩
end
end Go.Proofs.YtnkhoghdfncgpaaGreatDoor
namespace Go.Proofs.YtnkhoghdfncgpaaGreatDoor
set_option linter.unusedVariables false
set_option linter.unusedSimpArgs false
open Go.RowKit Go.WideShapes Go.ChangeShapes Go.Deep

set_option maxRecDepth 100000 in
set_option maxHeartbeats 2000000 in
theorem same6I_any {w : World} {A : Option Addr} {n c : Nat} {l : List Idv} (h : SqI w w.heap.size A n c l) {A' : Option Addr} {n' c' : Nat} {l' : List Idv} (h' : SqI w w.heap.size A' n' c' l') (hn : n ≤ 1000000) :
    Calls Tryz.prog 17 #[.slice A n c, .slice A' n' c'] w fun e w' => e = .returned (.bool (sameI l l')) ∧ Below w.heap.size w w' := by
  have HS := Lib.hid h
  have HS' := Lib.hid h'
  have hl := h.len
  have hl' := h'.len
  clear h h'
  obtain ⟨sq, hsq⟩ : ∃ sq, sameI l l' = sq := ⟨_, rfl⟩
  have HSQ := Lib.hid hsq
  rw [hsq]
  clear hsq
  go_enter Tryz.func17, Tryz.ntmps17
  by_cases hnn : n = n'
  · subst hnn
    have dn : ((n : Int) == (n : Int)) = true := by simp
    go_wp2
    go_loopw [13] (fun i wr => ∃ k : Nat, k ≤ n ∧ i = .int .i64 (k : Int) ∧ Hid (∀ j (hk : j < k) (hj : j < l.length) (hj' : j < l'.length), l[j].b = l'[j].b) ∧ Hid (Below w.heap.size w wr)) (fun i _ => n - (intOf i).toNat)
    case atStart => exact ⟨0, Nat.zero_le _, rfl, Lib.hid (fun j hj => absurd hj (by omega)), Lib.hid (Below.refl _ _)⟩
    case round =>
      obtain ⟨k, hk, rfl, hg, hb⟩ := hrel
      by_cases hlt : k < n
      · have hd : decide ((k : Int) < (n : Int)) = true := by simp; omega
        have hk0 : (0 : Int) ≤ (k : Int) := Int.natCast_nonneg _
        have hk1 : (k : Int) < (n : Int) := by omega
        obtain ⟨b, o, rfl, hbl, hrg⟩ := (HS.out.below hb.out).at_ hlt
        obtain ⟨b', o', rfl, hbl', hrg'⟩ := (HS'.out.below hb.out).at_ (show k < n by omega)
        obtain ⟨r, hr⟩ : ∃ r, l[k]'(by omega) = r := ⟨_, rfl⟩
        obtain ⟨r', hr'⟩ : ∃ r', l'[k]'(by omega) = r' := ⟨_, rfl⟩
        rw [hr] at hrg
        rw [hr'] at hrg'
        have hne := fun w => eq_id r r' w
        have hgd := id_guard
        obtain ⟨q, hq⟩ : ∃ q, (r.b == r'.b) = q := ⟨_, rfl⟩
        rw [hq] at hne
        have YES : Hid (q = true → ∀ j (hk : j < k + 1) (hj : j < l.length) (hj' : j < l'.length), l[j].b = l'[j].b) := Lib.hid (fun h1 j hjk hj hj' => by
          by_cases e : j = k
          · subst e; rw [hr, hr']; rw [h1] at hq; exact by simpa using hq
          · exact hg.out j (by omega) hj hj')
        have NO : Hid (q = false → sq = false) := Lib.hid (fun h1 => by
          rw [← HSQ.out]
          exact sameI_not (j := k) (by omega) (by omega) (by rw [hr, hr']; rw [h1] at hq; simpa using hq))
        clear hr hr' hq
        go_upto_region 6 with fail
        refine wp_region_noPanic ?_
        refine wp_region_held_drew (S := (fun w' => w'.rangeAt b (o + k * 32) r.cells ∧ w'.rangeAt b' (o' + k * 32) r'.cells ∧ w'.heap.size = wr.heap.size ∧ Below w.heap.size w w')) (by kernel_rfl) ⟨hrg, hrg', rfl, hb.out.drew⟩ (fun _ => ?_)
        refine wpAnyH_take (i := 0) rfl (by kernel_rfl) (by kernel_rfl) (by kernel_rfl) (fun _ _ _ h => h) (.inl ⟨rfl, fun w' hw' => (by clear hw'; go_simp; (try rfl))⟩) ⟨hrg, hrg', rfl, hb.out.drew⟩ ?_
        simp only [List.getElem_toArray, List.getElem_cons_zero, List.getElem_cons_succ, Act.put, List.setIfInBounds_toArray, List.set_cons_succ, List.set_cons_zero]
        refine wpAnyH_take (i := 1) rfl (by kernel_rfl) (by kernel_rfl) (by kernel_rfl) (fun _ _ _ h => h) (.inl ⟨rfl, fun w' hw' => (by clear hw'; go_simp; (try rfl))⟩) ⟨hrg, hrg', rfl, hb.out.drew⟩ ?_
        simp only [List.getElem_toArray, List.getElem_cons_zero, List.getElem_cons_succ, Act.put, List.setIfInBounds_toArray, List.set_cons_succ, List.set_cons_zero]
        refine wpAnyH_take (i := 2) rfl (by kernel_rfl) (by kernel_rfl) (by kernel_rfl) (fun _ _ _ h => h) (.inl ⟨rfl, fun w' hw' => (by clear hw'; go_simp; (try rfl))⟩) ⟨hrg, hrg', rfl, hb.out.drew⟩ ?_
        simp only [List.getElem_toArray, List.getElem_cons_zero, List.getElem_cons_succ, Act.put, List.setIfInBounds_toArray, List.set_cons_succ, List.set_cons_zero]
        refine wpAnyH_take (i := 3) rfl (by kernel_rfl) (by kernel_rfl) (by kernel_rfl) (fun _ _ _ h => h) (yieldsIf_load_mid rfl 26 _ rfl (b) ((o + k * 32)) rfl (r.cells) _ (fun w' hw' => hw'.1) Tryz.underlying26 rfl (by rw [id_sz]; exact size_idv)) ⟨hrg, hrg', rfl, hb.out.drew⟩ ?_
        simp only [List.getElem_toArray, List.getElem_cons_zero, List.getElem_cons_succ, Act.put, List.setIfInBounds_toArray, List.set_cons_succ, List.set_cons_zero]
        refine wpAnyH_take (i := 4) rfl (by kernel_rfl) (by kernel_rfl) (by kernel_rfl) (fun _ _ _ h => h) (.inl ⟨rfl, fun w' hw' => (by clear hw'; go_simp; (try rfl))⟩) ⟨hrg, hrg', rfl, hb.out.drew⟩ ?_
        simp only [List.getElem_toArray, List.getElem_cons_zero, List.getElem_cons_succ, Act.put, List.setIfInBounds_toArray, List.set_cons_succ, List.set_cons_zero]
        refine wpAnyH_take (i := 5) rfl (by kernel_rfl) (by kernel_rfl) (by kernel_rfl) (fun _ _ _ h => h) (.inl ⟨rfl, fun w' hw' => (by clear hw'; go_simp; (try rfl))⟩) ⟨hrg, hrg', rfl, hb.out.drew⟩ ?_
        simp only [List.getElem_toArray, List.getElem_cons_zero, List.getElem_cons_succ, Act.put, List.setIfInBounds_toArray, List.set_cons_succ, List.set_cons_zero]
        refine wpAnyH_take (i := 6) rfl (by kernel_rfl) (by kernel_rfl) (by kernel_rfl) (fun _ _ _ h => h) (.inl ⟨rfl, fun w' hw' => (by clear hw'; go_simp; (try rfl))⟩) ⟨hrg, hrg', rfl, hb.out.drew⟩ ?_
        simp only [List.getElem_toArray, List.getElem_cons_zero, List.getElem_cons_succ, Act.put, List.setIfInBounds_toArray, List.set_cons_succ, List.set_cons_zero]
        refine wpAnyH_take (i := 7) rfl (by kernel_rfl) (by kernel_rfl) (by kernel_rfl) (fun _ _ _ h => h) (yieldsIf_load_mid rfl 26 _ rfl (b') ((o' + k * 32)) rfl (r'.cells) _ (fun w' hw' => hw'.2.1) Tryz.underlying26 rfl (by rw [id_sz]; exact size_idv)) ⟨hrg, hrg', rfl, hb.out.drew⟩ ?_
        simp only [List.getElem_toArray, List.getElem_cons_zero, List.getElem_cons_succ, Act.put, List.setIfInBounds_toArray, List.set_cons_succ, List.set_cons_zero]
        refine wpAnyH_take (i := 8) rfl (by kernel_rfl) (by kernel_rfl) (by kernel_rfl) (fun _ _ _ h => h) (.inl ⟨rfl, fun w' hw' => (by clear hw'; have e := hne w'; go_simp; (try rfl))⟩) ⟨hrg, hrg', rfl, hb.out.drew⟩ ?_
        simp only [List.getElem_toArray, List.getElem_cons_zero, List.getElem_cons_succ, Act.put, List.setIfInBounds_toArray, List.set_cons_succ, List.set_cons_zero]
        refine wpAnyH_done (by kernel_rfl) ?_ _
        refine NoPanic.normal ?_
        have GE := Lib.hid (show Below w.heap.size w wr.drew from hb.out.drew)
        clear hrg hrg'
        cases q
        · have e := NO.out (by first | rfl | trivial)
          subst e
          go_wp2_with fail
          go_ret
          exact ⟨rfl, GE.out⟩
        · go_wp2_with fail
          go_roundw
          case rel => exact ⟨k + 1, by omega, by go_num, Lib.hid (YES.out (by first | rfl | trivial)), GE⟩
          case measure => simp [intOf]; omega
      · have hd : decide ((k : Int) < (n : Int)) = false := by simp; omega
        obtain rfl : k = n := by omega
        go_wp2
        go_ret
        exact ⟨by rw [← HSQ.out, sameI_yes (by omega) (fun j hj hj' => hg.out j (by omega) hj hj')]; rfl, hb.out⟩
  · have dn : ((n : Int) == (n' : Int)) = false := by simp; omega
    go_wp2
    go_ret
    exact ⟨by rw [← HSQ.out, sameI_len (fun h => hnn (by omega))]; rfl, Below.refl _ _⟩
end Go.Proofs.YtnkhoghdfncgpaaGreatDoor
namespace Go.Proofs.YtnkhoghdfncgpaaGreatDoor
set_option linter.unusedVariables false
set_option linter.unusedSimpArgs false
open Go.RowKit Go.WideShapes Go.ChangeShapes Go.Deep

theorem cutB_small (k : Nat) (s : ByteArray) (h : k ≤ 1000000) : (cutB k s).size ≤ 1000000 := by
  have := cut_size k s
  omega
theorem short_small (x : Ov) : (∀ l ∈ (shortO x).lv, l.p.size ≤ 1000000) ∧ ∀ r ∈ (shortO x).es, r.p.size ≤ 1000000 := by
  constructor
  · intro l hl
    obtain ⟨a, _, rfl⟩ := List.mem_map.1 hl
    exact cutB_small 49 _ (by omega)
  · intro l hl
    obtain ⟨a, _, rfl⟩ := List.mem_map.1 hl
    exact cutB_small 49 _ (by omega)
section
variable {w w' : World} {base : Nat} {x : Ov} {L P E : Sl}
/-- A store into a box of another type. -/
theorem OwnO.box (h : OwnO w base x L P E) {b : Nat} {l : List Value} (hb : Lt w b 33 73 l) (o : Nat) (vs : List Value) : OwnO (w.setCells b o vs) base x L P E := by
  obtain ⟨cs, f, hc⟩ := hb.ty
  have key : ∀ {e k m n c A xs}, w.ownsRow base e k (.slice A n c) m xs → e ≠ 33 → ∀ g, (Value.slice A n c).ownBlock = some g → g ≠ b := by
    intro e k m n c A xs h he g hg e2
    obtain ⟨_, _, cs', f', h9⟩ := own_ty h g hg
    rw [e2, hc] at h9
    injection h9 with h9
    injection h9 with _ h9
    exact he h9.symm
  exact ⟨own_keep h.l fun g hg => (setCells_os _ _ _ w).2.2.2.2 g (key h.l (by decide) g hg), own_keep h.p fun g hg => (setCells_os _ _ _ w).2.2.2.2 g (key h.p (by decide) g hg), own_keep h.e fun g hg => (setCells_os _ _ _ w).2.2.2.2 g (key h.e (by decide) g hg)⟩
end
theorem links_few (x : Ov) : (linksW (shortO x)).length ≤ 100 := by
  have h1 : (shortO x).lv.length ≤ 33 := by show ((x.lv.take 33).map cutL).length ≤ 33; rw [List.length_map, List.length_take]; omega
  have h2 : (shortO x).ps.length ≤ 4 := by show (x.ps.take 4).length ≤ 4; rw [List.length_take]; omega
  unfold linksW
  split
  · rw [List.length_map]; omega
  · split
    · rw [List.length_cons]; omega
    · simp
theorem cells_lies {W : World} {g : Nat} {cur : Array Value} {e : TypeId} (h : W.heap[g]? = some (.cells cur e (0, 0))) : Lies W g cur.size cur.toList := by
  refine ⟨fun j u hu => ?_, fun j hj => ?_, (Array.getElem?_eq_some_iff.1 h).1, by simp⟩
  · rw [Nat.zero_add]
    simp only [World.cell?, h]
    simpa using hu
  · rw [Nat.zero_add]
    simp [World.cell?, World.frozen?, h, hj]
theorem own_lies {w : World} {base k n c : Nat} {e : TypeId} {A : Option Addr} {xs : List Value} (h : w.ownsRow base e k (.slice A n c) n xs) (hn : 0 < n) : ∃ g K cur, A = some ⟨g, 0, none⟩ ∧ base ≤ g ∧ n * k ≤ K ∧ Lies w g K cur := by
  obtain ⟨_, ⟨_, e⟩ | ⟨g, cap, cur, hv, hg, hh, h1, _, hc, _⟩⟩ := h
  · omega
  · injection hv with hv
    exact ⟨g, _, _, hv, hg, by rw [hc]; exact Nat.mul_le_mul_right k h1, cells_lies hh⟩
theorem Lies.part_there {W : World} {b k : Nat} {l : List Value} (h : Lies W b k l) (o n : Nat) (hle : o + n ≤ k) : W.there b o n := fun j hj => by
  have := h.th (o + j) (by omega)
  rwa [Nat.zero_add] at this
/-- A variable that is made, among others. -/
theorem wp_al {op : Oper} {a : Act} {w : World} {K : Act → World → Prop} {Q : Exit → Act → World → Prop} (e : TypeId) (ho : op.op = .alloc e) (zs : List Value) (hz : ∀ w : World, (zeroValue e).run Tryz.prog w = .ok (.agg zs.toArray) w)
    (h : K (a.put op.dst (.pointer (some ⟨w.heap.size, 0, none⟩))) (w.alloc (.cells zs.toArray e))) : op.wp Tryz.prog a w K Q := by
  unfold Oper.wp execOp
  simp only [ho, Instr.alloc, Sem.run_bind, hz, Result.andThen_ok, newVar, newRow, newObj, Sem.run_pure, Value.cells]
  exact h
def boxV (d : Value) : Option Nat → Value
  | none => d
  | some g => .pointer (some ⟨g, 0, none⟩)
def objV (d : Value) (y : Ov) : Option (Sl × Sl × Sl) → Value
  | none => d
  | some q => ofV (y.at_ q.1 q.2.1 q.2.2)
theorem Lt.setO {W : World} {b : Nat} {l l' : List Value} (h : Lt W b 33 73 l) (hl : l'.length = 73) : Lt (W.setCells b 0 l') b 33 73 l' := by
  obtain ⟨cs, f, hc⟩ := h.ty
  obtain ⟨cs', h'⟩ := typ_setCells (b := b) l' 0 W cs hc
  exact ⟨h.ls.set_ hl, cs', f, h'⟩
theorem Lt.farO {W : World} {b b' : Nat} {l : List Value} (h : Lt W b 33 73 l) (hn : b ≠ b') (o : Nat) (vs : List Value) : Lt (W.setCells b' o vs) b 33 73 l := by
  obtain ⟨cs, f, hc⟩ := h.ty
  exact ⟨h.ls.other hn _ _, cs, f, ((setCells_os _ _ _ W).2.2.2.2 b hn).trans hc⟩
/-- Two copies and two boxes: not there yet, or there. -/
structure Tw (w0 : World) (X : Nat) (xo : Of) (y : Ov) (r1 r3 : Option (Sl × Sl × Sl)) (b4 b5 : Option Nat) (W : World) : Prop where
  b : Below w0.heap.size w0 W
  x : Lies W X 73 xo.cells
  o1 : ∀ q, r1 = some q → OwnO W w0.heap.size y q.1 q.2.1 q.2.2 ∧ q.1.n ≤ 33 ∧ q.2.1.n ≤ 4 ∧ q.2.2.n ≤ 33
  o3 : ∀ q, r3 = some q → OwnO W w0.heap.size y q.1 q.2.1 q.2.2 ∧ q.1.n ≤ 33 ∧ q.2.1.n ≤ 4 ∧ q.2.2.n ≤ 33
  v4 : ∀ g, b4 = some g → w0.heap.size ≤ g ∧ g < W.heap.size ∧ Lt W g 33 73 zOf.cells
  v5 : ∀ g, b5 = some g → w0.heap.size ≤ g ∧ g < W.heap.size ∧ Lt W g 33 73 zOf.cells
  ne : ∀ g g', b4 = some g → b5 = some g' → g ≠ g'
section
variable {w0 W W' : World} {X : Nat} {xo : Of} {y : Ov} {r1 r3 : Option (Sl × Sl × Sl)} {b4 b5 : Option Nat}
theorem Tw.step (h : Tw w0 X xo y r1 r3 b4 b5 W) (hb : Below W.heap.size W W') : Tw w0 X xo y r1 r3 b4 b5 W' :=
  ⟨h.b.trans (hb.mono h.b.size), h.x.below hb h.x.lt, fun q e => ⟨(h.o1 q e).1.below hb, (h.o1 q e).2⟩, fun q e => ⟨(h.o3 q e).1.below hb, (h.o3 q e).2⟩, fun g e => ⟨(h.v4 g e).1, Nat.lt_of_lt_of_le (h.v4 g e).2.1 hb.size, (h.v4 g e).2.2.bl hb⟩,
    fun g e => ⟨(h.v5 g e).1, Nat.lt_of_lt_of_le (h.v5 g e).2.1 hb.size, (h.v5 g e).2.2.bl hb⟩, h.ne⟩
theorem Tw.call1 (h : Tw w0 X xo y none r3 b4 b5 W) (hb : Below W.heap.size W W') {q : Sl × Sl × Sl} (ho : OwnO W' W.heap.size y q.1 q.2.1 q.2.2) (hn : q.1.n ≤ 33 ∧ q.2.1.n ≤ 4 ∧ q.2.2.n ≤ 33) : Tw w0 X xo y (some q) r3 b4 b5 W' :=
  ⟨(h.step hb).b, (h.step hb).x, fun q' e => (by injection e with e; subst e; exact ⟨own_base_o ho h.b.size, hn⟩), (h.step hb).o3, (h.step hb).v4, (h.step hb).v5, h.ne⟩
theorem Tw.call3 (h : Tw w0 X xo y r1 none b4 b5 W) (hb : Below W.heap.size W W') {q : Sl × Sl × Sl} (ho : OwnO W' W.heap.size y q.1 q.2.1 q.2.2) (hn : q.1.n ≤ 33 ∧ q.2.1.n ≤ 4 ∧ q.2.2.n ≤ 33) : Tw w0 X xo y r1 (some q) b4 b5 W' :=
  ⟨(h.step hb).b, (h.step hb).x, (h.step hb).o1, fun q' e => (by injection e with e; subst e; exact ⟨own_base_o ho h.b.size, hn⟩), (h.step hb).v4, (h.step hb).v5, h.ne⟩
theorem lt_new (W : World) : Lt (W.alloc (.cells zOf.cells.toArray 33)) W.heap.size 33 73 zOf.cells :=
  ⟨by have := Lies.new W zOf.cells 33; rwa [of_sz] at this, _, _, heap_alloc_new W (.cells zOf.cells.toArray 33)⟩
theorem Tw.made4 (h : Tw w0 X xo y r1 r3 none b5 W) : Tw w0 X xo y r1 r3 (some W.heap.size) b5 (W.alloc (.cells zOf.cells.toArray 33)) := by
  have hb : Below W.heap.size W (W.alloc (.cells zOf.cells.toArray 33)) := (Below.refl _ _).alloc (Nat.le_refl _) _
  have hs := h.step hb
  exact ⟨hs.b, hs.x, hs.o1, hs.o3, fun g e => (by injection e with e; subst e; exact ⟨h.b.size, by simp, lt_new W⟩), hs.v5, fun g g' e e' => (by injection e with e; subst e; have := (h.v5 g' e').2.1; omega)⟩
theorem Tw.made5 (h : Tw w0 X xo y r1 r3 b4 none W) : Tw w0 X xo y r1 r3 b4 (some W.heap.size) (W.alloc (.cells zOf.cells.toArray 33)) := by
  have hb : Below W.heap.size W (W.alloc (.cells zOf.cells.toArray 33)) := (Below.refl _ _).alloc (Nat.le_refl _) _
  have hs := h.step hb
  exact ⟨hs.b, hs.x, hs.o1, hs.o3, hs.v4, fun g e => (by injection e with e; subst e; exact ⟨h.b.size, by simp, lt_new W⟩), fun g g' e e' => (by injection e' with e'; subst e'; have := (h.v4 g e).2.1; omega)⟩
end
end Go.Proofs.YtnkhoghdfncgpaaGreatDoor
