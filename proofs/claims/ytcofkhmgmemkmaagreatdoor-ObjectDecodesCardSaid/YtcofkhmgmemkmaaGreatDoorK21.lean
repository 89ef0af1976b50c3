/-
  STRUCTS THAT ARE BUILT OF TWO PARTS: a leaf, and an object with its Id.
  OBJECTS: Check, Encode.
-/
import Derived.Test.YtcofkhmgmemkmaaGreatDoorK20
namespace Go.Proofs.YtcofkhmgmemkmaaGreatDoor
set_option linter.unusedVariables false
set_option linter.unusedSimpArgs false
open Go.RowKit Go.WideShapes Go.ChangeShapes Go.Deep Go.Shelf

theorem fold_list (off : Nat) : ∀ (l : List Value) (k : Nat) (pre mid post : List Value), pre.length = off + k → mid.length = l.length →
    (l.zipIdx k).foldl (fun (cs : Array Value) (cj : Value × Nat) => cs.setIfInBounds (off + cj.2) cj.1) (pre ++ mid ++ post).toArray = (pre ++ l ++ post).toArray
  | [], k, pre, mid, post, _, hm => by
    obtain rfl := List.eq_nil_of_length_eq_zero hm
    rfl
  | c :: r, k, pre, [], post, _, hm => by simp at hm
  | c :: r, k, pre, m :: mid, post, hp, hm => by
    rw [List.zipIdx_cons, List.foldl_cons]
    have h1 : (pre ++ m :: mid ++ post).toArray.setIfInBounds (off + k) c = ((pre ++ [c]) ++ mid ++ post).toArray := by
      rw [List.setIfInBounds_toArray, ← hp]
      congr 1
      simp
    simp only [h1]
    rw [fold_list off r (k + 1) (pre ++ [c]) mid post (by simp; omega) (by simpa using hm)]
    simp
theorem fold_arr (pre l mid post : List Value) (hm : mid.length = l.length) :
    (l.toArray.zipIdx.foldl (fun (cs : Array Value) (cj : Value × Nat) => cs.setIfInBounds (pre.length + cj.2) cj.1) (pre ++ mid ++ post).toArray) = (pre ++ l ++ post).toArray := by
  rw [← Array.foldl_toList, Array.toList_zipIdx]
  exact fold_list pre.length l 0 pre mid post (by simp) hm
theorem fill_cons {place : Nat → Option (Nat × Nat)} {i : Nat} {v : Value} {rest : List (Nat × Value)} {pre l mid post : List Value} (hp : place i = some (pre.length, l.length)) (hv : v.cells = l.toArray) (hm : mid.length = l.length) :
    Instr.fill place (pre ++ mid ++ post).toArray ((i, v) :: rest) = Instr.fill place (pre ++ l ++ post).toArray rest := by
  rw [Instr.fill, hp]
  simp only [hv]
  rw [if_neg (by simp; omega)]
  rw [fold_arr pre l mid post hm]
theorem built_two {P : Program} {t : TypeId} {it : TypeInfo} {z : Value} {fs : Array Field} {n0 n1 : Nat} (hi : P.info? t = some it) (hu : P.underlying t = some (.struct fs)) (hz : it.zero = some z)
    (hp : fs.toList.mapM (fun f => (P.info? f.type).map fun i => (f.offset, i.size)) = some [(0, n0), (n0, n1)]) (hzc : z.cells.size = n0 + n1) {v0 v1 : Value} {c0 c1 : List Value} (h0 : v0.cells = c0.toArray) (h1 : v1.cells = c1.toArray) (l0 : c0.length = n0) (l1 : c1.length = n1) :
    P.built t [(0, v0), (1, v1)] = some (c0 ++ c1).toArray := by
  unfold Program.built
  simp only [hi, hu, hz, hp]
  obtain ⟨m0, m1, hm, hm0, hm1⟩ : ∃ m0 m1 : List Value, z.cells = (m0 ++ m1).toArray ∧ m0.length = n0 ∧ m1.length = n1 := by
    refine ⟨z.cells.toList.take n0, z.cells.toList.drop n0, by simp, by simp; omega, by simp; omega⟩
  rw [hm]
  have e0 := fill_cons (place := fun x => [(0, n0), (n0, n1)].toArray[x]?) (i := 0) (v := v0) (rest := [(1, v1)]) (pre := []) (l := c0) (mid := m0) (post := m1) (by simp [l0]) h0 (by omega)
  have e1 := fill_cons (place := fun x => [(0, n0), (n0, n1)].toArray[x]?) (i := 1) (v := v1) (rest := []) (pre := c0) (l := c1) (mid := m1) (post := []) (by simp [l0, l1]) h1 (by omega)
  rw [List.nil_append] at e0
  rw [e0, List.nil_append]
  rw [List.append_nil, List.append_nil] at e1
  rw [e1]
  rfl
theorem hd_ok : ∃ it z fs, Tryz.prog.info? 54 = some it ∧ Tryz.prog.underlying 54 = some (.struct fs) ∧ it.zero = some z ∧ fs.toList.mapM (fun f => (Tryz.prog.info? f.type).map fun i => (f.offset, i.size)) = some [(0, 32), (32, 73)] ∧ z.cells.size = 32 + 73 := by
  refine ⟨(Tryz.prog.info? 54).getD default, ((Tryz.prog.info? 54).getD default).zero.getD undef, Tryz.prog.fieldsOf 54, by kernel_rfl, by kernel_rfl, by kernel_rfl, by kernel_rfl, by kernel_rfl⟩
theorem lf_ok : ∃ it z fs, Tryz.prog.info? 68 = some it ∧ Tryz.prog.underlying 68 = some (.struct fs) ∧ it.zero = some z ∧ fs.toList.mapM (fun f => (Tryz.prog.info? f.type).map fun i => (f.offset, i.size)) = some [(0, 1), (1, 32)] ∧ z.cells.size = 1 + 32 := by
  refine ⟨(Tryz.prog.info? 68).getD default, ((Tryz.prog.info? 68).getD default).zero.getD undef, Tryz.prog.fieldsOf 68, by kernel_rfl, by kernel_rfl, by kernel_rfl, by kernel_rfl, by kernel_rfl⟩
theorem built_hd (i : Idv) (o : Of) : Tryz.prog.built 54 [(0, idV i), (1, ofV o)] = some (i.cells ++ o.cells).toArray := by
  obtain ⟨it, z, fs, h1, h2, h3, h4, h5⟩ := hd_ok
  exact built_two h1 h2 h3 h4 h5 rfl rfl (id_sz i) (of_sz o)
theorem built_lf (l : Lf) : Tryz.prog.built 68 [(0, .string l.p), (1, idV l.id)] = some l.cells.toArray := by
  obtain ⟨it, z, fs, h1, h2, h3, h4, h5⟩ := lf_ok
  exact built_two (c0 := [.string l.p]) h1 h2 h3 h4 h5 rfl rfl rfl (id_sz l.id)
/-- An object with its Id. -/
def hdC (i : Idv) (o : Of) : List Value := i.cells ++ o.cells
theorem hd_sz (i : Idv) (o : Of) : (hdC i o).length = 105 := by unfold hdC; rw [List.length_append, id_sz, of_sz]
theorem size_hd : (Tryz.prog.info? 54).map (·.size) = some 105 := by kernel_rfl
theorem hd_one {i : Idv} {x : Of} (h : x.lv.oneCell' = true) (h' : x.pv.oneCell' = true) (h'' : x.ev.oneCell' = true) : (hdC i x).toArray.all (·.oneCell') = true := all_oneCell_toArray (fun v hv => by
  unfold hdC at hv
  rcases List.mem_append.1 hv with hv | hv
  · exact S3.bvs_one _ v hv
  · have := Array.all_eq_true_iff_forall_mem.1 (of_one h h' h'') v (by simpa using hv)
    exact this)
theorem hd_rg {w : World} {b o : Nat} {i : Idv} {x : Of} : w.rangeAt b o (hdC i x) ↔ w.rangeAt b o i.cells ∧ w.rangeAt b (o + 32) x.cells := by
  unfold hdC
  rw [rangeAt_app, id_sz]
section
variable {ops : Array Oper} {rest : List Oper} {op : Oper} {a : Act} {w : World} {Q : Exit → Act → World → Prop}
theorem sth (x y : Operand) (ho : op.op = .store 54 x y) (hw : Region.wanted op (yielded ops a.tmps) = true) (b o : Nat) (i : Idv) (j : Of) (hx : a.eval x = .pointer (some ⟨b, o, none⟩)) (hy : a.eval y = .agg (hdC i j).toArray) (ht : w.there b o 105) (h1 : j.lv.oneCell' = true) (h2 : j.pv.oneCell' = true) (h3 : j.ev.oneCell' = true)
    (h : wpList Tryz.prog ops Q rest (a.put op.dst undef) (w.setCells b o (hdC i j))) : wpList Tryz.prog ops Q (op :: rest) a w :=
  wpList_want hw (wp_store_mid _ x y ho b o (hdC i j).toArray hx hy (by simpa [hd_sz] using ht) (by simpa [hd_sz] using size_hd) (hd_one h1 h2 h3) h)
theorem ldh (x : Operand) (ho : op.op = .load 54 x) (hw : Region.wanted op (yielded ops a.tmps) = true) (b o : Nat) (i : Idv) (j : Of) (hx : a.eval x = .pointer (some ⟨b, o, none⟩)) (hc : w.rangeAt b o (hdC i j))
    (h : wpList Tryz.prog ops Q rest (a.put op.dst (.agg (hdC i j).toArray)) w) : wpList Tryz.prog ops Q (op :: rest) a w :=
  wpList_want hw (wp_load_mid _ x ho b o hx (hdC i j) _ hc Tryz.underlying54 rfl (by rw [hd_sz]; exact size_hd) h)
end
theorem zero_hd (w : World) : (zeroValue 54).run Tryz.prog w = .ok (.agg (hdC Idv.zero zOf).toArray) w := by kernel_rfl
end Go.Proofs.YtcofkhmgmemkmaaGreatDoor
namespace Go.Proofs.YtcofkhmgmemkmaaGreatDoor
set_option linter.unusedVariables false
set_option linter.unusedSimpArgs false
open Go.RowKit Go.WideShapes Go.ChangeShapes Go.Deep Go.Shelf
attribute [local irreducible] wpQuiet

/-- Whether an object may be. -/
noncomputable def okW (x : Ov) : Bool := bareO x && soundW x && !(decide (800 < ((bytesW x).length : Int)))
theorem okW_sound {x : Ov} (h : okW x = true) : soundW x = true := by
  unfold okW at h
  simp only [Bool.and_eq_true] at h
  exact h.1.2
/-- How long an object's lists may be here. -/
structure Lim (L P E : Sl) : Prop where
  l : L.n ≤ 100000
  p : P.n ≤ 100000
  e : E.n ≤ 100000
set_option maxRecDepth 100000 in
set_option maxHeartbeats 4000000 in
theorem OCheck_any {w : World} {x : Ov} {L P E : Sl} (h : Obj3 w w.heap.size x L P E) (hm : Lim L P E) :
    Calls Tryz.prog 22 #[ofV (x.at_ L P E)] w fun e w' => e = .returned (.int .i64 (if okW x then 0 else 160)) ∧ Below w.heap.size w w' := by
  obtain ⟨ox, w1, hb⟩ := Bxo.mk_ w x L P E
  have HB := Lib.hid hb
  rw [hb.eq]
  have HL : Hid (∀ W, Below w.heap.size w W → Obj3 W W.heap.size x L P E) := Lib.hid fun W hW => (h.below hW).more hW.size
  have C1 : Hid (∀ W, Below w.heap.size w W → Calls Tryz.prog 43 #[ofV ox] W fun e w' => e = .returned (.bool (bareO x)) ∧ Below W.heap.size W w') := Lib.hid fun W hW => by
    rw [← hb.eq]; exact isBare_any (HL.out W hW) (by have := hm.l; omega) (by have := hm.p; omega) (by have := hm.e; omega)
  have C2 : Hid (∀ W, Below w.heap.size w W → Calls Tryz.prog 44 #[ofV ox] W fun e w' => e = .returned (.bool (soundW x)) ∧ Below W.heap.size W w') := Lib.hid fun W hW => by
    rw [← hb.eq]; exact isSound_any (HL.out W hW) hm.l (by have := hm.p; omega) (by have := hm.e; omega)
  have C3 : Hid (∀ W, Below w.heap.size w W → soundW x = true → Calls Tryz.prog 23 #[ofV ox] W (Laid W x)) := Lib.hid fun W hW hs => by
    rw [← hb.eq]; exact laid_any (HL.out W hW) hs
  obtain ⟨q0, h0⟩ : ∃ q, bareO x = q := ⟨_, rfl⟩
  obtain ⟨q1, h1⟩ : ∃ q, soundW x = q := ⟨_, rfl⟩
  obtain ⟨q2, h2⟩ : ∃ q, decide (800 < ((bytesW x).length : Int)) = q := ⟨_, rfl⟩
  obtain ⟨cq, hcq⟩ : ∃ q : Int, (if okW x = true then 0 else 160) = q := ⟨_, rfl⟩
  have HF : Hid (cq = (if (q0 && q1 && !q2) = true then 0 else 160)) := Lib.hid (by rw [← hcq, ← h0, ← h1, ← h2]; rfl)
  rw [h0] at C1
  rw [h1] at C2 C3
  rw [hcq]
  have H2 := Lib.hid h2
  clear h hb h0 h1 h2 hcq
  go_enter Tryz.func22, Tryz.ntmps22
  go_upto_region 1 with fail
  rw [HB.out.al]
  have B1 := Lib.hid HB.out.bl
  have RG : Hid (∀ W, Below w1.heap.size w1 W → W.rangeAt w.heap.size 0 ox.cells) := Lib.hid fun W hW => HB.out.rg hW
  go_wp2_with (first
    | ((with_reducible refine ldo (.tmp 1) ?_ ?_ w.heap.size 0 ox ?_ (RG.out w1 (Below.refl _ _)) ?_); rfl; (first | rfl | go_simp); (first | rfl | go_simp))
    | fail)
  refine (C1.out w1 B1.out).mono ?_
  rintro e w2 ⟨rfl, hb⟩
  dsimp only
  have Y2 : Hid (Below w1.heap.size w1 w2) := Lib.hid hb
  have B2 := Lib.hid (B1.out.trans (hb.mono B1.out.size))
  clear hb
  cases q0
  · go_wp2_with fail
    go_ret
    exact ⟨by rw [HF.out]; rfl, B2.out⟩
  go_wp2_with (first
    | ((with_reducible refine ldo (.tmp 1) ?_ ?_ w.heap.size 0 ox ?_ (RG.out w2 Y2.out) ?_); rfl; (first | rfl | go_simp); (first | rfl | go_simp))
    | fail)
  refine (C2.out w2 B2.out).mono ?_
  rintro e w3 ⟨rfl, hb⟩
  dsimp only
  have Y3 : Hid (Below w1.heap.size w1 w3) := Lib.hid (Y2.out.trans (hb.mono Y2.out.size))
  have B3 := Lib.hid (B2.out.trans (hb.mono B2.out.size))
  clear hb
  cases q1
  · go_wp2_with fail
    go_ret
    exact ⟨by rw [HF.out]; rfl, B3.out⟩
  go_wp2_with (first
    | ((with_reducible refine ldo (.tmp 1) ?_ ?_ w.heap.size 0 ox ?_ (RG.out w3 Y3.out) ?_); rfl; (first | rfl | go_simp); (first | rfl | go_simp))
    | fail)
  refine (C3.out w3 B3.out (by first | rfl | trivial)).mono ?_
  rintro e w4 ⟨A, n, c, rfl, own, hb⟩
  dsimp only
  have B4 := Lib.hid (B3.out.trans (hb.mono B3.out.size))
  have hn : (bytesW x).length = n := own.sl.len
  have h2 := H2.out
  rw [hn] at h2
  clear hb own hn
  cases q2
  · go_wp2_with fail
    go_ret
    exact ⟨by rw [HF.out]; rfl, B4.out⟩
  · go_wp2_with fail
    go_ret
    exact ⟨by rw [HF.out]; rfl, B4.out⟩
set_option maxRecDepth 100000 in
set_option maxHeartbeats 4000000 in
theorem Encode_any {w : World} {x : Ov} {L P E : Sl} (h : Obj3 w w.heap.size x L P E) (hm : Lim L P E) :
    Calls Tryz.prog 10 #[ofV (x.at_ L P E)] w fun e w' => (∃ A n c, e = .returned (.tuple #[.slice A n c, .int .i64 (if okW x then 0 else 160)]) ∧ OwnB w' w.heap.size A n c (if okW x then bytesW x else [])) ∧ Below w.heap.size w w' := by
  obtain ⟨ox, w1, hb⟩ := Bxo.mk_ w x L P E
  have HB := Lib.hid hb
  rw [hb.eq]
  have HL : Hid (∀ W, Below w.heap.size w W → Obj3 W W.heap.size x L P E) := Lib.hid fun W hW => (h.below hW).more hW.size
  have C1 : Hid (∀ W, Below w.heap.size w W → Calls Tryz.prog 22 #[ofV ox] W fun e w' => e = .returned (.int .i64 (if okW x then 0 else 160)) ∧ Below W.heap.size W w') := Lib.hid fun W hW => by
    rw [← hb.eq]; exact OCheck_any (HL.out W hW) hm
  have C3 : Hid (∀ W, Below w.heap.size w W → okW x = true → Calls Tryz.prog 23 #[ofV ox] W (Laid W x)) := Lib.hid fun W hW hs => by
    rw [← hb.eq]; exact laid_any (HL.out W hW) (okW_sound hs)
  obtain ⟨cq, hcq⟩ : ∃ q, okW x = q := ⟨_, rfl⟩
  rw [hcq] at C1 C3 ⊢
  clear h hb hcq
  go_enter Tryz.func10, Tryz.ntmps10
  go_upto_region 1 with fail
  rw [HB.out.al]
  have B1 := Lib.hid HB.out.bl
  have RG : Hid (∀ W, Below w1.heap.size w1 W → W.rangeAt w.heap.size 0 ox.cells) := Lib.hid fun W hW => HB.out.rg hW
  go_wp2_with (first
    | ((with_reducible refine ldo (.tmp 1) ?_ ?_ w.heap.size 0 ox ?_ (RG.out w1 (Below.refl _ _)) ?_); rfl; (first | rfl | go_simp); (first | rfl | go_simp))
    | fail)
  refine (C1.out w1 B1.out).mono ?_
  rintro e w2 ⟨rfl, hb⟩
  dsimp only
  have Y2 : Hid (Below w1.heap.size w1 w2) := Lib.hid hb
  have B2 := Lib.hid (B1.out.trans (hb.mono B1.out.size))
  clear hb
  cases cq
  · simp only [Bool.false_eq_true, if_false]
    go_wp2_with fail
    go_ret2
    exact ⟨⟨none, 0, 0, rfl, ⟨rfl, .inl ⟨rfl, rfl⟩⟩⟩, B2.out⟩
  simp only [if_true]
  go_wp2_with (first
    | ((with_reducible refine ldo (.tmp 1) ?_ ?_ w.heap.size 0 ox ?_ (RG.out w2 Y2.out) ?_); rfl; (first | rfl | go_simp); (first | rfl | go_simp))
    | fail)
  refine (C3.out w2 B2.out (by first | rfl | trivial)).mono ?_
  rintro e w4 ⟨A, n, c, rfl, own, hb⟩
  dsimp only
  have HO := Lib.hid (own.base_ B2.out.size)
  have B4 := Lib.hid (B2.out.trans (hb.mono B2.out.size))
  clear hb own
  go_wp2_with fail
  go_ret2
  exact ⟨⟨A, n, c, rfl, HO.out⟩, B4.out⟩
end Go.Proofs.YtcofkhmgmemkmaaGreatDoor
