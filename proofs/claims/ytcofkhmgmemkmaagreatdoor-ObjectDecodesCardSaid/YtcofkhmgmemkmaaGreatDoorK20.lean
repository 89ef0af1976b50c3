/-
  OBJECTS: layCommit.
  OBJECTS: laid.
-/
import Derived.Test.YtcofkhmgmemkmaaGreatDoorK19
namespace Go.Proofs.YtcofkhmgmemkmaaGreatDoor
set_option linter.unusedVariables false
set_option linter.unusedSimpArgs false
open Go.RowKit Go.WideShapes Go.ChangeShapes Go.Deep Go.Shelf
attribute [local irreducible] wpQuiet

theorem Bl.lies {w : World} {b : Nat} {t : TypeId} {cs : List Value} (h : Bl w b t cs) : Lies w b cs.length cs :=
  ⟨h.rg, fun j hj => ⟨by rw [Nat.zero_add, h.cell j, List.getElem?_eq_getElem hj]; rfl, h.frozen _⟩, h.lt, rfl⟩
theorem OwnB.fresh {w w' : World} {base n c : Nat} {A : Option Addr} {l : List UInt8} (h : OwnB w base A n c l) (hb : Below w.heap.size w w') : OwnB w' base A n c l := by
  rcases h with ⟨h1, h2 | ⟨g, cap, cur, h2, h3, h4, h5⟩⟩
  · exact ⟨h1, .inl h2⟩
  · exact ⟨h1, .inr ⟨g, cap, cur, h2, h3, (hb.block g (Array.getElem?_eq_some_iff.1 h4).1).trans h4, h5⟩⟩
/-- A row that is laid, beside an object's box. -/
structure Ry (w : World) (base b0 : Nat) (ox : Of) (W : World) (A : Option Addr) (n c : Nat) (l : List UInt8) : Prop where
  own : OwnB W base A n c l
  bx : Bl W b0 34 ox.cells
  kt : Kt base w W
  hB : base ≤ W.heap.size
section
variable {w : World} {base b0 : Nat} {ox : Of} {W W' : World} {A A' : Option Addr} {n c n' c' : Nat} {l l' : List UInt8}
theorem Ry.next (r : Ry w base b0 ox W A n c l) (own : OwnB W' base A' n' c' l') (kt : Kt base W W') : Ry w base b0 ox W' A' n' c' l' :=
  ⟨own, kt.bl r.bx (by decide), r.kt.trans kt, Nat.le_trans r.hB kt.size⟩
theorem Ry.byte (r : Ry w base b0 ox W A n c l) {o : Obj} (own : OwnB W' base A' n' c' l') (kt : Kt base (W.alloc o) W') : Ry w base b0 ox W' A' n' c' l' :=
  r.next own ((Kt.alloc W r.hB o).trans kt)
theorem Ry.fresh (r : Ry w base b0 ox W A n c l) (hb : Below W.heap.size W W') : Ry w base b0 ox W' A n c l := r.next (r.own.fresh hb) (Kt.fresh hb r.hB)
theorem Ry.len (r : Ry w base b0 ox W A n c l) : l.length = n := r.own.sl.len
end
theorem typ_setCell {w : World} {b o : Nat} {v : Value} {cs : Array Value} {t : TypeId} {f : Nat × Nat} (h : w.heap[b]? = some (.cells cs t f)) : ∃ cs', (w.setCell ⟨b, o, none⟩ v).heap[b]? = some (.cells cs' t f) := by
  simp [World.setCell, Array.getElem?_modify, h]
theorem typ_setCells {b : Nat} {t : TypeId} {f : Nat × Nat} : ∀ (vs : List Value) (o : Nat) (w : World) (cs : Array Value), w.heap[b]? = some (.cells cs t f) → ∃ cs', (w.setCells b o vs).heap[b]? = some (.cells cs' t f)
  | [], _, w, cs, h => ⟨cs, h⟩
  | v :: r, o, w, cs, h => by
    obtain ⟨cs', h'⟩ := typ_setCell (o := o) (v := v) h
    exact typ_setCells r (o + 1) _ cs' h'
/-- A box of a type, its cells known. -/
structure Lt (w : World) (b : Nat) (t : TypeId) (k : Nat) (l : List Value) : Prop where
  ls : Lies w b k l
  ty : ∃ cs f, w.heap[b]? = some (.cells cs t f)
theorem Lt.made (w : World) (t : TypeId) {k : Nat} {z l : List Value} (hz : z.length = k) (hl : l.length = k) : Lt ((w.alloc (.cells z.toArray t)).setCells w.heap.size 0 l) w.heap.size t k l := by
  have h := Lies.new w z t
  rw [hz] at h
  refine ⟨h.set_ hl, ?_⟩
  obtain ⟨cs', h'⟩ := typ_setCells (b := w.heap.size) l 0 (w.alloc (.cells z.toArray t)) _ (heap_alloc_new w (.cells z.toArray t))
  exact ⟨cs', _, h'⟩
theorem Lt.kt {w w' : World} {b k B : Nat} {t : TypeId} {l : List Value} (h : Lt w b t k l) (kt : Kt B w w') (ht : t ≠ 5) : Lt w' b t k l := by
  obtain ⟨cs, f, hb⟩ := h.ty
  have h' := kt.kp b cs t f ht hb
  exact ⟨h.ls.kp (h'.trans hb.symm) kt.size, cs, f, h'⟩
section
variable {ops : Array Oper} {rest : List Oper} {op : Oper} {a : Act} {w : World} {Q : Exit → Act → World → Prop}
theorem chg_all (r : Ch) : r.cells.toArray.all (·.oneCell') = true := all_oneCell_toArray (fun v hv => ch_one [r] v (by simpa using hv))
theorem stc (x y : Operand) (ho : op.op = .store 71 x y) (hw : Region.wanted op (yielded ops a.tmps) = true) (b o : Nat) (i : Ch) (hx : a.eval x = .pointer (some ⟨b, o, none⟩)) (hy : a.eval y = chV i) (ht : w.there b o 3)
    (h : wpList Tryz.prog ops Q rest (a.put op.dst undef) (w.setCells b o i.cells)) : wpList Tryz.prog ops Q (op :: rest) a w :=
  wpList_want hw (wp_store_mid _ x y ho b o i.cells.toArray hx hy (by simpa [Ch.cells] using ht) (by simpa [Ch.cells] using size_chg i) (chg_all i) h)
theorem ldc (x : Operand) (ho : op.op = .load 71 x) (hw : Region.wanted op (yielded ops a.tmps) = true) (b o : Nat) (i : Ch) (hx : a.eval x = .pointer (some ⟨b, o, none⟩)) (hc : w.rangeAt b o i.cells)
    (h : wpList Tryz.prog ops Q rest (a.put op.dst (chV i)) w) : wpList Tryz.prog ops Q (op :: rest) a w :=
  wpList_want hw (wp_load_mid _ x ho b o hx i.cells _ hc Tryz.underlying71 rfl (size_chg i) h)
end
def zCh : Ch := ⟨⟨#[]⟩, false, ⟨#[]⟩⟩
/-- The bytes of a change. -/
def chB (c : Ch) : List UInt8 := [UInt8.ofNat c.p.size] ++ strB c.p ++ [if c.is then 1 else 0] ++ S3.be 2 c.t.size ++ strB c.t
/-- The bytes of what a commit has. -/
def comB (x : Ov) : List UInt8 := [UInt8.ofNat x.style.toNat] ++ x.tree.b ++ [UInt8.ofNat x.ps.length] ++ x.ps.flatMap Idv.b ++ x.base.b ++ [UInt8.ofNat x.es.length] ++ x.es.flatMap chB ++ S3.be 4 x.num ++ S3.be 4 x.auth ++ [UInt8.ofNat x.note.size] ++ strB x.note
/-- What a commit's bytes want. -/
structure Cok (x : Ov) (P E : Sl) : Prop where
  st : 0 ≤ x.style ∧ x.style < 256
  ps : P.n ≤ 2
  es : E.n ≤ 32
  ch : ∀ c ∈ x.es, c.p.size ≤ 48 ∧ c.t.size ≤ 256
  no : x.note.size ≤ 200
theorem ids_step {l : List Idv} {k : Nat} (h : k < l.length) : (l.take (k + 1)).flatMap Idv.b = (l.take k).flatMap Idv.b ++ l[k].b := by
  rw [List.take_succ_eq_append_getElem h, List.flatMap_append, List.flatMap_cons, List.flatMap_nil, List.append_nil]
theorem chs_step {l : List Ch} {k : Nat} (h : k < l.length) : (l.take (k + 1)).flatMap chB = (l.take k).flatMap chB ++ chB l[k] := by
  rw [List.take_succ_eq_append_getElem h, List.flatMap_append, List.flatMap_cons, List.flatMap_nil, List.append_nil]
theorem zero_chg (w : World) : (zeroValue 71).run Tryz.prog w = .ok (.agg (Ch.cells ⟨⟨#[]⟩, false, ⟨#[]⟩⟩).toArray) w := by kernel_rfl
set_option maxRecDepth 100000 in
set_option maxHeartbeats 8000000 in
theorem layCommit_any {w : World} {x : Ov} {L P E : Sl} {base : Nat} (h : Obj3 w base x L P E) (hc : Cok x P E) {n0 c0 : Nat} {A0 : Option Addr} {l0 : List UInt8} (h0 : OwnB w base A0 n0 c0 l0) (hb0 : base ≤ w.heap.size) (hn0 : n0 ≤ 1000) :
    Calls Tryz.prog 47 #[.slice A0 n0 c0, ofV (x.at_ L P E)] w fun e w' => ∃ A n c, e = .returned (.slice A n c) ∧ OwnB w' base A n c (l0 ++ comB x) ∧ Kt base w w' := by
  obtain ⟨AL, nL, cL⟩ := L
  obtain ⟨AP, nP, cP⟩ := P
  obtain ⟨AE, nE, cE⟩ := E
  obtain ⟨ox, w1, hb⟩ := Bxo.mk_ w x ⟨AL, nL, cL⟩ ⟨AP, nP, cP⟩ ⟨AE, nE, cE⟩
  have HBB := Lib.hid hb
  rw [hb.eq]
  have R0 : Hid (Ry w base w.heap.size ox w1 A0 n0 c0 l0) := Lib.hid ⟨h0.fresh hb.bl, by rw [← hb.al]; exact Bl.new w _ _, Kt.fresh hb.bl hb0, Nat.le_trans hb0 hb.bl.size⟩
  have HX : Hid (∀ W, Bl W w.heap.size 34 ox.cells → W.cell? ⟨w.heap.size, 0, none⟩ = some (.int .i64 x.kind) ∧ W.cell? ⟨w.heap.size, 1, none⟩ = some (.string x.text) ∧ W.cell? ⟨w.heap.size, 2, none⟩ = some (.slice AL nL cL) ∧ W.cell? ⟨w.heap.size, 3, none⟩ = some (.int .i64 x.style) ∧
    W.rangeAt w.heap.size 4 x.tree.cells ∧ W.rangeAt w.heap.size 36 x.base.cells ∧ W.cell? ⟨w.heap.size, 68, none⟩ = some (.slice AP nP cP) ∧ W.cell? ⟨w.heap.size, 69, none⟩ = some (.slice AE nE cE) ∧
    W.cell? ⟨w.heap.size, 70, none⟩ = some (.int .u32 (x.num : Int)) ∧ W.cell? ⟨w.heap.size, 71, none⟩ = some (.int .u32 (x.auth : Int)) ∧ W.cell? ⟨w.heap.size, 72, none⟩ = some (.string x.note)) := Lib.hid fun W hW => obj_lies (by rw [hb.eq]; have := hW.lies; rwa [of_sz] at this)
  -- the lists stand, whatever bytes are appended
  have HP : Hid (∀ W, Kt base w W → SqI W base AP nP cP x.ps) := Lib.hid fun W hW => h.p.below hW.bel
  have HE : Hid (∀ W, Kt base w W → SqC W base AE nE cE x.es) := Lib.hid fun W hW => h.e.below hW.bel
  obtain ⟨⟨hst0, hst1⟩, hps, hes, hch, hno⟩ := hc
  have hps' : nP ≤ 2 := hps
  have hes' : nE ≤ 32 := hes
  have HCH := Lib.hid hch
  have HLP := Lib.hid h.p.len
  have HLE := Lib.hid h.e.len
  have hnb := h.nb
  have hab := h.ab
  obtain ⟨K, hK⟩ : ∃ K : Nat, x.style.toNat = K := ⟨_, rfl⟩
  have hK2 : x.style = (K : Int) := by omega
  have hK3 : K < 256 := by omega
  have hw0 : IntKind.u8.wrap x.style = (K : Int) := by rw [IntKind.wrap_u8, hK2]; omega
  have hw1 : IntKind.u8.wrap (nP : Int) = (nP : Int) := by rw [IntKind.wrap_u8]; omega
  have hw2 : IntKind.u8.wrap (nE : Int) = (nE : Int) := by rw [IntKind.wrap_u8]; omega
  have HK2 := Lib.hid hK2
  have HK := Lib.hid hK
  clear hch hps hes hK hK2 hst0 hst1 hb h h0
  go_enter Tryz.func47, Tryz.ntmps47
  go_upto_region 1 with fail
  rw [HBB.out.al]
  obtain ⟨a0, a1, a2, a3, -, -, a6, a7, a8, a9, a10⟩ := HX.out w1 R0.out.bx
  go_upto_region 2 with (first
    | (at_builtin; refine apb (w := w1.alloc (.cells #[.int .u8 (K : Int)] 5)) (m := 1) (c' := 1) (news := [UInt8.ofNat K]) ?_ (.tmp 10) (.tmp 14) ?_ ⟨w1.heap.size, 0, none⟩ ?_ ?_ (R0.out.own.alloc _) ?_ (one_byte hK3) ?_ ?_ ?_; rfl; rfl; rfl; rfl; rfl; omega; (have := R0.out.hB; simp; omega); intro A1 c1 v1 own kt; obtain ⟨n1, hnn1⟩ : ∃ q, n0 + 1 = q := ⟨_, rfl⟩; rw [hnn1] at own ⊢; have Nn1 : n1 ≤ n0 + 1 := (by omega); clear hnn1; have R1 := Lib.hid (R0.out.byte own kt); clear own kt)
    | fail)
  clear a0 a1 a2 a3 a6 a7 a8 a9 a10
  obtain ⟨a0, a1, a2, a3, -, -, a6, a7, a8, a9, a10⟩ := HX.out v1 R1.out.bx
  go_upto_region 3 with (first
    | (at_builtin; refine apb (m := 32) (c' := 32) (news := x.tree.b) ?_ (.tmp 16) (.tmp 18) ?_ ⟨w.heap.size, 4, none⟩ ?_ ?_ R1.out.own x.tree.h (id_news (HX.out _ R1.out.bx).2.2.2.2.1) ?_ R1.out.hB ?_; rfl; rfl; rfl; rfl; omega; intro A2 c2 v2 own kt; obtain ⟨n2, hnn2⟩ : ∃ q, n1 + 32 = q := ⟨_, rfl⟩; rw [hnn2] at own ⊢; have Nn2 : n2 ≤ n1 + 32 := (by omega); clear hnn2; have R2 := Lib.hid (R1.out.next own kt); clear own kt)
    | fail)
  clear a0 a1 a2 a3 a6 a7 a8 a9 a10
  obtain ⟨a0, a1, a2, a3, -, -, a6, a7, a8, a9, a10⟩ := HX.out v2 R2.out.bx
  go_upto_region 4 with (first
    | (at_builtin; refine apb (w := v2.alloc (.cells #[.int .u8 (nP : Int)] 5)) (m := 1) (c' := 1) (news := [UInt8.ofNat nP]) ?_ (.tmp 20) (.tmp 25) ?_ ⟨v2.heap.size, 0, none⟩ ?_ ?_ (R2.out.own.alloc _) ?_ (one_byte (by omega)) ?_ ?_ ?_; rfl; rfl; rfl; rfl; rfl; omega; (have := R2.out.hB; simp; omega); intro A3 c3 v3 own kt; obtain ⟨n3, hnn3⟩ : ∃ q, n2 + 1 = q := ⟨_, rfl⟩; rw [hnn3] at own ⊢; have Nn3 : n3 ≤ n2 + 1 := (by omega); clear hnn3; have R3 := Lib.hid (R2.out.byte own kt); clear own kt)
    | fail)
  clear a0 a1 a2 a3 a6 a7 a8 a9 a10
  obtain ⟨a0, a1, a2, a3, -, -, a6, a7, a8, a9, a10⟩ := HX.out v3 R3.out.bx
  go_wp2_with fail
  go_loopw [0, 30] (fun v i wr => ∃ (k m : Nat) (B : Option Addr) (cc : Nat), k ≤ nP ∧ i = .int .i64 (k : Int) ∧ v = .slice B m cc ∧ m ≤ n3 + 32 * k ∧ Hid (Ry w base w.heap.size ox wr B m cc ((((l0 ++ [UInt8.ofNat K]) ++ x.tree.b) ++ [UInt8.ofNat nP]) ++ (x.ps.take k).flatMap Idv.b))) (fun _ i _ => nP - (intOf i).toNat)
  case atStart => exact ⟨0, n3, A3, c3, Nat.zero_le _, rfl, rfl, by omega, by simpa using R3⟩
  case round =>
    obtain ⟨k, m, B, cc, hk, rfl, rfl, hm, RR⟩ := hrel
    by_cases hlt : k < nP
    · have hd : decide ((k : Int) < (nP : Int)) = true := by simp; omega
      have hk0 : (0 : Int) ≤ (k : Int) := Int.natCast_nonneg _
      have hk1 : (k : Int) < (nP : Int) := by omega
      obtain ⟨b, o, rfl, hbl, hrg⟩ := (HP.out wr RR.out.kt).at_ hlt
      have hkl : k < x.ps.length := by rw [HLP.out]; exact hlt
      have HST := Lib.hid (ids_step hkl)
      obtain ⟨r, hr⟩ : ∃ r, x.ps[k] = r := ⟨_, rfl⟩
      rw [hr] at hrg HST
      obtain ⟨zI, hzI⟩ : ∃ i, Idv.zero = i := ⟨_, rfl⟩
      have ZZ : Hid (∀ w : World, (zeroValue 27).run Tryz.prog w = .ok (.agg zI.cells.toArray) w) := Lib.hid (by rw [← hzI]; exact zero_id)
      obtain ⟨wA, hwA⟩ : ∃ wA, wr.alloc (.cells zI.cells.toArray 27) = wA := ⟨_, rfl⟩
      have YA : Lies wA wr.heap.size 32 zI.cells := by
        rw [← hwA]
        have := Lies.new wr zI.cells 27
        rwa [id_sz] at this
      obtain ⟨w5, hw5⟩ : ∃ w5, wA.setCells wr.heap.size 0 r.cells = w5 := ⟨_, rfl⟩
      have Y5 : Hid (Lies w5 wr.heap.size 32 r.cells) := Lib.hid (by rw [← hw5]; exact YA.set_ (id_sz _))
      have C5 : Below wr.heap.size wr w5 := by rw [← hw5, ← hwA]; exact below_setCells ((Below.refl _ _).alloc (Nat.le_refl _) _) (Nat.le_refl _) _ _
      have RQ := Lib.hid (RR.out.fresh C5)
      have HWA := Lib.hid hwA
      have HW5 := Lib.hid hw5
      have TA := Lib.hid YA.th
      have HRG := Lib.hid hrg
      clear hwA hw5 YA C5 hrg hr hzI
      go_upto_region 7 with (first
        | ((with_reducible refine ldi (.tmp 32) ?_ ?_ b (o + k * 32) r ?_ HRG.out ?_); rfl; rfl; (first | rfl | go_simp))
        | ((with_reducible refine alt 27 ?_ ?_ zI.cells ZZ.out ?_); rfl; rfl; rw [HWA.out]; (try simp only [Act.put, List.setIfInBounds_toArray, List.set_cons_succ, List.set_cons_zero]))
        | ((with_reducible refine sti (.tmp 6) (.tmp 33) ?_ ?_ wr.heap.size 0 r ?_ ?_ TA.out ?_); rfl; rfl; rfl; rfl; rw [HW5.out])
        | fail)
      go_wp2_with (first
        | (at_builtin; refine apb (m := 32) (c' := 32) (news := r.b) ?_ (.tmp 34) (.tmp 35) ?_ ⟨wr.heap.size, 0, none⟩ ?_ ?_ RQ.out.own r.h (id_news Y5.out.rg) ?_ RQ.out.hB ?_; rfl; rfl; rfl; rfl; omega; intro B2 c2 w6 own kt; obtain ⟨m2, hm2⟩ : ∃ q, m + 32 = q := ⟨_, rfl⟩; rw [hm2] at own ⊢; have M2 : m2 ≤ m + 32 := (by omega); clear hm2; have R6 := Lib.hid (RQ.out.next own kt); clear own kt)
        | fail)
      go_roundw
      case rel => exact ⟨k + 1, m2, B2, c2, by omega, by go_num, rfl, by omega, Lib.hid (by rw [HST.out, ← List.append_assoc]; exact R6.out)⟩
      case measure => simp [intOf]; omega
    · have hd : decide ((k : Int) < (nP : Int)) = false := by simp; omega
      have ek : nP = k := by omega
      subst ek
      have etk : x.ps.take nP = x.ps := List.take_of_length_le (by rw [HLP.out]; exact Nat.le_refl _)
      rw [etk] at RR
      clear etk a0 a1 a2 a3 a6 a7 a8 a9 a10
      go_upto_region 9 with fail
      obtain ⟨a0, a1, a2, a3, -, -, a6, a7, a8, a9, a10⟩ := HX.out wr RR.out.bx
      go_upto_region 10 with (first
        | (at_builtin; refine apb (m := 32) (c' := 32) (news := x.base.b) ?_ (.tmp 38) (.tmp 40) ?_ ⟨w.heap.size, 36, none⟩ ?_ ?_ RR.out.own x.base.h (id_news (HX.out _ RR.out.bx).2.2.2.2.2.1) ?_ RR.out.hB ?_; rfl; rfl; rfl; rfl; omega; intro A4 c4 v4 own kt; obtain ⟨n4, hnn4⟩ : ∃ q, m + 32 = q := ⟨_, rfl⟩; rw [hnn4] at own ⊢; have Nn4 : n4 ≤ m + 32 := (by omega); clear hnn4; have R4 := Lib.hid (RR.out.next own kt); clear own kt)
        | fail)
      clear a0 a1 a2 a3 a6 a7 a8 a9 a10
      obtain ⟨a0, a1, a2, a3, -, -, a6, a7, a8, a9, a10⟩ := HX.out v4 R4.out.bx
      go_upto_region 11 with (first
        | (at_builtin; refine apb (w := v4.alloc (.cells #[.int .u8 (nE : Int)] 5)) (m := 1) (c' := 1) (news := [UInt8.ofNat nE]) ?_ (.tmp 42) (.tmp 48) ?_ ⟨v4.heap.size, 0, none⟩ ?_ ?_ (R4.out.own.alloc _) ?_ (one_byte (by omega)) ?_ ?_ ?_; rfl; rfl; rfl; rfl; rfl; omega; (have := R4.out.hB; simp; omega); intro A5 c5 v5 own kt; obtain ⟨n5, hnn5⟩ : ∃ q, n4 + 1 = q := ⟨_, rfl⟩; rw [hnn5] at own ⊢; have Nn5 : n5 ≤ n4 + 1 := (by omega); clear hnn5; have R5 := Lib.hid (R4.out.byte own kt); clear own kt)
        | fail)
      clear a0 a1 a2 a3 a6 a7 a8 a9 a10
      obtain ⟨wo, hwo⟩ : ∃ wo : World, wo = wr := ⟨_, rfl⟩
      clear hwo
      obtain ⟨a0, a1, a2, a3, -, -, a6, a7, a8, a9, a10⟩ := HX.out v5 R5.out.bx
      go_wp2_with fail
      go_loopw [0, 54] (fun v i wr => ∃ (k m : Nat) (B : Option Addr) (cc : Nat), k ≤ nE ∧ i = .int .i64 (k : Int) ∧ v = .slice B m cc ∧ m ≤ n5 + 400 * k ∧ Hid (Ry w base w.heap.size ox wr B m cc (((((((l0 ++ [UInt8.ofNat K]) ++ x.tree.b) ++ [UInt8.ofNat nP]) ++ x.ps.flatMap Idv.b) ++ x.base.b) ++ [UInt8.ofNat nE]) ++ (x.es.take k).flatMap chB))) (fun _ i _ => nE - (intOf i).toNat)
      case atStart => exact ⟨0, n5, A5, c5, Nat.zero_le _, rfl, rfl, by omega, by simpa using R5⟩
      case round =>
        obtain ⟨k, m, B, cc, hk, rfl, rfl, hm, RR⟩ := hrel
        by_cases hlt : k < nE
        · have hd : decide ((k : Int) < (nE : Int)) = true := by simp; omega
          have hk0 : (0 : Int) ≤ (k : Int) := Int.natCast_nonneg _
          have hk1 : (k : Int) < (nE : Int) := by omega
          obtain ⟨b, o, rfl, hbl, hrg⟩ := (HE.out wr RR.out.kt).at_ hlt
          have hkl : k < x.es.length := by rw [HLE.out]; exact hlt
          have HST := Lib.hid (chs_step hkl)
          have hsz := HCH.out _ (List.getElem_mem hkl)
          obtain ⟨r, hr⟩ : ∃ r, x.es[k] = r := ⟨_, rfl⟩
          rw [hr] at hrg HST hsz
          obtain ⟨hsp, hstt⟩ := hsz
          obtain ⟨w5, hw5⟩ : ∃ w5, wr.alloc (.cells r.cells.toArray 71) = w5 := ⟨_, rfl⟩
          have Y5 : Hid (Lt w5 wr.heap.size 71 3 r.cells) := Lib.hid (by rw [← hw5]; exact ⟨Lies.new wr r.cells _, _, _, heap_alloc_new wr _⟩)
          have C5 : Below wr.heap.size wr w5 := by rw [← hw5]; exact (Below.refl _ _).alloc (Nat.le_refl _) _
          have RQ := Lib.hid (RR.out.fresh C5)
          have HW5 : Hid (wr.alloc (.cells #[.string r.p, .bool r.is, .string r.t] 71) = w5) := Lib.hid hw5
          have HRG := Lib.hid hrg
          clear hw5 C5 hrg hr
          go_upto_region 14 with (first
            | ((with_reducible refine ldc (.tmp 56) ?_ ?_ b (o + k * 3) r ?_ HRG.out ?_); rfl; rfl; (first | rfl | go_simp))
            | fail)
          rw [HW5.out]
          have y0 : w5.cell? ⟨wr.heap.size, 0, none⟩ = some (.string r.p) := Y5.out.ls.cell rfl
          go_upto_region 15 with (first
            | (go_at_call 46; refine (layWord2_any RQ.out.own RQ.out.hB (by omega) r.p (by omega)).mono ?_; rintro e v6 ⟨A6, c6, rfl, own, kt⟩; obtain ⟨n6, hnn6⟩ : ∃ q, m + 1 + r.p.size = q := ⟨_, rfl⟩; rw [hnn6] at own ⊢; have Nn6 : n6 ≤ m + 1 + r.p.size := (by omega); clear hnn6; have Y6 := Lib.hid (Y5.out.kt kt (by decide)); have R6 := Lib.hid (RQ.out.next own kt); clear own kt)
            | fail)
          clear y0
          have y1 : v6.cell? ⟨wr.heap.size, 1, none⟩ = some (.bool r.is) := Y6.out.ls.cell rfl
          rcases hi : r.is with _ | _
          · have HI : Hid (r.is = false) := Lib.hid hi
            rw [hi] at y1
            clear hi
            go_upto_region 18 with (first
              | fail)
            clear y1
            go_upto_region 19 with (first
              | (at_builtin; refine apb (w := v6.alloc (.cells #[.int .u8 0] 5)) (m := 1) (c' := 1) (news := [UInt8.ofNat 0]) ?_ (.tmp 64) (.tmp 66) ?_ ⟨v6.heap.size, 0, none⟩ ?_ ?_ (R6.out.own.alloc _) ?_ (one_byte (k := 0) (by omega)) ?_ ?_ ?_; rfl; rfl; rfl; rfl; rfl; omega; (have := R6.out.hB; simp; omega); intro A7 c7 v7 own kt; obtain ⟨n7, hnn7⟩ : ∃ q, n6 + 1 = q := ⟨_, rfl⟩; rw [hnn7] at own ⊢; have Nn7 : n7 ≤ n6 + 1 := (by omega); clear hnn7; have Y7 := Lib.hid ((Y6.out.kt (Kt.alloc _ (by first | exact R6.out.hB | omega) _) (by decide)).kt kt (by decide)); have R7 := Lib.hid (R6.out.byte own kt); clear own kt)
              | fail)
            have y2 : v7.cell? ⟨wr.heap.size, 2, none⟩ = some (.string r.t) := Y7.out.ls.cell rfl
            go_wp2_with (first
              | (go_at_call 45; refine (layText2_any R7.out.own R7.out.hB (by omega) r.t (by omega)).mono ?_; rintro e v8 ⟨A8, c8, rfl, own, kt⟩; obtain ⟨n8, hnn8⟩ : ∃ q, n7 + 2 + r.t.size = q := ⟨_, rfl⟩; rw [hnn8] at own ⊢; have Nn8 : n8 ≤ n7 + 2 + r.t.size := (by omega); clear hnn8; have R8 := Lib.hid (R7.out.next own kt); clear own kt)
              | fail)
            go_roundw
            case rel => exact ⟨k + 1, n8, A8, c8, by omega, by go_num, rfl, by omega, Lib.hid (by
              have := R8.out
              rw [HST.out, show chB r = [UInt8.ofNat r.p.size] ++ strB r.p ++ [UInt8.ofNat 0] ++ S3.be 2 r.t.size ++ strB r.t from by unfold chB; rw [HI.out]; rfl]
              simpa only [List.append_assoc] using this)⟩
            case measure => simp [intOf]; omega
          · have HI : Hid (r.is = true) := Lib.hid hi
            rw [hi] at y1
            clear hi
            go_upto_region 18 with (first
              | fail)
            clear y1
            go_upto_region 19 with (first
              | (at_builtin; refine apb (w := v6.alloc (.cells #[.int .u8 1] 5)) (m := 1) (c' := 1) (news := [UInt8.ofNat 1]) ?_ (.tmp 64) (.tmp 66) ?_ ⟨v6.heap.size, 0, none⟩ ?_ ?_ (R6.out.own.alloc _) ?_ (one_byte (k := 1) (by omega)) ?_ ?_ ?_; rfl; rfl; rfl; rfl; rfl; omega; (have := R6.out.hB; simp; omega); intro A7 c7 v7 own kt; obtain ⟨n7, hnn7⟩ : ∃ q, n6 + 1 = q := ⟨_, rfl⟩; rw [hnn7] at own ⊢; have Nn7 : n7 ≤ n6 + 1 := (by omega); clear hnn7; have Y7 := Lib.hid ((Y6.out.kt (Kt.alloc _ (by first | exact R6.out.hB | omega) _) (by decide)).kt kt (by decide)); have R7 := Lib.hid (R6.out.byte own kt); clear own kt)
              | fail)
            have y2 : v7.cell? ⟨wr.heap.size, 2, none⟩ = some (.string r.t) := Y7.out.ls.cell rfl
            go_wp2_with (first
              | (go_at_call 45; refine (layText2_any R7.out.own R7.out.hB (by omega) r.t (by omega)).mono ?_; rintro e v8 ⟨A8, c8, rfl, own, kt⟩; obtain ⟨n8, hnn8⟩ : ∃ q, n7 + 2 + r.t.size = q := ⟨_, rfl⟩; rw [hnn8] at own ⊢; have Nn8 : n8 ≤ n7 + 2 + r.t.size := (by omega); clear hnn8; have R8 := Lib.hid (R7.out.next own kt); clear own kt)
              | fail)
            go_roundw
            case rel => exact ⟨k + 1, n8, A8, c8, by omega, by go_num, rfl, by omega, Lib.hid (by
              have := R8.out
              rw [HST.out, show chB r = [UInt8.ofNat r.p.size] ++ strB r.p ++ [UInt8.ofNat 1] ++ S3.be 2 r.t.size ++ strB r.t from by unfold chB; rw [HI.out]; rfl]
              simpa only [List.append_assoc] using this)⟩
            case measure => simp [intOf]; omega
        · have hd : decide ((k : Int) < (nE : Int)) = false := by simp; omega
          have ek : nE = k := by omega
          subst ek
          have etk : x.es.take nE = x.es := List.take_of_length_le (by rw [HLE.out]; exact Nat.le_refl _)
          rw [etk] at RR
          clear etk a0 a1 a2 a3 a6 a7 a8 a9 a10
          go_upto_region 21 with fail
          obtain ⟨a0, a1, a2, a3, -, -, a6, a7, a8, a9, a10⟩ := HX.out wr RR.out.bx
          go_upto_region 22 with (first
            | (go_at_call 66; refine (S3.put_u32 RR.out.own.sl (Nat.le_refl _) x.num _ rfl hnb (by omega)).mono ?_; rintro e v16 ⟨gv16, hg, rfl, hb1, hB1⟩; have own := OwnB.of_bl hb1 (Nat.le_trans RR.out.hB hg) (by rw [List.length_append, S3.be_len, RR.out.len]) (by unfold maxLen; omega); obtain ⟨n16, hnn16⟩ : ∃ q, m + 4 = q := ⟨_, rfl⟩; rw [hnn16] at own ⊢; have Nn16 : n16 ≤ m + 4 := (by omega); clear hnn16; have R16 := Lib.hid (RR.out.next own (Kt.fresh hB1 RR.out.hB)); clear own hb1 hB1 hg)
            | fail)
          clear a0 a1 a2 a3 a6 a7 a8 a9 a10
          obtain ⟨a0, a1, a2, a3, -, -, a6, a7, a8, a9, a10⟩ := HX.out v16 R16.out.bx
          go_upto_region 23 with (first
            | (go_at_call 66; refine (S3.put_u32 R16.out.own.sl (Nat.le_refl _) x.auth _ rfl hab (by omega)).mono ?_; rintro e v17 ⟨gv17, hg, rfl, hb1, hB1⟩; have own := OwnB.of_bl hb1 (Nat.le_trans R16.out.hB hg) (by rw [List.length_append, S3.be_len, R16.out.len]) (by unfold maxLen; omega); obtain ⟨n17, hnn17⟩ : ∃ q, n16 + 4 = q := ⟨_, rfl⟩; rw [hnn17] at own ⊢; have Nn17 : n17 ≤ n16 + 4 := (by omega); clear hnn17; have R17 := Lib.hid (R16.out.next own (Kt.fresh hB1 R16.out.hB)); clear own hb1 hB1 hg)
            | fail)
          clear a0 a1 a2 a3 a6 a7 a8 a9 a10
          obtain ⟨a0, a1, a2, a3, -, -, a6, a7, a8, a9, a10⟩ := HX.out v17 R17.out.bx
          go_wp2_with (first
            | (go_at_call 46; refine (layWord2_any R17.out.own R17.out.hB (by omega) x.note (by omega)).mono ?_; rintro e v18 ⟨A18, c18, rfl, own, kt⟩; obtain ⟨n18, hnn18⟩ : ∃ q, n17 + 1 + x.note.size = q := ⟨_, rfl⟩; rw [hnn18] at own ⊢; have Nn18 : n18 ≤ n17 + 1 + x.note.size := (by omega); clear hnn18; have R18 := Lib.hid (R17.out.next own kt); clear own kt)
            | fail)
          go_ret
          refine ⟨A18, n18, c18, rfl, ?_, R18.out.kt⟩
          have := R18.out.own
          rw [← HK.out, ← HLP.out, ← HLE.out] at this
          unfold comB
          simpa only [List.append_assoc] using this
end Go.Proofs.YtcofkhmgmemkmaaGreatDoor
namespace Go.Proofs.YtcofkhmgmemkmaaGreatDoor
set_option linter.unusedVariables false
set_option linter.unusedSimpArgs false
open Go.RowKit Go.WideShapes Go.ChangeShapes Go.Deep Go.Shelf
attribute [local irreducible] wpQuiet

/-- The bytes of a leaf. -/
def leafB (l : Lf) : List UInt8 := [UInt8.ofNat l.p.size] ++ strB l.p ++ l.id.b
/-- The bytes of a sound object. -/
def bytesW (x : Ov) : List UInt8 := [UInt8.ofNat x.kind.toNat] ++ (if x.kind = 1 then S3.be 2 x.text.size ++ strB x.text else if x.kind = 2 then [UInt8.ofNat x.lv.length] ++ x.lv.flatMap leafB else comB x)
theorem leafs_step {l : List Lf} {k : Nat} (h : k < l.length) : (l.take (k + 1)).flatMap leafB = (l.take k).flatMap leafB ++ leafB l[k] := by
  rw [List.take_succ_eq_append_getElem h, List.flatMap_append, List.flatMap_cons, List.flatMap_nil, List.append_nil]
theorem fitP_sizes {p t : ByteArray} (h : fitP p t = true) : p.size ≤ 48 ∧ t.size ≤ 256 := by
  unfold fitP at h
  simp only [Bool.and_eq_true, decide_eq_true_eq] at h
  exact ⟨h.1.1.2, h.1.2⟩
theorem tree_sizes {l : List Lf} (h : treeW l = true) : l.length ≤ 32 ∧ ∀ x ∈ l, x.p.size ≤ 48 := by
  unfold treeW rightR fitW at h
  simp only [Bool.and_eq_true, decide_eq_true_eq, List.all_eq_true] at h
  obtain ⟨_, ⟨h1, h2⟩, _⟩ := h
  refine ⟨by simpa [rowsL] using h1, fun x hx => ?_⟩
  have := h2 (rowL x) (List.mem_map.2 ⟨x, hx, rfl⟩)
  exact (fitP_sizes (p := x.p) (t := ⟨#[]⟩) this).1
theorem com_ok {x : Ov} {P E : Sl} (h : comW x = true) (hP : x.ps.length = P.n) (hE : x.es.length = E.n) : Cok x P E := by
  unfold comW at h
  simp only [Bool.and_eq_true, Bool.not_eq_true', decide_eq_false_iff_not] at h
  obtain ⟨⟨⟨_, h1⟩, h2⟩, h3⟩ := h
  have h4 : (0 ≤ x.style ∧ x.style < 256) ∧ x.ps.length ≤ 2 := by
    unfold styleW at h3
    split at h3
    · simp only [Bool.and_eq_true, beq_iff_eq] at h3
      omega
    · split at h3
      · simp only [Bool.and_eq_true, beq_iff_eq] at h3
        omega
      · split at h3
        · simp only [Bool.and_eq_true, beq_iff_eq] at h3
          omega
        · cases h3
  unfold rightC fitW at h2
  simp only [Bool.and_eq_true, decide_eq_true_eq, List.all_eq_true] at h2
  obtain ⟨⟨⟨h5, h6⟩, _⟩, _⟩ := h2
  exact ⟨h4.1, by omega, by omega, fun c hc => fitP_sizes (h6 c hc), by omega⟩
/-- What laid gives. -/
def Laid (w : World) (x : Ov) (e : Ending) (w' : World) : Prop := ∃ A n c, e = .returned (.slice A n c) ∧ OwnB w' w.heap.size A n c (bytesW x) ∧ Below w.heap.size w w'
theorem zero_lf3 (w : World) : (zeroValue 68).run Tryz.prog w = .ok (.agg zLf.cells.toArray) w := zero_lf w
set_option maxRecDepth 100000 in
set_option maxHeartbeats 4000000 in
theorem laid_blob {w : World} {x : Ov} {L P E : Sl} (h : Obj3 w w.heap.size x L P E) (K1 : x.kind = 1) (hs : x.text.size ≤ 256) :
    Calls Tryz.prog 23 #[ofV (x.at_ L P E)] w (Laid w x) := by
  obtain ⟨AL, nL, cL⟩ := L
  obtain ⟨AP, nP, cP⟩ := P
  obtain ⟨AE, nE, cE⟩ := E
  obtain ⟨ox, w1, hb⟩ := Bxo.mk_ w x ⟨AL, nL, cL⟩ ⟨AP, nP, cP⟩ ⟨AE, nE, cE⟩
  have HBB := Lib.hid hb
  rw [hb.eq]
  obtain ⟨w2, hw2⟩ : ∃ w2, w1.alloc (.cells #[.int .u8 1] 5) = w2 := ⟨_, rfl⟩
  have HX : Hid (∀ W, Bl W w.heap.size 34 ox.cells → W.cell? ⟨w.heap.size, 0, none⟩ = some (.int .i64 x.kind) ∧ W.cell? ⟨w.heap.size, 1, none⟩ = some (.string x.text) ∧ W.cell? ⟨w.heap.size, 2, none⟩ = some (.slice AL nL cL) ∧ W.cell? ⟨w.heap.size, 3, none⟩ = some (.int .i64 x.style) ∧
    W.rangeAt w.heap.size 4 x.tree.cells ∧ W.rangeAt w.heap.size 36 x.base.cells ∧ W.cell? ⟨w.heap.size, 68, none⟩ = some (.slice AP nP cP) ∧ W.cell? ⟨w.heap.size, 69, none⟩ = some (.slice AE nE cE) ∧
    W.cell? ⟨w.heap.size, 70, none⟩ = some (.int .u32 (x.num : Int)) ∧ W.cell? ⟨w.heap.size, 71, none⟩ = some (.int .u32 (x.auth : Int)) ∧ W.cell? ⟨w.heap.size, 72, none⟩ = some (.string x.note)) := Lib.hid fun W hW => obj_lies (by rw [hb.eq]; have := hW.lies; rwa [of_sz] at this)
  have x1 : Bl w1 w.heap.size 34 ox.cells := by rw [← hb.al]; exact Bl.new w _ _
  have BX1 := Lib.hid x1
  have R0 : Hid (Ry w w.heap.size w.heap.size ox w2 (some ⟨w1.heap.size, 0, none⟩) 1 1 [UInt8.ofNat 1]) := Lib.hid ⟨by
    rw [← hw2]
    exact OwnB.of_bl (Bl.new w1 5 [.int .u8 1]) hb.bl.size rfl (by unfold maxLen; omega), by rw [← hw2]; exact x1.alloc _, by rw [← hw2]; exact (Kt.fresh hb.bl (Nat.le_refl _)).trans (Kt.alloc w1 hb.bl.size _), by rw [← hw2]; simp; have := hb.bl.size; omega⟩
  have HL : Hid (∀ W, Kt w.heap.size w W → Obj3 W w.heap.size x ⟨AL, nL, cL⟩ ⟨AP, nP, cP⟩ ⟨AE, nE, cE⟩) := Lib.hid fun W hW => h.below hW.bel
  have HBY : Hid (∀ l, S3.be 2 x.text.size ++ strB x.text = l → bytesW x = [UInt8.ofNat 1] ++ l) := Lib.hid fun l hl => by rw [← hl]; unfold bytesW; rw [K1]; rfl
  have HLL := Lib.hid h.l.len
  have HPL := Lib.hid h.p.len
  have HEL := Lib.hid h.e.len
  have HW2 := Lib.hid hw2
  have hw0 : IntKind.u8.wrap x.kind = 1 := by rw [K1]; rfl
  have d1 : (x.kind == 1) = true := by simp [K1]
  have HK := Lib.hid K1
  clear h hb hw2 x1 K1
  go_enter Tryz.func23, Tryz.ntmps23
  go_upto_region 1 with fail
  rw [HBB.out.al]
  obtain ⟨a0, a1, a2, a3, -, -, a6, a7, a8, a9, a10⟩ := HX.out w1 BX1.out
  go_upto_region 2 with fail
  rw [HW2.out]
  clear a0 a1 a2 a3 a6 a7 a8 a9 a10
  obtain ⟨a0, a1, a2, a3, -, -, a6, a7, a8, a9, a10⟩ := HX.out w2 R0.out.bx
  go_wp2_with (first
    | (go_at_call 45; refine (layText2_any R0.out.own R0.out.hB (by omega) x.text (by omega)).mono ?_; rintro e v1 ⟨A1, c1, rfl, own, kt⟩; obtain ⟨n1, hnn1⟩ : ∃ q, 1 + 2 + x.text.size = q := ⟨_, rfl⟩; rw [hnn1] at own ⊢; have Nn1 : n1 ≤ 1 + 2 + x.text.size := (by omega); clear hnn1; have R1 := Lib.hid (R0.out.next own kt); clear own kt)
    | fail)
  go_ret
  refine ⟨A1, n1, c1, rfl, ?_, R1.out.kt.bel⟩
  have := R1.out.own
  rw [List.append_assoc, ← HBY.out _ rfl] at this
  exact this
set_option maxRecDepth 100000 in
set_option maxHeartbeats 4000000 in
theorem laid_tree {w : World} {x : Ov} {L P E : Sl} (h : Obj3 w w.heap.size x L P E) (K2 : x.kind = 2) (hs : x.lv.length ≤ 32 ∧ ∀ l ∈ x.lv, l.p.size ≤ 48) :
    Calls Tryz.prog 23 #[ofV (x.at_ L P E)] w (Laid w x) := by
  obtain ⟨AL, nL, cL⟩ := L
  obtain ⟨AP, nP, cP⟩ := P
  obtain ⟨AE, nE, cE⟩ := E
  obtain ⟨ox, w1, hb⟩ := Bxo.mk_ w x ⟨AL, nL, cL⟩ ⟨AP, nP, cP⟩ ⟨AE, nE, cE⟩
  have HBB := Lib.hid hb
  rw [hb.eq]
  obtain ⟨w2, hw2⟩ : ∃ w2, w1.alloc (.cells #[.int .u8 2] 5) = w2 := ⟨_, rfl⟩
  have HX : Hid (∀ W, Bl W w.heap.size 34 ox.cells → W.cell? ⟨w.heap.size, 0, none⟩ = some (.int .i64 x.kind) ∧ W.cell? ⟨w.heap.size, 1, none⟩ = some (.string x.text) ∧ W.cell? ⟨w.heap.size, 2, none⟩ = some (.slice AL nL cL) ∧ W.cell? ⟨w.heap.size, 3, none⟩ = some (.int .i64 x.style) ∧
    W.rangeAt w.heap.size 4 x.tree.cells ∧ W.rangeAt w.heap.size 36 x.base.cells ∧ W.cell? ⟨w.heap.size, 68, none⟩ = some (.slice AP nP cP) ∧ W.cell? ⟨w.heap.size, 69, none⟩ = some (.slice AE nE cE) ∧
    W.cell? ⟨w.heap.size, 70, none⟩ = some (.int .u32 (x.num : Int)) ∧ W.cell? ⟨w.heap.size, 71, none⟩ = some (.int .u32 (x.auth : Int)) ∧ W.cell? ⟨w.heap.size, 72, none⟩ = some (.string x.note)) := Lib.hid fun W hW => obj_lies (by rw [hb.eq]; have := hW.lies; rwa [of_sz] at this)
  have x1 : Bl w1 w.heap.size 34 ox.cells := by rw [← hb.al]; exact Bl.new w _ _
  have BX1 := Lib.hid x1
  have R0 : Hid (Ry w w.heap.size w.heap.size ox w2 (some ⟨w1.heap.size, 0, none⟩) 1 1 [UInt8.ofNat 2]) := Lib.hid ⟨by
    rw [← hw2]
    exact OwnB.of_bl (Bl.new w1 5 [.int .u8 2]) hb.bl.size rfl (by unfold maxLen; omega), by rw [← hw2]; exact x1.alloc _, by rw [← hw2]; exact (Kt.fresh hb.bl (Nat.le_refl _)).trans (Kt.alloc w1 hb.bl.size _), by rw [← hw2]; simp; have := hb.bl.size; omega⟩
  have HL : Hid (∀ W, Kt w.heap.size w W → Obj3 W w.heap.size x ⟨AL, nL, cL⟩ ⟨AP, nP, cP⟩ ⟨AE, nE, cE⟩) := Lib.hid fun W hW => h.below hW.bel
  have HBY : Hid (∀ l, [UInt8.ofNat x.lv.length] ++ x.lv.flatMap leafB = l → bytesW x = [UInt8.ofNat 2] ++ l) := Lib.hid fun l hl => by rw [← hl]; unfold bytesW; rw [K2]; rfl
  have HLL := Lib.hid h.l.len
  have HPL := Lib.hid h.p.len
  have HEL := Lib.hid h.e.len
  have HW2 := Lib.hid hw2
  have hw0 : IntKind.u8.wrap x.kind = 2 := by rw [K2]; rfl
  have d1 : (x.kind == 1) = false := by simp [K2]
  have d2 : (x.kind == 2) = true := by simp [K2]
  have HK := Lib.hid K2
  clear h hb hw2 x1 K2
  go_enter Tryz.func23, Tryz.ntmps23
  go_upto_region 1 with fail
  rw [HBB.out.al]
  obtain ⟨a0, a1, a2, a3, -, -, a6, a7, a8, a9, a10⟩ := HX.out w1 BX1.out
  go_upto_region 2 with fail
  rw [HW2.out]
  clear a0 a1 a2 a3 a6 a7 a8 a9 a10
  obtain ⟨a0, a1, a2, a3, -, -, a6, a7, a8, a9, a10⟩ := HX.out w2 R0.out.bx
  have hn32 : nL ≤ 32 := by have e : x.lv.length = nL := HLL.out; omega
  have HSZ := Lib.hid hs.2
  have hw1 : IntKind.u8.wrap (nL : Int) = (nL : Int) := by rw [IntKind.wrap_u8]; omega
  clear hs
  go_upto_region 7 with (first
    | (at_builtin; refine apb (w := w2.alloc (.cells #[.int .u8 (nL : Int)] 5)) (m := 1) (c' := 1) (news := [UInt8.ofNat nL]) ?_ (.tmp 20) (.tmp 25) ?_ ⟨w2.heap.size, 0, none⟩ ?_ ?_ (R0.out.own.alloc _) ?_ (one_byte (by omega)) ?_ ?_ ?_; rfl; rfl; rfl; rfl; rfl; omega; (have := R0.out.hB; simp; omega); intro A1 c1 v1 own kt; obtain ⟨n1, hnn1⟩ : ∃ q, 1 + 1 = q := ⟨_, rfl⟩; rw [hnn1] at own ⊢; have Nn1 : n1 ≤ 1 + 1 := (by omega); clear hnn1; have R1 := Lib.hid (R0.out.byte own kt); clear own kt)
    | fail)
  clear a0 a1 a2 a3 a6 a7 a8 a9 a10
  obtain ⟨a0, a1, a2, a3, -, -, a6, a7, a8, a9, a10⟩ := HX.out v1 R1.out.bx
  go_wp2_with fail
  go_loopw [3, 30] (fun v i wr => ∃ (k m : Nat) (B : Option Addr) (cc : Nat), k ≤ nL ∧ i = .int .i64 (k : Int) ∧ v = .slice B m cc ∧ m ≤ n1 + 100 * k ∧ Hid (Ry w w.heap.size w.heap.size ox wr B m cc (([UInt8.ofNat 2] ++ [UInt8.ofNat nL]) ++ (x.lv.take k).flatMap leafB))) (fun _ i _ => nL - (intOf i).toNat)
  case atStart => exact ⟨0, n1, A1, c1, Nat.zero_le _, rfl, rfl, by omega, by simpa using R1⟩
  case round =>
    obtain ⟨k, m, B, cc, hk, rfl, rfl, hm, RR⟩ := hrel
    by_cases hlt : k < nL
    · have hd : decide ((k : Int) < (nL : Int)) = true := by simp; omega
      have hk0 : (0 : Int) ≤ (k : Int) := Int.natCast_nonneg _
      have hk1 : (k : Int) < (nL : Int) := by omega
      obtain ⟨b, o, rfl, hbl, hrg⟩ := (HL.out wr RR.out.kt).l.at_ hlt
      have hkl : k < x.lv.length := by rw [HLL.out]; exact hlt
      have HST := Lib.hid (leafs_step hkl)
      have hsz := HSZ.out _ (List.getElem_mem hkl)
      obtain ⟨r, hr⟩ : ∃ r, x.lv[k] = r := ⟨_, rfl⟩
      rw [hr] at hrg HST hsz
      obtain ⟨wA, hwA⟩ : ∃ wA, wr.alloc (.cells zLf.cells.toArray 68) = wA := ⟨_, rfl⟩
      obtain ⟨w5, hw5⟩ : ∃ w5, wA.setCells wr.heap.size 0 r.cells = w5 := ⟨_, rfl⟩
      have Y5 : Hid (Lt w5 wr.heap.size 68 33 r.cells) := Lib.hid (by rw [← hw5, ← hwA]; exact Lt.made wr _ (lf_sz _) (lf_sz _))
      have TA : Hid (wA.there wr.heap.size 0 33) := Lib.hid (by
        rw [← hwA]
        have := (Lies.new wr zLf.cells 68).th
        rwa [lf_sz] at this)
      have C5 : Below wr.heap.size wr w5 := by rw [← hw5, ← hwA]; exact below_setCells ((Below.refl _ _).alloc (Nat.le_refl _) _) (Nat.le_refl _) _ _
      have RQ := Lib.hid (RR.out.fresh C5)
      have HWA := Lib.hid hwA
      have HW5 := Lib.hid hw5
      have HRG := Lib.hid hrg
      clear hwA hw5 C5 hrg hr
      go_upto_region 10 with (first
        | ((with_reducible refine ldl (.tmp 32) ?_ ?_ b (o + k * 33) r ?_ HRG.out ?_); rfl; rfl; (first | rfl | go_simp))
        | ((with_reducible refine alt 68 ?_ ?_ zLf.cells zero_lf ?_); rfl; rfl; rw [HWA.out]; (try simp only [Act.put, List.setIfInBounds_toArray, List.set_cons_succ, List.set_cons_zero]))
        | ((with_reducible refine stl (.tmp 5) (.tmp 33) ?_ ?_ wr.heap.size 0 r ?_ ?_ TA.out ?_); rfl; rfl; rfl; rfl; rw [HW5.out])
        | fail)
      have y0 : w5.cell? ⟨wr.heap.size, 0, none⟩ = some (.string r.p) := Y5.out.ls.cell rfl
      go_upto_region 11 with (first
        | (go_at_call 46; refine (layWord2_any RQ.out.own RQ.out.hB (by omega) r.p (by omega)).mono ?_; rintro e v2 ⟨A2, c2, rfl, own, kt⟩; obtain ⟨n2, hnn2⟩ : ∃ q, m + 1 + r.p.size = q := ⟨_, rfl⟩; rw [hnn2] at own ⊢; have Nn2 : n2 ≤ m + 1 + r.p.size := (by omega); clear hnn2; have Y6 := Lib.hid (Y5.out.kt kt (by decide)); have R2 := Lib.hid (RQ.out.next own kt); clear own kt)
        | fail)
      clear y0
      have HID : Hid (v2.rangeAt wr.heap.size 1 r.id.cells) := Lib.hid (by
        have := Y6.out.ls.rg
        unfold Lf.cells at this
        rw [show (Value.string r.p :: S3.bvs r.id.b) = [Value.string r.p] ++ S3.bvs r.id.b from rfl, rangeAt_app] at this
        exact this.2)
      go_wp2_with (first
        | (at_builtin; refine apb (m := 32) (c' := 32) (news := r.id.b) ?_ (.tmp 38) (.tmp 40) ?_ ⟨wr.heap.size, 1, none⟩ ?_ ?_ R2.out.own r.id.h (id_news HID.out) ?_ R2.out.hB ?_; rfl; rfl; rfl; rfl; omega; intro A3 c3 v3 own kt; obtain ⟨n3, hnn3⟩ : ∃ q, n2 + 32 = q := ⟨_, rfl⟩; rw [hnn3] at own ⊢; have Nn3 : n3 ≤ n2 + 32 := (by omega); clear hnn3; have R3 := Lib.hid (R2.out.next own kt); clear own kt)
        | fail)
      go_roundw
      case rel => exact ⟨k + 1, n3, A3, c3, by omega, by go_num, rfl, by omega, Lib.hid (by
        have := R3.out
        rw [HST.out, show leafB r = [UInt8.ofNat r.p.size] ++ strB r.p ++ r.id.b from rfl]
        simpa only [List.append_assoc] using this)⟩
      case measure => simp [intOf]; omega
    · have hd : decide ((k : Int) < (nL : Int)) = false := by simp; omega
      have ek : nL = k := by omega
      subst ek
      have etk : x.lv.take nL = x.lv := List.take_of_length_le (by rw [HLL.out]; exact Nat.le_refl _)
      rw [etk] at RR
      go_wp2_with fail
      go_ret
      refine ⟨B, m, cc, rfl, ?_, RR.out.kt.bel⟩
      have := RR.out.own
      rw [HBY.out _ rfl, HLL.out]
      simpa only [List.append_assoc] using this
set_option maxRecDepth 100000 in
set_option maxHeartbeats 4000000 in
theorem laid_com {w : World} {x : Ov} {L P E : Sl} (h : Obj3 w w.heap.size x L P E) (K3 : x.kind = 3) (hs : comW x = true) :
    Calls Tryz.prog 23 #[ofV (x.at_ L P E)] w (Laid w x) := by
  obtain ⟨AL, nL, cL⟩ := L
  obtain ⟨AP, nP, cP⟩ := P
  obtain ⟨AE, nE, cE⟩ := E
  obtain ⟨ox, w1, hb⟩ := Bxo.mk_ w x ⟨AL, nL, cL⟩ ⟨AP, nP, cP⟩ ⟨AE, nE, cE⟩
  have HBB := Lib.hid hb
  rw [hb.eq]
  obtain ⟨w2, hw2⟩ : ∃ w2, w1.alloc (.cells #[.int .u8 3] 5) = w2 := ⟨_, rfl⟩
  have HX : Hid (∀ W, Bl W w.heap.size 34 ox.cells → W.cell? ⟨w.heap.size, 0, none⟩ = some (.int .i64 x.kind) ∧ W.cell? ⟨w.heap.size, 1, none⟩ = some (.string x.text) ∧ W.cell? ⟨w.heap.size, 2, none⟩ = some (.slice AL nL cL) ∧ W.cell? ⟨w.heap.size, 3, none⟩ = some (.int .i64 x.style) ∧
    W.rangeAt w.heap.size 4 x.tree.cells ∧ W.rangeAt w.heap.size 36 x.base.cells ∧ W.cell? ⟨w.heap.size, 68, none⟩ = some (.slice AP nP cP) ∧ W.cell? ⟨w.heap.size, 69, none⟩ = some (.slice AE nE cE) ∧
    W.cell? ⟨w.heap.size, 70, none⟩ = some (.int .u32 (x.num : Int)) ∧ W.cell? ⟨w.heap.size, 71, none⟩ = some (.int .u32 (x.auth : Int)) ∧ W.cell? ⟨w.heap.size, 72, none⟩ = some (.string x.note)) := Lib.hid fun W hW => obj_lies (by rw [hb.eq]; have := hW.lies; rwa [of_sz] at this)
  have x1 : Bl w1 w.heap.size 34 ox.cells := by rw [← hb.al]; exact Bl.new w _ _
  have BX1 := Lib.hid x1
  have R0 : Hid (Ry w w.heap.size w.heap.size ox w2 (some ⟨w1.heap.size, 0, none⟩) 1 1 [UInt8.ofNat 3]) := Lib.hid ⟨by
    rw [← hw2]
    exact OwnB.of_bl (Bl.new w1 5 [.int .u8 3]) hb.bl.size rfl (by unfold maxLen; omega), by rw [← hw2]; exact x1.alloc _, by rw [← hw2]; exact (Kt.fresh hb.bl (Nat.le_refl _)).trans (Kt.alloc w1 hb.bl.size _), by rw [← hw2]; simp; have := hb.bl.size; omega⟩
  have HL : Hid (∀ W, Kt w.heap.size w W → Obj3 W w.heap.size x ⟨AL, nL, cL⟩ ⟨AP, nP, cP⟩ ⟨AE, nE, cE⟩) := Lib.hid fun W hW => h.below hW.bel
  have HBY : Hid (∀ l, comB x = l → bytesW x = [UInt8.ofNat 3] ++ l) := Lib.hid fun l hl => by rw [← hl]; unfold bytesW; rw [K3]; rfl
  have HLL := Lib.hid h.l.len
  have HPL := Lib.hid h.p.len
  have HEL := Lib.hid h.e.len
  have HW2 := Lib.hid hw2
  have hw0 : IntKind.u8.wrap x.kind = 3 := by rw [K3]; rfl
  have d1 : (x.kind == 1) = false := by simp [K3]
  have d2 : (x.kind == 2) = false := by simp [K3]
  have d3 : (x.kind == 3) = true := by simp [K3]
  have HK := Lib.hid K3
  clear h hb hw2 x1 K3
  go_enter Tryz.func23, Tryz.ntmps23
  go_upto_region 1 with fail
  rw [HBB.out.al]
  obtain ⟨a0, a1, a2, a3, -, -, a6, a7, a8, a9, a10⟩ := HX.out w1 BX1.out
  go_upto_region 2 with fail
  rw [HW2.out]
  clear a0 a1 a2 a3 a6 a7 a8 a9 a10
  obtain ⟨a0, a1, a2, a3, -, -, a6, a7, a8, a9, a10⟩ := HX.out w2 R0.out.bx
  have HC := Lib.hid (com_ok (P := ⟨AP, nP, cP⟩) (E := ⟨AE, nE, cE⟩) hs HPL.out HEL.out)
  have RG : Hid (w2.rangeAt w.heap.size 0 ox.cells) := Lib.hid R0.out.bx.rg
  have HLC := Lib.hid (layCommit_any (HL.out w2 R0.out.kt) HC.out R0.out.own R0.out.hB (by omega))
  rw [HBB.out.eq] at HLC
  clear hs
  go_wp2_with (first
    | ((with_reducible refine ldo (.tmp 1) ?_ ?_ w.heap.size 0 ox ?_ RG.out ?_); rfl; rfl; rfl)
    | fail)
  refine HLC.out.mono ?_
  rintro e w9 ⟨A, n, c, rfl, own, kt⟩
  have HO := Lib.hid own
  have HK9 := Lib.hid (R0.out.kt.trans kt)
  clear own kt
  go_wp2_with fail
  go_ret
  refine ⟨A, n, c, rfl, ?_, HK9.out.bel⟩
  rw [HBY.out _ rfl]
  exact HO.out
/-- Whose bytes can be laid. -/
def layW (x : Ov) : Prop := (x.kind = 1 ∧ x.text.size ≤ 256) ∨ (x.kind = 2 ∧ x.lv.length ≤ 32 ∧ ∀ l ∈ x.lv, l.p.size ≤ 48) ∨ (x.kind = 3 ∧ comW x = true)
theorem layW_of {x : Ov} (hs : soundW x = true) : layW x := by
  unfold soundW at hs
  by_cases K1 : x.kind = 1
  · rw [if_pos K1] at hs
    exact .inl ⟨K1, by simp only [decide_eq_true_eq] at hs; omega⟩
  · rw [if_neg K1] at hs
    by_cases K2 : x.kind = 2
    · rw [if_pos K2] at hs
      exact .inr (.inl ⟨K2, tree_sizes hs⟩)
    · rw [if_neg K2] at hs
      by_cases K3 : x.kind = 3
      · rw [if_pos K3] at hs
        exact .inr (.inr ⟨K3, hs⟩)
      · rw [if_neg K3] at hs
        cases hs
theorem laid_lay {w : World} {x : Ov} {L P E : Sl} (h : Obj3 w w.heap.size x L P E) (hs : layW x) :
    Calls Tryz.prog 23 #[ofV (x.at_ L P E)] w (Laid w x) := by
  rcases hs with ⟨K1, hs⟩ | ⟨K2, hs⟩ | ⟨K3, hs⟩
  · exact laid_blob h K1 hs
  · exact laid_tree h K2 hs
  · exact laid_com h K3 hs
theorem laid_any {w : World} {x : Ov} {L P E : Sl} (h : Obj3 w w.heap.size x L P E) (hs : soundW x = true) :
    Calls Tryz.prog 23 #[ofV (x.at_ L P E)] w (Laid w x) := laid_lay h (layW_of hs)
end Go.Proofs.YtcofkhmgmemkmaaGreatDoor
