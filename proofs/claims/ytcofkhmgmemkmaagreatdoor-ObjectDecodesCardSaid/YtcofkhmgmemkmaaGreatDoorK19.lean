/-
  OBJECTS: isSound.
  ROWS OF BYTES OF ONE'S OWN: appends to them; what isn't bytes stays as it was.
-/
import Derived.Test.YtcofkhmgmemkmaaGreatDoorK18
import Derived.Lib.AppendStr
namespace Go.Proofs.YtcofkhmgmemkmaaGreatDoor
set_option linter.unusedVariables false
set_option linter.unusedSimpArgs false
open Go.RowKit Go.WideShapes Go.ChangeShapes Go.Deep Go.Shelf
attribute [local irreducible] wpQuiet

/-- Whether the fields that count are as they may be. -/
def soundW (x : Ov) : Bool := if x.kind = 1 then decide ((x.text.size : Int) ≤ 256) else if x.kind = 2 then treeW x.lv else if x.kind = 3 then comW x else false
/-- An object's box behind a world. -/
structure Bxo (w : World) (x : Ov) (L P E : Sl) (ox : Of) (w1 : World) : Prop where
  al : w.alloc (.cells ox.cells.toArray 34) = w1
  eq : x.at_ L P E = ox
  bl : Below w.heap.size w w1
  sz : w1.heap.size = w.heap.size + 1
  x1 : Lies w1 w.heap.size 73 ox.cells
theorem Bxo.mk_ (w : World) (x : Ov) (L P E : Sl) : ∃ ox w1, Bxo w x L P E ox w1 := by
  refine ⟨x.at_ L P E, _, rfl, rfl, (Below.refl _ _).alloc (Nat.le_refl _) _, by simp, ?_⟩
  have := Lies.new w (x.at_ L P E).cells 34
  rwa [of_sz] at this
theorem Bxo.facts {w w1 : World} {x : Ov} {AL AP AE : Option Addr} {nL cL nP cP nE cE : Nat} {ox : Of} (h : Bxo w x ⟨AL, nL, cL⟩ ⟨AP, nP, cP⟩ ⟨AE, nE, cE⟩ ox w1) {W : World} (hW : Below w1.heap.size w1 W) :
    W.cell? ⟨w.heap.size, 0, none⟩ = some (.int .i64 x.kind) ∧ W.cell? ⟨w.heap.size, 1, none⟩ = some (.string x.text) ∧ W.cell? ⟨w.heap.size, 2, none⟩ = some (.slice AL nL cL) ∧ W.cell? ⟨w.heap.size, 3, none⟩ = some (.int .i64 x.style) ∧
    W.rangeAt w.heap.size 4 x.tree.cells ∧ W.rangeAt w.heap.size 36 x.base.cells ∧ W.cell? ⟨w.heap.size, 68, none⟩ = some (.slice AP nP cP) ∧ W.cell? ⟨w.heap.size, 69, none⟩ = some (.slice AE nE cE) ∧
    W.cell? ⟨w.heap.size, 70, none⟩ = some (.int .u32 (x.num : Int)) ∧ W.cell? ⟨w.heap.size, 71, none⟩ = some (.int .u32 (x.auth : Int)) ∧ W.cell? ⟨w.heap.size, 72, none⟩ = some (.string x.note) := obj_lies (by rw [h.eq]; exact h.x1.below hW (by rw [h.sz]; omega))
theorem Bxo.rg {w w1 : World} {x : Ov} {L P E : Sl} {ox : Of} (h : Bxo w x L P E ox w1) {W : World} (hW : Below w1.heap.size w1 W) : W.rangeAt w.heap.size 0 ox.cells := (h.x1.below hW (by rw [h.sz]; omega)).rg
set_option maxRecDepth 100000 in
set_option maxHeartbeats 4000000 in
theorem isSound_any {w : World} {x : Ov} {L P E : Sl} (h : Obj3 w w.heap.size x L P E) (hL : L.n ≤ 100000) (hP : P.n ≤ 1000000) (hE : E.n ≤ 1000000) :
    Calls Tryz.prog 44 #[ofV (x.at_ L P E)] w fun e w' => e = .returned (.bool (soundW x)) ∧ Below w.heap.size w w' := by
  obtain ⟨AL, nL, cL⟩ := L
  obtain ⟨AP, nP, cP⟩ := P
  obtain ⟨AE, nE, cE⟩ := E
  obtain ⟨ox, w1, hb⟩ := Bxo.mk_ w x ⟨AL, nL, cL⟩ ⟨AP, nP, cP⟩ ⟨AE, nE, cE⟩
  have HB := Lib.hid hb
  rw [hb.eq]
  have C2 := Lib.hid (isTree_any ((h.l.below hb.bl).more hb.bl.size) hL)
  have C3 := Lib.hid (isCommit_any ((h.below hb.bl).more hb.bl.size) hP hE)
  rw [hb.eq] at C3
  clear h hb
  go_enter Tryz.func44, Tryz.ntmps44
  go_upto_region 1 with fail
  rw [HB.out.al]
  obtain ⟨a0, a1, a2, -⟩ := HB.out.facts (Below.refl _ _)
  have R := Lib.hid (HB.out.rg (Below.refl _ _))
  by_cases K1 : x.kind = 1
  · have d1 : (x.kind == 1) = true := by simp [K1]
    go_wp2_with fail
    go_ret
    exact ⟨by unfold soundW; rw [if_pos K1]; rfl, HB.out.bl⟩
  · have d1 : (x.kind == 1) = false := by simp [K1]
    by_cases K2 : x.kind = 2
    · have d2 : (x.kind == 2) = true := by simp [K2]
      go_wp2_with fail
      refine C2.out.mono ?_
      rintro e w9 ⟨rfl, hb9⟩
      have HB9 := Lib.hid (HB.out.bl.trans (hb9.mono HB.out.bl.size))
      clear hb9
      go_wp2_with fail
      go_ret
      exact ⟨by unfold soundW; rw [if_neg K1, if_pos K2]; rfl, HB9.out⟩
    · have d2 : (x.kind == 2) = false := by simp [K2]
      by_cases K3 : x.kind = 3
      · have d3 : (x.kind == 3) = true := by simp [K3]
        go_wp2_with (first
          | ((with_reducible refine ldo (.tmp 1) ?_ ?_ w.heap.size 0 ox ?_ R.out ?_); rfl; rfl; rfl)
          | fail)
        refine C3.out.mono ?_
        rintro e w9 ⟨rfl, hb9⟩
        have HB9 := Lib.hid (HB.out.bl.trans (hb9.mono HB.out.bl.size))
        clear hb9
        go_wp2_with fail
        go_ret
        exact ⟨by unfold soundW; rw [if_neg K1, if_neg K2, if_pos K3]; rfl, HB9.out⟩
      · have d3 : (x.kind == 3) = false := by simp [K3]
        go_wp2_with fail
        go_ret
        exact ⟨by unfold soundW; rw [if_neg K1, if_neg K2, if_neg K3]; rfl, HB.out.bl⟩
end Go.Proofs.YtcofkhmgmemkmaaGreatDoor
namespace Go.Proofs.YtcofkhmgmemkmaaGreatDoor
set_option linter.unusedVariables false
set_option linter.unusedSimpArgs false
open Go.RowKit Go.WideShapes Go.ChangeShapes Go.Deep Go.Shelf

/-- What is below B, and what isn't bytes, is as it was. -/
structure Kt (B : Nat) (W W' : World) : Prop where
  bel : Below B W W'
  kp : ∀ (j : Nat) (cs : Array Value) (t : TypeId) (f : Nat × Nat), t ≠ 5 → W.heap[j]? = some (.cells cs t f) → W'.heap[j]? = some (.cells cs t f)
section
variable {B : Nat} {W W' W'' : World}
theorem Kt.refl (B : Nat) (W : World) : Kt B W W := ⟨Below.refl _ _, fun _ _ _ _ _ h => h⟩
theorem Kt.trans (h : Kt B W W') (k : Kt B W' W'') : Kt B W W'' := ⟨h.bel.trans k.bel, fun j cs t f ht hj => k.kp j cs t f ht (h.kp j cs t f ht hj)⟩
theorem Kt.fresh (h : Below W.heap.size W W') (hB : B ≤ W.heap.size) : Kt B W W' := ⟨h.mono hB, fun j cs t f _ hj => (h.block j (Array.getElem?_eq_some_iff.1 hj).1).trans hj⟩
theorem Kt.alloc (W : World) (hB : B ≤ W.heap.size) (o : Obj) : Kt B W (W.alloc o) := Kt.fresh ((Below.refl _ _).alloc (Nat.le_refl _) _) hB
theorem Kt.mono {B' : Nat} (h : Kt B W W') (hB : B' ≤ B) : Kt B' W W' := ⟨h.bel.mono hB, h.kp⟩
theorem Kt.grown {n c : Nat} {A : Option Addr} {l : List UInt8} (h : OwnB W B A n c l) (hg : W.grownBy W' (Value.slice A n c).ownBlock) (hB : B ≤ W.heap.size) : Kt B W W' := by
  refine ⟨(Below.refl B W).grown hg hB (fun k hk => (h.lt k hk).1), fun j cs t f ht hj => ?_⟩
  have hjl := (Array.getElem?_eq_some_iff.1 hj).1
  refine (hg.block j hjl fun e => ?_).trans hj
  rcases h.2 with ⟨h2, _⟩ | ⟨g, cap, cur, h2, _, hgb, _⟩
  · rw [h2] at e
    simp [Value.ownBlock] at e
  · rw [h2] at e
    obtain rfl : j = g := by simpa [Value.ownBlock] using e
    rw [hgb] at hj
    injection hj with hj
    injection hj with _ h2
    exact ht h2.symm
theorem Kt.size (h : Kt B W W') : W.heap.size ≤ W'.heap.size := h.bel.size
theorem Kt.bl {b : Nat} {t : TypeId} {cs : List Value} (h : Kt B W W') (hb : Bl W b t cs) (ht : t ≠ 5) : Bl W' b t cs := h.kp b _ t _ ht hb
end
theorem Bl.rg {w : World} {b : Nat} {t : TypeId} {cs : List Value} (h : Bl w b t cs) : w.rangeAt b 0 cs := fun j v hv => by rw [Nat.zero_add, h.cell]; exact hv
section
variable {ops : Array Oper} {rest : List Oper} {op : Oper} {a : Act} {w : World} {Q : Exit → Act → World → Prop}
/-- Bytes behind one's own. -/
theorem apb (hgd : op.guard = none) (s x : Operand) (ho : op.op = .call { callee := .builtin .append, args := #[s, x], argTypes := #[24, 24] })
    {base n c m c' : Nat} {A : Option Addr} {l news : List UInt8} (ad : Addr) (hs : a.eval s = .slice A n c) (hx : a.eval x = .slice (some ad) m c') (h : OwnB w base A n c l) (hm : news.length = m)
    (hc : ∀ j u, (S3.bvs news)[j]? = some u → w.cell? (ad.add j) = some u) (hn : n + m ≤ 100000000) (hb : base ≤ w.heap.size)
    (hk : ∀ A' c' w', OwnB w' base A' (n + m) c' (l ++ news) → Kt base w w' → wpList Tryz.prog ops Q rest (a.put op.dst (.slice A' (n + m) c')) w') : wpList Tryz.prog ops Q (op :: rest) a w := by
  obtain ⟨i0, hi, hz, hz1, hz2⟩ := info_parts S3.info_u8
  refine wpList_append_own w hgd s x 24 ho base 5 i0 (.int .u8 0) 1 1 Tryz.underlying24 hi hz hz1 hz2 rfl (by omega) (.slice A n c) n (S3.bvs l) hs h ad m c' (S3.bvs news) hx (by rw [S3.bvs_len]; omega) hc (S3.bvs_one _) (by unfold maxLen; omega) (by omega) hb ?_
  intro v1 w1 hown hg _
  obtain ⟨A1, c1, rfl⟩ := S3.own_form hown
  exact hk A1 c1 w1 (by show w1.ownsRow base _ 1 (.slice A1 (n + m) c1) (n + m) (S3.bvs (l ++ news)); rw [S3.bvs_app]; exact hown) (Kt.grown h hg hb)
/-- A text behind one's own. -/
theorem aps (hgd : op.guard = none) (s x : Operand) (ho : op.op = .call { callee := .builtin .append, args := #[s, x], argTypes := #[24, 9] })
    {base n c : Nat} {A : Option Addr} {l : List UInt8} (t : ByteArray) (hs : a.eval s = .slice A n c) (hx : a.eval x = .string t) (h : OwnB w base A n c l) (hn : n + t.size ≤ 100000000) (hb : base ≤ w.heap.size)
    (hk : ∀ A' c' w', OwnB w' base A' (n + t.size) c' (l ++ strB t) → Kt base w w' → wpList Tryz.prog ops Q rest (a.put op.dst (.slice A' (n + t.size) c')) w') : wpList Tryz.prog ops Q (op :: rest) a w := by
  obtain ⟨i0, hi, hz, hz1, hz2⟩ := info_parts S3.info_u8
  refine Lib.wpList_append_own_string w hgd s x 24 9 ho base 5 i0 Tryz.underlying24 Tryz.underlying9 hi hz hz1 hz2 (.slice A n c) n (S3.bvs l) hs h t hx (by unfold maxLen; omega) (by omega) hb ?_
  intro v1 w1 hown hg _
  obtain ⟨A1, c1, rfl⟩ := S3.own_form hown
  exact hk A1 c1 w1 (by show w1.ownsRow base _ 1 (.slice A1 (n + t.size) c1) (n + t.size) (S3.bvs (l ++ strB t)); rw [S3.bvs_app, ← strB_cells]; exact hown) (Kt.grown h hg hb)
end
/-- The cell of one byte, in a block that was made for it. -/
theorem one_byte {w : World} {k : Nat} (hk : k < 256) : ∀ j u, (S3.bvs [UInt8.ofNat k])[j]? = some u → (w.alloc (.cells #[.int .u8 (k : Int)] 5)).cell? ((⟨w.heap.size, 0, none⟩ : Addr).add j) = some u := by
  intro j u hu
  rw [show S3.bvs [UInt8.ofNat k] = [.int .u8 (k : Int)] from by rw [← byte_small hk]; rfl] at hu
  exact World.news_of_block (heap_alloc_new w (.cells #[.int .u8 (k : Int)] 5)) j u hu
theorem id_news {w : World} {b o : Nat} {i : Idv} (h : w.rangeAt b o i.cells) : ∀ j u, (S3.bvs i.b)[j]? = some u → w.cell? ((⟨b, o, none⟩ : Addr).add j) = some u := by
  intro j u hu
  rw [S3.addr_add]
  exact h j u hu
set_option maxRecDepth 100000 in
set_option maxHeartbeats 2000000 in
theorem layText2_any {w : World} {base n c : Nat} {A : Option Addr} {l : List UInt8} (h : OwnB w base A n c l) (hb : base ≤ w.heap.size) (hn : n ≤ 1000000) (s : ByteArray) (hs : s.size < 65536) :
    Calls Tryz.prog 45 #[.slice A n c, .string s] w fun e w' => ∃ A' c', e = .returned (.slice A' (n + 2 + s.size) c') ∧ OwnB w' base A' (n + 2 + s.size) c' (l ++ S3.be 2 s.size ++ strB s) ∧ Kt base w w' := by
  have hw16 : IntKind.u16.wrap ((s.size : Nat) : Int) = (s.size : Int) := by rw [IntKind.wrap_u16]; omega
  have HSL := Lib.hid h.sl
  have hl : l.length = n := h.sl.len
  have HL := Lib.hid hl
  clear h hl
  go_enter Tryz.func45, Tryz.ntmps45
  go_wp2_with (first
    | (go_at_call 65; refine (S3.put_u16 HSL.out (Nat.le_refl _) s.size _ rfl hs (by omega)).mono ?_; rintro e w1 ⟨g, hg, rfl, hb1, hB1⟩; have HO := OwnB.of_bl hb1 hg (by rw [List.length_append, S3.be_len, HL.out]) (by unfold maxLen; omega); have BB := Lib.hid hB1; have ZB := hB1.size)
    | (at_builtin; refine aps rfl (.tmp 10) (.tmp 11) rfl s rfl rfl HO (by omega) ZB ?_; intro A' c' w2 own2 kt2; have HOW := Lib.hid (own2.base_ hb); have KT := Lib.hid ((Kt.fresh BB.out hb).trans (kt2.mono hb)); clear own2 kt2)
    | fail)
  go_ret
  exact ⟨A', c', rfl, HOW.out, KT.out⟩
set_option maxRecDepth 100000 in
set_option maxHeartbeats 2000000 in
theorem layWord2_any {w : World} {base n c : Nat} {A : Option Addr} {l : List UInt8} (h : OwnB w base A n c l) (hb : base ≤ w.heap.size) (hn : n ≤ 1000000) (s : ByteArray) (hs : s.size < 256) :
    Calls Tryz.prog 46 #[.slice A n c, .string s] w fun e w' => ∃ A' c', e = .returned (.slice A' (n + 1 + s.size) c') ∧ OwnB w' base A' (n + 1 + s.size) c' (l ++ [UInt8.ofNat s.size] ++ strB s) ∧ Kt base w w' := by
  have hw8 : IntKind.u8.wrap ((s.size : Nat) : Int) = (s.size : Int) := by rw [IntKind.wrap_u8]; omega
  have HO := Lib.hid h
  clear h
  go_enter Tryz.func46, Tryz.ntmps46
  go_wp2_with (first
    | (at_builtin; refine apb (w := w.alloc (.cells #[.int .u8 (s.size : Int)] 5)) (m := 1) (c' := 1) (news := [UInt8.ofNat s.size]) rfl (.tmp 5) (.tmp 9) rfl ⟨w.heap.size, 0, none⟩ rfl rfl (HO.out.alloc _) rfl (one_byte hs) (by omega) (by simp; omega) ?_; intro A1 c1 w1 own1 kt1; have O1 := Lib.hid own1; have K1 := Lib.hid ((Kt.alloc w hb _).trans kt1); have Z1 := K1.out.size; clear own1 kt1)
    | (at_builtin; refine aps rfl (.tmp 11) (.tmp 12) rfl s rfl rfl O1.out (by omega) (by omega) ?_; intro A' c' w2 own2 kt2; have HOW := Lib.hid own2; have KT := Lib.hid (K1.out.trans kt2); clear own2 kt2)
    | fail)
  go_ret
  exact ⟨A', c', rfl, HOW.out, KT.out⟩
end Go.Proofs.YtcofkhmgmemkmaaGreatDoor
