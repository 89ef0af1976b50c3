/-
  OBJECTS: Ids, leaves, objects in memory.
  OBJECTS' BYTES: a text, a word behind a row of bytes.
-/
import Derived.Test.YtcofkhmgmemkmaaGreatDoorK06
import Derived.Test.YtcofkhmgmemkmaaGreatDoorK07
import Derived.Lib.AppendStr
import Derived.Deep.AppendLies
namespace Go.Proofs.YtcofkhmgmemkmaaGreatDoor
set_option linter.unusedVariables false
set_option linter.unusedSimpArgs false
open Go.RowKit Go.WideShapes Go.ChangeShapes Go.Deep

/-- An Id. -/
structure Idv where
  b : List UInt8
  h : b.length = 32
theorem Idv.ext_ {a c : Idv} (h : a.b = c.b) : a = c := by cases a; cases c; cases h; rfl
def Idv.cells (i : Idv) : List Value := S3.bvs i.b
theorem id_sz (i : Idv) : i.cells.length = 32 := by unfold Idv.cells; rw [S3.bvs_len, i.h]
abbrev idV (i : Idv) : Value := .agg (S3.bvs i.b).toArray
def Idv.zero : Idv := ⟨List.replicate 32 0, by simp⟩
/-- A leaf. -/
structure Lf where
  p : ByteArray
  id : Idv
def Lf.cells (l : Lf) : List Value := .string l.p :: S3.bvs l.id.b
theorem lf_sz (l : Lf) : l.cells.length = 33 := by unfold Lf.cells; rw [List.length_cons, S3.bvs_len, l.id.h]
abbrev SqL := Sq Lf.cells 33
abbrev SqI := Sq Idv.cells 32
/-- An object's fields, its lists by their slices. -/
structure Of where
  kind : Int
  text : ByteArray
  lv : Value
  style : Int
  tree : Idv
  base : Idv
  pv : Value
  ev : Value
  num : Nat
  auth : Nat
  note : ByteArray
def Of.cells (o : Of) : List Value := [.int .i64 o.kind, .string o.text, o.lv, .int .i64 o.style] ++ (S3.bvs o.tree.b ++ (S3.bvs o.base.b ++ [o.pv, o.ev, .int .u32 (o.num : Int), .int .u32 (o.auth : Int), .string o.note]))
theorem of_sz (o : Of) : o.cells.length = 73 := by
  unfold Of.cells
  simp only [List.length_append, S3.bvs_len, o.tree.h, o.base.h, List.length_cons, List.length_nil]
abbrev ofV (o : Of) : Value := .agg o.cells.toArray
/-- Where its fields lie. -/
theorem of_at {w : World} {b o : Nat} {x : Of} (h : w.rangeAt b o x.cells) :
    w.cell? ⟨b, o, none⟩ = some (.int .i64 x.kind) ∧ w.cell? ⟨b, o + 1, none⟩ = some (.string x.text) ∧ w.cell? ⟨b, o + 2, none⟩ = some x.lv ∧ w.cell? ⟨b, o + 3, none⟩ = some (.int .i64 x.style) ∧
    w.rangeAt b (o + 4) (S3.bvs x.tree.b) ∧ w.rangeAt b (o + 36) (S3.bvs x.base.b) ∧ w.cell? ⟨b, o + 68, none⟩ = some x.pv ∧ w.cell? ⟨b, o + 69, none⟩ = some x.ev ∧
    w.cell? ⟨b, o + 70, none⟩ = some (.int .u32 (x.num : Int)) ∧ w.cell? ⟨b, o + 71, none⟩ = some (.int .u32 (x.auth : Int)) ∧ w.cell? ⟨b, o + 72, none⟩ = some (.string x.note) := by
  unfold Of.cells at h
  rw [rangeAt_app, rangeAt_app, rangeAt_app] at h
  obtain ⟨h1, h2, h3, h4⟩ := h
  simp only [List.length_cons, List.length_nil, S3.bvs_len, x.tree.h, x.base.h] at h2 h3 h4
  exact ⟨h1 0 _ rfl, h1 1 _ rfl, h1 2 _ rfl, h1 3 _ rfl, h2, h3, h4 0 _ rfl, h4 1 _ rfl, h4 2 _ rfl, h4 3 _ rfl, h4 4 _ rfl⟩
theorem of_lies {w : World} {b : Nat} {x : Of} (h : Lies w b 73 x.cells) :
    w.cell? ⟨b, 0, none⟩ = some (.int .i64 x.kind) ∧ w.cell? ⟨b, 1, none⟩ = some (.string x.text) ∧ w.cell? ⟨b, 2, none⟩ = some x.lv ∧ w.cell? ⟨b, 3, none⟩ = some (.int .i64 x.style) ∧
    w.rangeAt b 4 (S3.bvs x.tree.b) ∧ w.rangeAt b 36 (S3.bvs x.base.b) ∧ w.cell? ⟨b, 68, none⟩ = some x.pv ∧ w.cell? ⟨b, 69, none⟩ = some x.ev ∧
    w.cell? ⟨b, 70, none⟩ = some (.int .u32 (x.num : Int)) ∧ w.cell? ⟨b, 71, none⟩ = some (.int .u32 (x.auth : Int)) ∧ w.cell? ⟨b, 72, none⟩ = some (.string x.note) := by
  have := of_at h.rg
  simpa only [Nat.zero_add] using this
theorem size_of : (Tryz.prog.info? 34).map (·.size) = some 73 := by kernel_rfl
theorem size_lf : (Tryz.prog.info? 68).map (·.size) = some 33 := by kernel_rfl
theorem size_idv : (Tryz.prog.info? 27).map (·.size) = some 32 := by kernel_rfl
end Go.Proofs.YtcofkhmgmemkmaaGreatDoor
namespace Go.Proofs.YtcofkhmgmemkmaaGreatDoor
set_option linter.unusedVariables false
set_option linter.unusedSimpArgs false
open Go.RowKit Go.WideShapes Go.ChangeShapes Go.Deep

/-- A text's bytes. -/
def strB (s : ByteArray) : List UInt8 := s.data.toList
theorem strB_len (s : ByteArray) : (strB s).length = s.size := by
  unfold strB
  rw [Array.length_toList]
  rfl
theorem strB_cells (s : ByteArray) : Lib.strCells s = S3.bvs (strB s) := rfl
/-- A row of bytes of one's own. -/
abbrev OwnB (w : World) (base : Nat) (A : Option Addr) (n c : Nat) (l : List UInt8) : Prop := w.ownsRow base 5 1 (.slice A n c) n (S3.bvs l)
theorem OwnB.sl {w : World} {base n c : Nat} {A : Option Addr} {l : List UInt8} (h : OwnB w base A n c l) : S3.SlB w w.heap.size A n c l := by
  have hn : l.length = n := by have := h.1; rw [S3.bvs_len] at this; omega
  rcases h.2 with ⟨h2, h3⟩ | ⟨g, cap, cur, h2, hb, hg, hnc, hcm, hcs, htk⟩
  · injection h2 with h4 h5 h6
    subst h3 h4 h6
    obtain rfl := List.eq_nil_of_length_eq_zero hn
    exact S3.SlB.nil_
  · injection h2 with h4 h5 h6
    subst h4 h6
    refine ⟨hn, hnc, hcm, (fun e => by cases e), fun _ => ⟨g, 0, rfl, (Array.getElem?_eq_some_iff.1 hg).1, fun j hj => ?_⟩⟩
    have := h.cells (g := g) rfl j (S3.bv l[j]) (by simp [S3.bvs, hj])
    rwa [S3.addr_add] at this
theorem OwnB.of_bl {w : World} {base g n : Nat} {l : List UInt8} (h : S3.Bl w g 5 (S3.bvs l)) (hb : base ≤ g) (hn : l.length = n) (hm : n ≤ maxLen) : OwnB w base (some ⟨g, 0, none⟩) n n l := by
  subst hn
  exact ⟨by rw [S3.bvs_len]; omega, .inr ⟨g, l.length, (S3.bvs l).toArray, rfl, hb, h, Nat.le_refl _, hm, by simp [S3.bvs_len], by rw [List.take_of_length_le (by simp [S3.bvs_len])]⟩⟩
set_option maxRecDepth 100000 in
set_option maxHeartbeats 2000000 in
theorem layText_any {w : World} {base n c : Nat} {A : Option Addr} {l : List UInt8} (h : OwnB w base A n c l) (hn : n ≤ 1000000) (s : ByteArray) (hs : s.size < 65536) :
    Calls Tryz.prog 45 #[.slice A n c, .string s] w fun e w' => ∃ A' c', e = .returned (.slice A' (n + 2 + s.size) c') ∧ OwnB w' w.heap.size A' (n + 2 + s.size) c' (l ++ S3.be 2 s.size ++ strB s) ∧ Below w.heap.size w w' := by
  have hw16 : IntKind.u16.wrap ((s.size : Nat) : Int) = (s.size : Int) := by rw [IntKind.wrap_u16]; omega
  have HSL := Lib.hid h.sl
  have hl : l.length = n := h.sl.len
  have HL := Lib.hid hl
  obtain ⟨i0, hi, hz, hz1, hz2⟩ := info_parts S3.info_u8
  clear h hl
  go_enter Tryz.func45, Tryz.ntmps45
  go_wp2_with (first
    | (go_at_call 65; refine (S3.put_u16 HSL.out (Nat.le_refl _) s.size _ rfl hs (by omega)).mono ?_; rintro e w1 ⟨g, hg, rfl, hb1, hB1⟩; have HO := OwnB.of_bl hb1 hg (by rw [List.length_append, S3.be_len, HL.out]) (by unfold maxLen; omega); have BB := Lib.hid hB1; have ZB := hB1.size)
    | (at_builtin; refine Lib.wpList_append_own_string w1 rfl _ _ 24 9 rfl w.heap.size 5 i0 Tryz.underlying24 Tryz.underlying9 hi hz hz1 hz2 _ (n + 2) _ rfl HO s rfl (by unfold maxLen; omega) (by omega) ZB ?_; intro v' w2 hown hg2 _; obtain ⟨A', c', rfl⟩ := S3.own_form hown; have HOW := Lib.hid hown; have BE := Lib.hid (BB.out.grown hg2 ZB (fun k hk => (HO.lt k hk).1)); clear hown hg2)
    | fail)
  go_ret
  refine ⟨A', c', rfl, ?_, BE.out⟩
  have := HOW.out
  rw [strB_cells, ← S3.bvs_app] at this
  exact this
theorem byte_small {k : Nat} (h : k < 256) : S3.bv (UInt8.ofNat k) = .int .u8 (k : Int) := by
  unfold S3.bv
  rw [show (UInt8.ofNat k).toNat = k by simp; omega]
theorem own_byte {w : World} {base n c k : Nat} {A : Option Addr} {l : List UInt8} (hk : k < 256) (h : w.ownsRow base 5 1 (.slice A n c) n (S3.bvs l ++ [.int .u8 (k : Int)])) : OwnB w base A n c (l ++ [UInt8.ofNat k]) := by
  show w.ownsRow base 5 1 (.slice A n c) n (S3.bvs (l ++ [UInt8.ofNat k]))
  rw [S3.bvs_app, show S3.bvs [UInt8.ofNat k] = [.int .u8 (k : Int)] from by rw [← byte_small hk]; rfl]
  exact h
theorem OwnB.base_ {w : World} {base base' n c : Nat} {A : Option Addr} {l : List UInt8} (h : OwnB w base A n c l) (hb : base' ≤ base) : OwnB w base' A n c l := by
  rcases h with ⟨h1, h2 | ⟨g, cap, cur, h2, h3, h4⟩⟩
  · exact ⟨h1, .inl h2⟩
  · exact ⟨h1, .inr ⟨g, cap, cur, h2, Nat.le_trans hb h3, h4⟩⟩
set_option maxRecDepth 100000 in
set_option maxHeartbeats 2000000 in
theorem layWord_any {w : World} {base n c : Nat} {A : Option Addr} {l : List UInt8} (h : OwnB w base A n c l) (hb : base ≤ w.heap.size) (hn : n ≤ 1000000) (s : ByteArray) (hs : s.size < 256) :
    Calls Tryz.prog 46 #[.slice A n c, .string s] w fun e w' => ∃ A' c', e = .returned (.slice A' (n + 1 + s.size) c') ∧ OwnB w' base A' (n + 1 + s.size) c' (l ++ [UInt8.ofNat s.size] ++ strB s) ∧ Below base w w' := by
  have hw8 : IntKind.u8.wrap ((s.size : Nat) : Int) = (s.size : Int) := by rw [IntKind.wrap_u8]; omega
  have HO := Lib.hid h
  obtain ⟨i0, hi, hz, hz1, hz2⟩ := info_parts S3.info_u8
  clear h
  go_enter Tryz.func46, Tryz.ntmps46
  go_wp2_with (first
    | (at_builtin; refine wpList_append_own (w.alloc (.cells #[.int .u8 (s.size : Int)] 5)) rfl _ _ 24 rfl base 5 i0 (.int .u8 0) 1 1 Tryz.underlying24 hi hz hz1 hz2 rfl (by omega) (.slice A n c) n (S3.bvs l) rfl (HO.out.alloc _) ⟨w.heap.size, 0, none⟩ 1 1 [.int .u8 (s.size : Int)] rfl rfl (World.news_of_block (heap_alloc_new w _)) (by simp [Value.oneCell']) (by unfold maxLen; omega) (by omega) (by simp; omega) ?_; intro v1 w1 hown hg _; obtain ⟨A1, c1, rfl⟩ := S3.own_form hown; have O1 : Hid (OwnB w1 base A1 (n + 1) c1 (l ++ [UInt8.ofNat s.size])) := Lib.hid (own_byte hs hown); have B1 : Hid (Below base w w1) := Lib.hid (((Below.refl base w).alloc hb _).grown hg (by simp; omega) (fun k hk => (HO.out.lt k hk).1)); have Z1 : base ≤ w1.heap.size := (by have := B1.out.size; omega); clear hown hg)
    | (at_builtin; refine Lib.wpList_append_own_string w1 rfl _ _ 24 9 rfl base 5 i0 Tryz.underlying24 Tryz.underlying9 hi hz hz1 hz2 _ (n + 1) _ rfl O1.out s rfl (by unfold maxLen; omega) (by omega) Z1 ?_; intro v' w2 hown hg2 _; obtain ⟨A', c', rfl⟩ := S3.own_form hown; have HOW := Lib.hid hown; have BE := Lib.hid (B1.out.grown hg2 Z1 (fun k hk => (O1.out.lt k hk).1)); clear hown hg2)
    | fail)
  go_ret
  refine ⟨A', c', rfl, ?_, BE.out⟩
  have := HOW.out
  rw [strB_cells, ← S3.bvs_app] at this
  exact this
end Go.Proofs.YtcofkhmgmemkmaaGreatDoor
