/-
  THE LAWS' FIRST CALLS: wakes, own.
-/
import Derived.Test.YtgjkahoblopddaaDoorParse
import Derived.Test.YtgjkahoblopddaaDoorSum2
import Derived.Test.YtgjkahoblopddaaDoorConst
import Derived.Lib.SlBytesConst
import Derived.Deep.RegionHeld3
namespace Go.Proofs.YtgjkahoblopddaaDoor
set_option linter.unusedVariables false
set_option linter.unusedSimpArgs false
open Go.RowKit Go.WideShapes Go.ChangeShapes

def abcW : List UInt8 := [186, 120, 22, 191, 143, 1, 207, 234, 65, 65, 64, 222, 93, 174, 34, 35, 176, 3, 97, 163, 150, 23, 122, 156, 180, 16, 255, 97, 242, 0, 21, 173]
theorem abc_len : abcW.length = 32 := rfl
set_option maxRecDepth 100000 in
theorem abc_sum : sumW [97, 98, 99] = abcW := by decide +kernel
abbrev abcT : ByteArray := ⟨#[98, 97, 55, 56, 49, 54, 98, 102, 56, 102, 48, 49, 99, 102, 101, 97, 52, 49, 52, 49, 52, 48, 100, 101, 53, 100, 97, 101, 50, 50, 50, 51, 98, 48, 48, 51, 54, 49, 97, 51, 57, 54, 49, 55, 55, 97, 57, 99, 98, 52, 49, 48, 102, 102, 54, 49, 102, 50, 48, 48, 49, 53, 97, 100]⟩
theorem abc_parse : parseW abcT.data.toList = abcW := by decide +kernel
theorem abc_err : parseE abcT.data.toList = 0 := by decide +kernel
theorem ab_err : parseE (⟨#[97, 98]⟩ : ByteArray).data.toList = 130 := by decide +kernel
theorem abc_less : lessB Zi abcW = true := by decide +kernel
theorem abc_not : lessB abcW abcW = false := by decide +kernel

theorem wpList_want {P : Program} {w : World} {ops : Array Oper} {rest : List Oper} {o : Oper} {a : Act} {Q : Exit → Act → World → Prop} (hw : Region.wanted o (yielded ops a.tmps) = true) (h : o.wp P a w (wpList P ops Q rest) Q) : wpList P ops Q (o :: rest) a w := by
  unfold wpList
  rw [if_pos hw]
  exact .inl h
/-- The digest of noughts, written as a literal. -/
theorem bz_id {w : World} {ops : Array Oper} {rest : List Oper} {o : Oper} {a : Act} {Q : Exit → Act → World → Prop} (hw : Region.wanted o (yielded ops a.tmps) = true) (ho : o.op = .build 26 #[])
    (h : wpList Tryd.prog ops Q rest (a.put o.dst (.agg (bvs Zi).toArray)) w) : wpList Tryd.prog ops Q (o :: rest) a w := by
  have hb : (Instr.build 26 #[]).run Tryd.prog w = .ok (.agg (bvs Zi).toArray) w := by kernel_rfl
  refine wpList_want hw ?_
  unfold Oper.wp execOp
  simp only [ho, List.map_toArray, List.map_nil, Sem.run_bind, hb, Result.andThen_ok, Sem.run_pure]
  exact h
theorem ldw_id {ops : Array Oper} {rest : List Oper} {op : Oper} {a : Act} {w : World} {Q : Exit → Act → World → Prop} (hw : Region.wanted op (yielded ops a.tmps) = true) (x : Operand) (ho : op.op = .load 26 x)
    (b o : Nat) (l : List UInt8) (hl : Hid (l.length = 32)) (hx : a.eval x = .pointer (some ⟨b, o, none⟩)) (hc : w.rangeAt b o (bvs l))
    (h : wpList Tryd.prog ops Q rest (a.put op.dst (.agg (bvs l).toArray)) w) : wpList Tryd.prog ops Q (op :: rest) a w :=
  wpList_want hw (wp_load_mid _ x ho b o hx (bvs l) _ hc Tryd.underlying26 rfl (by rw [bvs_len, hl.out]; exact size_id) h)
theorem Lies.slb {W : World} {b n : Nat} {l : List UInt8} (h : Lies W b n (bvs l)) (hl : l.length = n) (hn : n ≤ 1000000) : SlB W W.heap.size (some ⟨b, 0, none⟩) n n l :=
  ⟨hl, Nat.le_refl _, by unfold maxLen; omega, fun e => (by cases e), fun _ => ⟨b, 0, rfl, h.lt, fun j hj => by
    rw [Nat.zero_add]
    exact h.cell (by simp [bvs, List.getElem?_eq_getElem hj])⟩⟩
set_option maxRecDepth 100000 in
set_option maxHeartbeats 1600000 in
theorem wakes_of {w : World} (hg : GK w) (ab : List UInt8) (abc_len : ab.length = 32) (abc_sum : sumW [97, 98, 99] = ab) (abc_parse : parseW abcT.data.toList = ab) (abc_less : lessB Zi ab = true) (abc_not : lessB ab ab = false) : Calls Tryd.prog 10 #[] w fun e w' => e = .returned (.bool true) ∧ Below w.heap.size w w' := by
  have HG := Lib.hid hg
  clear hg
  have HA := Lib.hid abc_len
  have HSUM := Lib.hid abc_sum
  have HPA := Lib.hid abc_parse
  have HLE := Lib.hid abc_less
  have HNO := Lib.hid abc_not
  clear abc_len abc_sum abc_parse abc_less abc_not
  have hcv := Lib.run_convert_bytes_const (P := Tryd.prog) w 22 5 #[.int .u8 97, .int .u8 98, .int .u8 99] 3 3 Tryd.underlying22 Tryd.underlying5
  obtain ⟨w0, hw0⟩ : ∃ w0, w0 = w.alloc (.cells #[.int .u8 97, .int .u8 98, .int .u8 99] 5 (3, 4)) := ⟨_, rfl⟩
  have S0 : Hid (SlB w0 w0.heap.size (some ⟨w.heap.size, 0, none⟩) 3 3 [97, 98, 99]) := Lib.hid
    ⟨rfl, Nat.le_refl _, by unfold maxLen; omega, fun e => (by cases e), fun _ => ⟨w.heap.size, 0, rfl, by rw [hw0]; simp, fun j hj => by
      rw [Nat.zero_add, hw0, World.cell?_alloc_mark w _ _ _ j]
      have : j = 0 ∨ j = 1 ∨ j = 2 := by simp at hj; omega
      rcases this with rfl | rfl | rfl <;> rfl⟩⟩
  have B0 : Hid (Below w.heap.size w w0) := Lib.hid (by rw [hw0]; exact (Below.refl _ _).alloc (Nat.le_refl _) _)
  have G0 : Hid (GK w0) := Lib.hid (by rw [hw0]; exact HG.out.alloc _)
  simp only [show (#[Value.int .u8 97, .int .u8 98, .int .u8 99] : Array Value).size = 3 from rfl] at hcv
  rw [← hw0] at hcv
  clear hw0
  go_enter Tryd.func10, Tryd.ntmps10
  go_wp2_with fail
  refine (sum_any S0.out (Nat.le_refl _) (by omega) G0.out).mono ?_
  rintro e w1 ⟨rfl, hb1⟩
  rw [HSUM.out]
  have B1 := Lib.hid (B0.out.trans (hb1.mono B0.out.size))
  have L1 := Lib.hid (Zi_new w1)
  have A1 := Lib.hid (L1.out.set_ (l' := bvs ab) (by rw [bvs_len]; exact HA.out))
  have C1 := Lib.hid (below_setCells (B1.out.alloc B1.out.size (.cells (bvs Zi).toArray 26)) B1.out.size 0 (bvs ab))
  clear hb1
  go_wp2_with (first
    | ((with_reducible refine al_id rfl rfl ?_); (try simp only [Act.put, List.setIfInBounds_toArray, List.set_cons_succ, List.set_cons_zero, World.size_alloc]))
    | (with_reducible refine st_id rfl _ _ rfl w1.heap.size 0 ab HA rfl rfl L1.out.th ?_))
  generalize (w1.alloc (.cells (bvs Zi).toArray 26)).setCells w1.heap.size 0 (bvs ab) = v1 at A1 C1 ⊢
  refine (parse_any _ _).mono ?_
  rintro e w2 ⟨rfl, hb2⟩
  rw [HPA.out, abc_err]
  have B2 := Lib.hid (C1.out.trans (hb2.mono C1.out.size))
  have A2 := Lib.hid (A1.out.below hb2 A1.out.lt)
  have L2 := Lib.hid (Zi_new w2)
  have K2 := Lib.hid (L2.out.set_ (l' := bvs ab) (by rw [bvs_len]; exact HA.out))
  have D2 := Lib.hid (below_setCells ((Below.refl w2.heap.size w2).alloc (Nat.le_refl _) (.cells (bvs Zi).toArray 26)) (Nat.le_refl _) 0 (bvs ab))
  clear hb2
  go_wp2_with (first
    | ((with_reducible refine al_id rfl rfl ?_); (try simp only [Act.put, List.setIfInBounds_toArray, List.set_cons_succ, List.set_cons_zero, World.size_alloc]))
    | (with_reducible refine st_id rfl _ _ rfl w2.heap.size 0 ab HA rfl rfl L2.out.th ?_))
  generalize (w2.alloc (.cells (bvs Zi).toArray 26)).setCells w2.heap.size 0 (bvs ab) = v2 at K2 D2 ⊢
  have C2 := Lib.hid (B2.out.trans (D2.out.mono B2.out.size))
  have A3 := Lib.hid (A2.out.below D2.out A2.out.lt)
  refine (parse_any _ _).mono ?_
  rintro e w3 ⟨rfl, hb3⟩
  rw [ab_err]
  have hpl := parseW_len (⟨#[97, 98]⟩ : ByteArray).data.toList
  generalize parseW (⟨#[97, 98]⟩ : ByteArray).data.toList = row at hpl
  have HR := Lib.hid hpl
  have B3 := Lib.hid (C2.out.trans (hb3.mono C2.out.size))
  have A4 := Lib.hid (A3.out.below hb3 A3.out.lt)
  have K4 := Lib.hid (K2.out.below hb3 K2.out.lt)
  have L3 := Lib.hid (Zi_new w3)
  have D3 := Lib.hid (below_setCells ((Below.refl w3.heap.size w3).alloc (Nat.le_refl _) (.cells (bvs Zi).toArray 26)) (Nat.le_refl _) 0 (bvs row))
  clear hb3 hpl
  have B4 := Lib.hid (B3.out.trans (D3.out.mono B3.out.size))
  have A5 := Lib.hid (A4.out.below D3.out A4.out.lt)
  have K5 := Lib.hid (K4.out.below D3.out K4.out.lt)
  have HZ := Lib.hid Zi_len
  have heq := run_eql_32 ab ab HA.out HA.out
  simp only [beq_self_eq_true] at heq
  go_wp2_with (first
    | ((with_reducible refine al_id rfl rfl ?_); (try simp only [Act.put, List.setIfInBounds_toArray, List.set_cons_succ, List.set_cons_zero, World.size_alloc]))
    | (with_reducible refine st_id rfl _ _ rfl w3.heap.size 0 row HR rfl rfl L3.out.th ?_)
    | (with_reducible refine ldw_id rfl (.tmp 2) rfl w2.heap.size 0 ab HA rfl K5.out.rg ?_)
    | (with_reducible refine ldw_id rfl (.tmp 1) rfl w1.heap.size 0 ab HA rfl A5.out.rg ?_)
    | (with_reducible refine ldw_id rfl (.tmp 1) rfl w1.heap.size 0 ab HA rfl A6.out.rg ?_)
    | (with_reducible refine ldw_id rfl (.tmp 1) rfl w1.heap.size 0 ab HA rfl A7.out.rg ?_)
    | (with_reducible refine bz_id rfl rfl ?_)
    | (go_at_call 12; refine (pad_any SlB.nil_ (Nat.zero_le _) (by omega)).mono ?_; rintro e w4 ⟨g, m, rfl, hm, hg, hbl, hb4⟩; have hm2 : m = 64 := hm.trans (by decide); subst hm2; have A6 := Lib.hid (A5.out.below hb4 A5.out.lt); have B5 := Lib.hid (B4.out.trans (hb4.mono B4.out.size)); clear hb4 hg hbl hm))
  refine (less_any Zi ab HZ.out HA.out _).mono ?_
  rintro e w5 ⟨rfl, hb5⟩
  rw [HLE.out]
  have A7 := Lib.hid (A6.out.below hb5 A6.out.lt)
  have B6 := Lib.hid (B5.out.trans (hb5.mono B5.out.size))
  clear hb5
  go_wp2_with (first
    | (with_reducible refine ldw_id rfl (.tmp 1) rfl w1.heap.size 0 ab HA rfl A7.out.rg ?_))
  refine (less_any ab ab HA.out HA.out _).mono ?_
  rintro e w6 ⟨rfl, hb6⟩
  rw [HNO.out]
  have B7 := Lib.hid (B6.out.trans (hb6.mono B6.out.size))
  clear hb6
  go_wp2_with fail
  go_ret
  exact ⟨rfl, B7.out⟩
theorem wakes_any {w : World} (hg : GK w) : Calls Tryd.prog 10 #[] w fun e w' => e = .returned (.bool true) ∧ Below w.heap.size w w' :=
  wakes_of hg abcW abc_len abc_sum abc_parse abc_less abc_not
end Go.Proofs.YtgjkahoblopddaaDoor
