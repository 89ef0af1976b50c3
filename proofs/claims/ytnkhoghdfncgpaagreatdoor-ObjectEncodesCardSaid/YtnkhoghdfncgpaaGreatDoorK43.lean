/-
  WHAT THE FOLD'S LAW CALLS: own, HasPrefix, HasSuffix; parts of a row.
  THE DOCUMENT'S ROUNDS OF A BLOCK, BEGUN: a word turned, the constants, a number of bytes.
  THE DOCUMENT'S BLOCK, DRAWN OUT.
-/
import Derived.Test.YtnkhoghdfncgpaaGreatDoorK42
import Derived.Test.YtnkhoghdfncgpaaGreatDoorK01
import Derived.Deep.RegionLaw
namespace Go.Proofs.YtnkhoghdfncgpaaGreatDoor.S3
set_option maxRecDepth 100000
set_option linter.unusedVariables false
set_option linter.unusedSimpArgs false
open Go.RowKit Go.WideShapes Go.ChangeShapes

/-- THE SLICE '.slice A n c' IS THE CALL's OWN, from block 'base' on, and reads as l. -/
def Ow (w : World) (base : Nat) (A : Option Addr) (n c : Nat) (l : List UInt8) : Prop := w.ownsRow base 5 1 (.slice A n c) n (bvs l)
theorem Ow.sl {w : World} {base n c B : Nat} {A : Option Addr} {l : List UInt8} (h : Ow w base A n c l) (hB : w.heap.size ≤ B) : SlB w B A n c l := by
  obtain ⟨h1, h2⟩ := h
  rw [bvs_len, Nat.mul_one] at h1
  rcases h2 with ⟨h2, h3⟩ | ⟨g, cap, cur, hv, hb, hh, hn, hc, hs, ht⟩
  · injection h2 with e1 e2 e3
    subst e1 e2 e3
    exact ⟨h1, Nat.le_refl _, Nat.zero_le _, fun _ => rfl, fun h => absurd h (by omega)⟩
  · injection hv with e1 e2 e3
    subst e1 e3
    refine ⟨h1, hn, hc, fun e => (by cases e), fun h0 => ⟨g, 0, rfl, by have := (Array.getElem?_eq_some_iff.1 hh).1; omega, fun j hj => ?_⟩⟩
    rw [Nat.zero_add, cell_of_row w g j cur _ (0, 0) hh]
    have h4 : (bvs l)[j]? = some (bv l[j]) := by simp [bvs, List.getElem?_eq_getElem hj]
    rw [← ht, List.getElem?_take] at h4
    split at h4
    · simpa using h4
    · cases h4
theorem Ow.len {w : World} {base n c : Nat} {A : Option Addr} {l : List UInt8} (h : Ow w base A n c l) : l.length = n := by
  have h1 := h.1
  rwa [bvs_len, Nat.mul_one] at h1
theorem Ow.below {w w' : World} {base n c B : Nat} {A : Option Addr} {l : List UInt8} (h : Ow w base A n c l) (hb : Below B w w') (hB : w.heap.size ≤ B) : Ow w' base A n c l :=
  h.kept (w' := w') (row := none) ⟨hb.os, hb.tape, hb.output, hb.size, fun k hk _ => hb.block k (by omega)⟩ (by cases hv : Value.ownBlock (.slice A n c) <;> simp)

theorem Lies.part {W : World} {g N : Nat} {L : List UInt8} (h : Lies W g N (bvs L)) (hL : L.length = N) (k m c : Nat) (hk : k + m ≤ N) (hm : m ≤ c) (hc : c ≤ 1000000) : SlB W W.heap.size (some ⟨g, k, none⟩) m c ((L.drop k).take m) :=
  ⟨by rw [List.length_take, List.length_drop]; omega, hm, by unfold maxLen; omega, fun e => (by cases e), fun _ => ⟨g, k, rfl, h.lt, fun j hj => by
    rw [List.length_take, List.length_drop] at hj
    exact h.cell (by simp [bvs, List.getElem?_eq_getElem (show k + j < L.length by omega)])⟩⟩

end Go.Proofs.YtnkhoghdfncgpaaGreatDoor.S3
namespace Go.Proofs.YtnkhoghdfncgpaaGreatDoor.S3
set_option maxRecDepth 100000
set_option linter.unusedVariables false
set_option linter.unusedSimpArgs false
open Go.RowKit Go.WideShapes Go.ChangeShapes

def w64 (n : Nat) : Nat := n % 18446744073709551616
theorem num_drop (l : List UInt8) (i : Nat) (h : i < l.length) : num (l.drop i) = l[i].toNat * 256 ^ (l.length - (i + 1)) + num (l.drop (i + 1)) := by
  rw [List.drop_eq_getElem_cons h, num_cons, List.length_drop]
theorem wrap_w64 (n : Nat) : IntKind.u64.wrap (n : Int) = ((w64 n : Nat) : Int) := by rw [IntKind.wrap_u64]; unfold w64; omega
theorem step_num (x wt b X W : Nat) (hx : x = w64 X) (hw : wt = w64 W) : w64 (x + w64 (wt * b)) = w64 (b * W + X) := by
  subst hx hw
  unfold w64
  rw [Nat.mul_comm b W]
  simp [Nat.add_mod, Nat.mul_mod, Nat.add_comm]

theorem number_any {A : Option Addr} {n c : Nat} {l : List UInt8} {w : World} {B : Nat} (h : SlB w B A n c l) :
    Calls Tryz.prog 73 #[.slice A n c] w fun e w' => e = .returned (.int .u64 (w64 (num l) : Nat)) ∧ w = w' := by
  have hlen := Lib.hid h.len
  have hm := h.le
  unfold maxLen at hm
  go_enter Tryz.func73, Tryz.ntmps73
  go_wp2
  go_loop [3, 4, 5] (fun x wt i => ∃ q xv wv : Nat, q ≤ n ∧ i = .int .i64 q ∧ x = .int .u64 (xv : Nat) ∧ wt = .int .u64 (wv : Nat) ∧ Hid (xv = w64 (num (l.drop q))) ∧ Hid (wv = w64 (256 ^ (n - q)))) (fun _ _ i => (intOf i).toNat)
  case atStart => exact ⟨n, 0, 1, Nat.le_refl _, rfl, rfl, rfl, by rw [List.drop_of_length_le (by rw [hlen.out]; exact Nat.le_refl _)]; rfl, by rw [Nat.sub_self]; rfl⟩
  case round =>
    obtain ⟨q, xv, wv, hq, rfl, rfl, rfl, hx, hw⟩ := hrel
    by_cases h0 : q = 0
    · subst h0
      go_wp2
      go_ret
      refine ⟨?_, rfl⟩
      have := hx.out
      rw [List.drop_zero] at this
      rw [← this]
      rfl
    · obtain ⟨q, rfl⟩ : ∃ q', q = q' + 1 := ⟨q - 1, by omega⟩
      have hql : q < l.length := by rw [hlen.out]; omega
      obtain ⟨b, o, rfl, hbb, hc⟩ := h.pos (by omega)
      have hcq := hc q hql
      unfold bv at hcq
      clear hc h0
      have hby := l[q].toNat_lt
      have HN : Hid (w64 (xv + w64 (wv * l[q].toNat)) = w64 (num (l.drop q))) := by
        have : w64 (xv + w64 (wv * l[q].toNat)) = w64 (num (l.drop q)) := by
          rw [step_num _ _ _ _ _ hx.out hw.out, num_drop l q hql, hlen.out]
        exact this
      have HW : Hid (w64 (wv * 256) = w64 (256 ^ (n - q))) := by
        have : w64 (wv * 256) = w64 (256 ^ (n - q)) := by
          rw [hw.out, show n - q = (n - (q + 1)) + 1 by omega, Nat.pow_succ]
          unfold w64
          simp [Nat.mul_mod]
        exact this
      go_wp2
      go_round
      case rel =>
        refine ⟨q, w64 (xv + w64 (wv * l[q].toNat)), w64 (wv * 256), by omega, rfl, ?_, ?_, HN, HW⟩
        · rw [← Int.natCast_mul, wrap_w64, ← Int.natCast_add, wrap_w64]
        · rw [show ((wv : Int) * 256) = ((wv * 256 : Nat) : Int) by omega, wrap_w64]
      case measure => simp [intOf]

theorem key (a b : Int) (h : a = b) : Ending.returned (Value.int .u32 a) = .returned (.int .u32 b) := by rw [h]
set_option maxRecDepth 100000 in
set_option maxHeartbeats 1600000 in
theorem turned_ref (x : UInt32) (n : Nat) (N : Int) (hN : N = (n : Int)) (hn : n = 2 ∨ n = 6 ∨ n = 7 ∨ n = 11 ∨ n = 13 ∨ n = 17 ∨ n = 18 ∨ n = 19 ∨ n = 22 ∨ n = 25) (w : World) :
    Calls Tryz.prog 94 #[wv x, .int .u64 N] w fun e w' => e = .returned (wv (rotr x n)) ∧ w = w' := by
  have hx := x.toNat_lt
  have hb := rot_bound x.toNat n hx (by omega)
  have hr := rotr_nat x n (by omega)
  obtain ⟨r, hrr⟩ : ∃ r, rotr x n = r := ⟨_, rfl⟩
  rw [hrr] at hr ⊢
  unfold wv
  generalize x.toNat = X at hx hb hr
  have HR := Lib.hid hr
  have HB := Lib.hid hb
  have hX0 : (0 : Int) ≤ (X : Int) := Int.natCast_nonneg _
  have hX1 : (X : Int) < 4294967296 := by omega
  clear hr hb hrr
  subst hN
  rcases hn with rfl | rfl | rfl | rfl | rfl | rfl | rfl | rfl | rfl | rfl
  all_goals
    go_enter Tryz.func94, Tryz.ntmps94
    go_wp2
    go_ret
    refine ⟨?_, rfl⟩
    rw [HR.out]
    have := HB.out
    refine key _ _ ?_
    simp only [Nat.reducePow, Nat.reduceSub]
    omega
theorem SlB.part2 {w : World} {B n c g o : Nat} {l : List UInt8} (h : SlB w B (some ⟨g, o, none⟩) n c l) {k m : Nat} (hk : k + m ≤ n) : SlB w B (some ⟨g, o + k, none⟩) m (c - k) ((l.drop k).take m) :=
  ⟨by rw [List.length_take, List.length_drop, h.len]; omega, by have := h.cap; omega, by have := h.max; omega, fun e => (by cases e), fun h0 => by
    obtain ⟨b, o', e, hb, hc⟩ := h.pos (by omega)
    cases e
    refine ⟨g, o + k, rfl, hb, fun j hj => ?_⟩
    rw [List.length_take, List.length_drop, h.len] at hj
    have := hc (k + j) (by rw [h.len]; omega)
    rw [Nat.add_assoc, this]
    simp⟩
theorem wdOf_num (b : List UInt8) (k : Nat) (h : 4 * k + 4 ≤ b.length) : w64 (num ((b.drop (4 * k)).take 4)) = (wdOf b k).toNat := by
  have hl : ((b.drop (4 * k)).take 4).length = 4 := by rw [List.length_take, List.length_drop]; omega
  have hn := num_lt ((b.drop (4 * k)).take 4)
  rw [hl] at hn
  unfold w64 wdOf
  rw [UInt32.toNat_ofNat']
  omega
end Go.Proofs.YtnkhoghdfncgpaaGreatDoor.S3
namespace Go.Proofs.YtnkhoghdfncgpaaGreatDoor.S3
set_option maxRecDepth 100000
set_option linter.unusedVariables false
set_option linter.unusedSimpArgs false
open Go.RowKit Go.WideShapes Go.ChangeShapes

theorem wrap32i (n : Int) : IntKind.u32.wrap n = n % 4294967296 := by
  simp [IntKind.wrap, IntKind.min, IntKind.max, IntKind.signed, IntKind.bits]
theorem wp_new2 {P : Program} {o : Oper} {a : Act} {w w' : World} {K : Act → World → Prop} {Q : Exit → Act → World → Prop} {v : Value} (hr : (execOp a.eval o).run P w = .ok (.value v) w') (h : K (a.put o.dst v) w') : o.wp P a w K Q := by
  unfold Oper.wp
  rw [hr]
  exact h
theorem info_u32 : (Tryz.prog.info? 31).map (fun i => (i.zero, i.size, i.bytes)) = some (some (.int .u32 0), 1, 4) := by kernel_rfl
theorem wvs_one : ∀ (l : List UInt32), ∀ u ∈ wvs l, u.oneCell' = true := fun l u hu => by
  simp only [wvs, List.mem_map] at hu
  obtain ⟨x, _, rfl⟩ := hu
  rfl
/-- A row of words that the call owns, with one word more. -/
theorem wpList_word {w : World} {ops : Array Oper} {rest : List Oper} {o : Oper} {a : Act} {Q : Exit → Act → World → Prop} (hw : Region.wanted o (yielded ops a.tmps) = true) (s x : Operand)
    (ho : o.op = .call { callee := .builtin .append, args := #[s, x], argTypes := #[107, 107] })
    (base : Nat) (v : Value) (n : Nat) (l0 : List UInt32) (hs : a.eval s = v) (hown : w.ownsRow base 31 1 v n (wvs l0))
    (ad : Addr) (y : UInt32) (hx : a.eval x = .slice (some ad) 1 1) (hnew : w.cell? ad = some (wv y))
    (h63 : n + 1 ≤ 1000000) (hbase : base ≤ w.heap.size)
    (h : ∀ v' w', w'.ownsRow base 31 1 v' (n + 1) (wvs (l0 ++ [y])) → w.grownBy w' v.ownBlock → wpList Tryz.prog ops Q rest (a.put o.dst v') w') : wpList Tryz.prog ops Q (o :: rest) a w := by
  obtain ⟨i0, hi0, hz0, hz1, hz2⟩ := info_parts info_u32
  refine wpList_want hw ?_
  have h1 := step_append_lies (P := Tryz.prog) (ops := ops) (o := { o with guard := none }) (a := a) (K := wpList Tryz.prog ops Q rest) (Q := Q) (E := True) w rfl s x 107 ho base 31 i0 (.int .u32 0) 1 4 Tryz.underlying107 hi0 hz0 hz1 hz2 rfl (by omega) v n (wvs l0) hs hown ad 1 1 (wvs [y]) hx rfl
    (fun j u hu => by
      have : j = 0 := by have := (List.getElem?_eq_some_iff.1 hu).1; simp [wvs] at this; exact this
      subst this
      simp [wvs] at hu
      subst hu
      rw [show ad.add 0 = ad from by cases ad; simp [Addr.add]]
      exact hnew) (wvs_one _) (by omega) (by unfold maxLen; omega) (by omega) hbase w.heap.size rfl
    (fun g cap w' h1 h2 _ _ => h _ w' (by unfold wvs; rw [List.map_append]; exact h1) h2)
  have hw0 : Region.wanted { o with guard := none } (yielded ops a.tmps) = true := rfl
  rw [if_pos hw0] at h1
  exact h1
def outW (b : List UInt8) (k : Nat) : List UInt32 := if k ≤ 16 then w16 b k else drW b (k - 16)
theorem outW_len (b : List UInt8) (k : Nat) : (outW b k).length = k := by
  unfold outW
  split
  · exact w16_len b k
  · rw [drW_len]; omega
theorem outW_low (b : List UInt8) {k : Nat} (h : k < 16) : outW b (k + 1) = outW b k ++ [wdOf b k] := by
  unfold outW
  rw [if_pos (by omega), if_pos (by omega), w16_succ]
theorem outW_high (b : List UInt8) {k : Nat} (h : 16 ≤ k) : outW b (k + 1) = outW b k ++ [nxW (outW b k) k] := by
  unfold outW
  rw [if_neg (by omega)]
  obtain ⟨j, rfl⟩ : ∃ j, k = 16 + j := ⟨k - 16, by omega⟩
  rw [show 16 + j + 1 - 16 = j + 1 by omega]
  by_cases hj : j = 0
  · subst hj
    rw [if_pos (by omega)]
    rfl
  · rw [if_neg (by omega), show 16 + j - 16 = j by omega]
    rfl
theorem blend_eq (x : UInt32) (l m n D : Nat) (d : Int) (hD : D = 2 ^ n) (hd : d = (D : Int)) : bits .xor .u32 (bits .xor .u32 ((rotr x l).toNat : Int) ((rotr x m).toNat : Int)) ((x.toNat : Int) / d % 4294967296) = ((blendW x l m n).toNat : Int) := by
  have h : (x.toNat : Int) / d % 4294967296 = ((shrW x n).toNat : Int) := by
    have h2 := (shrW x n).toNat_lt
    have h3 := shrW_nat x n
    rw [hd, hD]
    omega
  rw [h, w_xor, w_xor]
  rfl

set_option maxRecDepth 100000 in
set_option maxHeartbeats 3200000 in
theorem out_ref (g o c : Nat) (b : List UInt8) (w : World) (hs : SlB w w.heap.size (some ⟨g, o, none⟩) 64 c b) :
    Calls Tryz.prog 93 #[.slice (some ⟨g, o, none⟩) 64 c] w fun e w' => ∃ g' c', e = .returned (.slice (some ⟨g', 0, none⟩) 64 c') ∧ w.heap.size ≤ g' ∧ w'.ownsRow w.heap.size 31 1 (.slice (some ⟨g', 0, none⟩) 64 c') 64 (wvs (drW b 48)) ∧ Below w.heap.size w w' := by
  have HS := Lib.hid hs
  have hcap := hs.cap
  have hcm := hs.max
  unfold maxLen at hcm
  clear hs
  go_enter Tryz.func93, Tryz.ntmps93
  go_wp2
  go_loopw [3, 4] (fun row i wr => ∃ k : Nat, k ≤ 64 ∧ i = .int .i64 (k : Int) ∧ Hid (wr.ownsRow w.heap.size 31 1 row k (wvs (outW b k))) ∧ Hid (Below w.heap.size w wr)) (fun _ i _ => 64 - (intOf i).toNat)
  case atStart => exact ⟨0, by omega, rfl, Lib.hid (World.ownsRow_nil _ _ _ _), Lib.hid (Below.refl _ _)⟩
  case round =>
    obtain ⟨k, hk, rfl, hown, hB⟩ := hrel
    by_cases hlt : k < 64
    · have hd : decide ((k : Int) < 64) = true := by simp; omega
      have hk0 : (0 : Int) ≤ (k : Int) := Int.natCast_nonneg _
      have hk1 : (k : Int) < 64 := by omega
      by_cases h16 : k < 16
      · have hd2 : decide ((k : Int) < 16) = true := by simp; omega
        have hk2 : (k : Int) < 16 := by omega
        have hp := HS.out.below hB.out
        have hp2 : SlB wr w.heap.size (some ⟨g, o + 4 * k, none⟩) 4 (c - 4 * k) ((b.drop (4 * k)).take 4) := by
          have h := hp.part2 (k := 4 * k) (m := 4) (by omega)
          exact h
        have HN := Lib.hid (number_any hp2)
        obtain ⟨y, hy⟩ : ∃ y, wdOf b k = y := ⟨_, rfl⟩
        have hnum : w64 (num ((b.drop (4 * k)).take 4)) = y.toNat := by
          rw [← hy]
          exact wdOf_num b k (by rw [HS.out.len]; omega)
        have hylt : (y.toNat : Int) < 4294967296 := by have := y.toNat_lt; omega
        have hy0 : (0 : Int) ≤ (y.toNat : Int) := Int.natCast_nonneg _
        rw [hnum] at HN
        have HOW := Lib.hid (hown.out.alloc (.cells #[wv y] 31))
        have HBB := Lib.hid (hB.out.alloc hB.out.size (.cells #[wv y] 31))
        have HNC : Hid ((wr.alloc (.cells #[wv y] 31)).cell? ⟨wr.heap.size, 0, none⟩ = some (wv y)) := Lib.hid (Bl.cell (Bl.new wr 31 [wv y]) 0)
        have HST := Lib.hid (show outW b k ++ [y] = outW b (k + 1) by rw [outW_low b h16, hy])
        clear hp hp2 hy hnum hown hB
        go_wp2_with (first
          | (go_at_call 73; with_reducible refine (HN.out).mono ?_; rintro e w5 ⟨rfl, rfl⟩)
          | (at_builtin; with_reducible refine wpList_word rfl (.tmp 13) (.tmp 23) rfl w.heap.size u3 k (outW b k) rfl HOW.out ⟨wr.heap.size, 0, none⟩ y rfl HNC.out (by omega) HBB.out.size ?_; intro v5 w5 ho5 hg5))
        go_roundw
        case rel => exact ⟨k + 1, by omega, by go_num, Lib.hid (by rw [← HST.out]; exact ho5), Lib.hid (HBB.out.grown hg5 HBB.out.size (fun q hq => (HOW.out.lt q hq).1))⟩
        case measure => simp [intOf]; omega
      · have hd2 : decide ((k : Int) < 16) = false := by simp; omega
        have hk3 : (16 : Int) ≤ (k : Int) := by omega
        have hk16 : 16 ≤ k := by omega
        obtain ⟨g', cap, rfl, hg'⟩ := hown.out.form (by omega)
        have hlen := outW_len b k
        have hc : ∀ i, i < k → wr.cell? ⟨g', i, none⟩ = some (wv ((outW b k).getD i 0)) := fun i hi => by
          have h := hown.out.cellAt i (by omega)
          rw [h, List.getD_eq_getElem?_getD]
          simp [wvs, List.getElem?_eq_getElem (show i < (outW b k).length by omega)]
        have HX : Hid (nxW (outW b k) k = blendW ((outW b k).getD (k - 2) 0) 17 19 10 + (outW b k).getD (k - 7) 0 + blendW ((outW b k).getD (k - 15) 0) 7 18 3 + (outW b k).getD (k - 16) 0) := Lib.hid rfl
        have HST := Lib.hid (outW_high b hk16)
        have c2 := hc (k - 2) (by omega)
        have c7 := hc (k - 7) (by omega)
        have c15 := hc (k - 15) (by omega)
        have c16 := hc (k - 16) (by omega)
        generalize (outW b k).getD (k - 2) 0 = x2 at c2 HX
        generalize (outW b k).getD (k - 7) 0 = x7 at c7 HX
        generalize (outW b k).getD (k - 15) 0 = x15 at c15 HX
        generalize (outW b k).getD (k - 16) 0 = x16 at c16 HX
        have hgl := (hown.out.lt g' rfl).2
        have HC7 := Lib.hid c7
        have HC16 := Lib.hid c16
        have HOWN := hown
        have HB := hB
        have HGL := Lib.hid hgl
        have t2 : ((k : Int) - 2).toNat = k - 2 := by omega
        have t7 : ((k : Int) - 7).toNat = k - 7 := by omega
        have t15 : ((k : Int) - 15).toNat = k - 15 := by omega
        have t16 : ((k : Int) - 16).toNat = k - 16 := by omega
        have hw7 : IntKind.i64.wrap ((k : Int) - 7) = (k : Int) - 7 := by rw [IntKind.wrap_i64]; omega
        have hw16 : IntKind.i64.wrap ((k : Int) - 16) = (k : Int) - 16 := by rw [IntKind.wrap_i64]; omega
        have hk7a : (7 : Int) ≤ (k : Int) := by omega
        have hk7b : ¬ ((k : Int) < 7) := by omega
        have hk16b : ¬ ((k : Int) < 16) := by omega
        have hp7a : (0 : Int) ≤ (k : Int) - 7 := by omega
        have hp7b : (k : Int) - 7 < (k : Int) := by omega
        have hp16a : (0 : Int) ≤ (k : Int) - 16 := by omega
        have hp16b : (k : Int) - 16 < (k : Int) := by omega
        have hb1 := blend_eq x2 17 19 10 1024 1024 rfl rfl
        have hb2 := blend_eq x15 7 18 3 8 8 rfl rfl
        clear hc hlen hown hB hgl hk16 h16
        go_wp2_with fail
        go_quiet (fail)
        have TR := Lib.hid (fun (x : UInt32) (n : Nat) (N : Int) (hN : N = (n : Int)) (hn : n = 2 ∨ n = 6 ∨ n = 7 ∨ n = 11 ∨ n = 13 ∨ n = 17 ∨ n = 18 ∨ n = 19 ∨ n = 22 ∨ n = 25) (w : World) => turned_ref x n N hN hn w)
        go_wp2_with (first
          | (go_at_call 94; with_reducible refine (TR.out x2 17 17 rfl (by omega) _).mono ?_; rintro e w5 ⟨rfl, rfl⟩)
          | (go_at_call 94; with_reducible refine (TR.out x2 19 19 rfl (by omega) _).mono ?_; rintro e w5 ⟨rfl, rfl⟩)
          | (go_at_call 94; with_reducible refine (TR.out x15 7 7 rfl (by omega) _).mono ?_; rintro e w5 ⟨rfl, rfl⟩)
          | (go_at_call 94; with_reducible refine (TR.out x15 18 18 rfl (by omega) _).mono ?_; rintro e w5 ⟨rfl, rfl⟩))
        generalize blendW x2 17 19 10 = X at HX ⊢
        generalize blendW x15 7 18 3 = Y at HX ⊢
        have hsum : ((((X.toNat : Int) + (x7.toNat : Int)) % 4294967296 + (Y.toNat : Int)) % 4294967296 + (x16.toNat : Int)) % 4294967296 = ((X + x7 + Y + x16).toNat : Int) := by first | (simp only [w_sum]; done) | (simp only [w_sum]; omega)
        have hsum2 : ((X.toNat : Int) + (x7.toNat : Int) + (Y.toNat : Int) + (x16.toNat : Int)) % 4294967296 = ((X + x7 + Y + x16).toNat : Int) := by first | (simp only [w_sum]; done) | (simp only [w_sum]; omega)
        have hsumw : IntKind.u32.wrap (IntKind.u32.wrap (IntKind.u32.wrap ((X.toNat : Int) + (x7.toNat : Int)) + (Y.toNat : Int)) + (x16.toNat : Int)) = ((X + x7 + Y + x16).toNat : Int) := by rw [w_add, w_add, w_add]
        obtain ⟨z, hz⟩ : ∃ z, X + x7 + Y + x16 = z := ⟨_, rfl⟩
        rw [hz] at hsum hsum2 hsumw HX
        obtain ⟨W, hW⟩ : ∃ W, wr.drewN nq = W := ⟨_, rfl⟩
        have hW7 : W.drew.cell? ⟨g', k - 7, none⟩ = some (wv x7) := by rw [← hW]; exact HC7.out
        have hW16 : W.drew.cell? ⟨g', k - 16, none⟩ = some (wv x16) := by rw [← hW]; exact HC16.out
        have hWo : W.drew.ownsRow w.heap.size 31 1 (.slice (some ⟨g', 0, none⟩) k cap) k (wvs (outW b k)) := by rw [← hW]; exact HOWN.out
        have hWb : Below w.heap.size w W.drew := by rw [← hW]; exact (below_drewN HB.out nq).drew
        have HWO := Lib.hid (hWo.alloc (.cells #[wv z] 31))
        have HWB := Lib.hid (hWb.alloc hWb.size (.cells #[wv z] 31))
        have HNC : Hid (∀ j u, (wvs [z])[j]? = some u → (W.drew.alloc (.cells #[wv z] 31)).cell? ((⟨W.heap.size, 0, none⟩ : Addr).add j) = some u) := Lib.hid (fun j u hu => by
          have h := Bl.cell (Bl.new W.drew 31 (wvs [z])) j
          rw [addr_add, Nat.zero_add]
          exact h.trans hu)
        obtain ⟨i0, hi0, hz0, hz1, hz2⟩ := info_parts info_u32
        have HI0 := Lib.hid hi0
        rw [hW]
        clear hWo hWb hW c2 c7 c15 c16 hb1 hb2 hz hi0
        go_region_law (refine step_append_lies _ rfl (.tmp 51) (.tmp 67) 107 rfl w.heap.size 31 i0 (.int .u32 0) 1 4 Tryz.underlying107 HI0.out hz0 hz1 hz2 rfl (by omega) (.slice (some ⟨g', 0, none⟩) k cap) k (wvs (outW b k)) rfl HWO.out ⟨W.heap.size, 0, none⟩ 1 1 (wvs [z]) rfl rfl HNC.out (wvs_one _) (by omega) (by unfold maxLen; omega) (by omega) (by have := HWB.out.size; simpa using this) (W.heap.size + 1) (by simp) ?_; intro gg cap5 w5 ho5 hg5 hat5 hlt5)
        all_goals
          have O5 := Lib.hid (show w5.ownsRow w.heap.size 31 1 (.slice (some ⟨gg, 0, none⟩) (k + 1) cap5) (k + 1) (wvs (outW b (k + 1))) by rw [HST.out, HX.out]; unfold wvs; rw [List.map_append]; exact ho5)
          have B5 := Lib.hid (HWB.out.grown hg5 HWB.out.size (fun q hq => (HWO.out.lt q hq).1))
          clear ho5 hg5 hat5 hlt5
          simp only [List.getElem_toArray, List.getElem_cons_zero, List.getElem_cons_succ, Act.put]
          go_wp2
          go_roundw
          case rel => exact ⟨k + 1, by omega, by go_num, O5, B5⟩
          case measure => simp [intOf]; omega
    · obtain rfl : k = 64 := by omega
      obtain ⟨g', cap, rfl, hg'⟩ := hown.out.form (by omega)
      have HOWN := hown
      have HB := hB
      clear hown hB
      go_wp2
      go_ret
      exact ⟨g', cap, rfl, (HOWN.out.lt g' rfl).1, HOWN.out, HB.out⟩
end Go.Proofs.YtnkhoghdfncgpaaGreatDoor.S3
