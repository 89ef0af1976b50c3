/-
  STAGE 6's REFERENCE: paths, texts as bytes, nothing of a commit.
  STAGE 6's REFERENCE: a row of bytes that is laid piece by piece.
-/
import Derived.Test.YtcofkhmgmemkmaaGreatDoorK21
import Derived.Test.YtcofkhmgmemkmaaGreatDoorK41
import Derived.Test.YtcofkhmgmemkmaaGreatDoorK42
import Derived.Test.YtcofkhmgmemkmaaGreatDoorK38
namespace Go.Proofs.YtcofkhmgmemkmaaGreatDoor
set_option linter.unusedVariables false
set_option linter.unusedSimpArgs false
open Go.RowKit Go.WideShapes Go.ChangeShapes Go.Deep Go.Shelf
attribute [local irreducible] wpQuiet

set_option maxHeartbeats 1600000 in
theorem path6_any (s : ByteArray) (hs : s.size ≤ 1000000) (w : World) : Calls Tryz.prog 60 #[.string s] w fun e w' => e = .returned (.bool (pathW s)) ∧ w = w' := by
  have hsz : s.data.toList.length = s.size := by simp
  go_enter Tryz.func60, Tryz.ntmps60
  go_wp2
  go_loopw [6] (fun i wr => ∃ k : Nat, k ≤ s.size ∧ i = .int .i64 (k : Int) ∧ Hid ((s.data.toList.take k).all goodB = true) ∧ Hid (w = wr)) (fun i _ => s.size - (intOf i).toNat)
  case atStart => exact ⟨0, Nat.zero_le _, rfl, Lib.hid (by simp), Lib.hid rfl⟩
  case round =>
    obtain ⟨k, hk, rfl, hg, hb⟩ := hrel
    by_cases hlt : k < s.size
    · have hd : decide ((k : Int) < (s.size : Int)) = true := by simp; omega
      have hk0 : (0 : Int) ≤ (k : Int) := Int.natCast_nonneg _
      have hk1 : (k : Int) < (s.size : Int) := by omega
      have hat := all_take (s := s.data.toList) (k := k) (by omega)
      have hgk : s.data.toList[k]'(by omega) = s[k] := rfl
      rw [hgk] at hat
      have hno : goodB s[k] = false → visW s = false := fun h => by
        rw [visW, List.all_eq_false]
        exact ⟨s[k], by rw [← hgk]; exact List.getElem_mem _, by simp [h]⟩
      have HNO := Lib.hid (fun h => show pathW s = false by unfold pathW; rw [hno h]; simp)
      have HAT := Lib.hid hat
      clear hat hno hgk
      by_cases h1 : (s[k].toNat : Int) < 33
      · have d1 : decide ((s[k].toNat : Int) < 33) = true := by simpa using h1
        go_wp2
        go_ret
        exact ⟨by rw [HNO.out (by unfold goodB; simp; omega)]; rfl, hb.out⟩
      · have d1 : decide ((s[k].toNat : Int) < 33) = false := by simpa using h1
        by_cases h2 : 126 < (s[k].toNat : Int)
        · have d2 : decide (126 < (s[k].toNat : Int)) = true := by simpa using h2
          go_wp2
          go_ret
          exact ⟨by rw [HNO.out (by unfold goodB; simp; omega)]; rfl, hb.out⟩
        · have d2 : decide (126 < (s[k].toNat : Int)) = false := by simpa using h2
          go_wp2
          go_roundw
          case rel => exact ⟨k + 1, by omega, by go_num, Lib.hid (by rw [HAT.out, hg.out]; unfold goodB; simp; omega), hb⟩
          case measure => simp [intOf]; omega
    · have hd : decide ((k : Int) < (s.size : Int)) = false := by simp; omega
      obtain rfl : k = s.size := by omega
      have hv : visW s = true := by rw [visW, ← hg.out, List.take_of_length_le (by omega)]
      have HV := Lib.hid (show pathW s = (decide (0 < (s.size : Int)) && decide ((s.size : Int) ≤ 48)) by unfold pathW; rw [hv, Bool.and_true])
      clear hv
      by_cases h1 : 0 < (s.size : Int)
      · have d1 : decide (0 < (s.size : Int)) = true := by simpa using h1
        go_wp2
        go_ret
        exact ⟨by rw [HV.out, d1]; simp, hb.out⟩
      · have d1 : decide (0 < (s.size : Int)) = false := by simpa using h1
        go_wp2
        go_ret
        exact ⟨by rw [HV.out, d1]; simp, hb.out⟩

set_option maxRecDepth 100000 in
theorem some6_any (s : ByteArray) (hs : s.size ≤ 1000000) (k : Nat) (K : Int) (hK : K = (k : Int)) (hk : k ≤ 1000) (w : World) :
    Calls Tryz.prog 41 #[.string s, .int .i64 K] w fun e w' => (∃ A c, e = .returned (.slice A (k + s.size) c) ∧ OwnB w' w.heap.size A (k + s.size) c (S3.be k s.size ++ strB s)) ∧ Below w.heap.size w w' := by
  have hwr : IntKind.u64.wrap ((s.size : Nat) : Int) = (s.size : Int) := by rw [IntKind.wrap_u64]; omega
  obtain ⟨i0, hi, hz, hz1, hz2⟩ := info_parts S3.info_u8
  go_enter Tryz.func41, Tryz.ntmps41
  go_wp2_with fail
  refine (S3.high_any k s.size _ _ w rfl (by omega) rfl hk).mono ?_
  rintro e w1 ⟨A1, c1, rfl, ho, hb1⟩
  dsimp only
  have HO : Hid (OwnB w1 w.heap.size A1 k c1 (S3.be k s.size)) := Lib.hid ho
  have BB := Lib.hid hb1
  clear ho hb1
  go_wp2_with (first
    | (at_builtin; refine Lib.wpList_append_own_string w1 rfl _ _ 24 9 rfl w.heap.size 5 i0 Tryz.underlying24 Tryz.underlying9 hi hz hz1 hz2 _ k _ rfl HO.out s rfl (by unfold maxLen; omega) (by omega) BB.out.size ?_; intro v' w2 hown hg2 _; obtain ⟨A', c', rfl⟩ := S3.own_form hown; have HOW := Lib.hid hown; have BE := Lib.hid (BB.out.grown hg2 BB.out.size (fun k hk => (HO.out.lt k hk).1)); clear hown hg2)
    | fail)
  go_ret
  refine ⟨⟨A', c', rfl, ?_⟩, BE.out⟩
  have := HOW.out
  rw [strB_cells, ← S3.bvs_app] at this
  exact this
def noneR (x : Ov) : Bool := (x.style == 0) && (x.tree.b == Idv.zero.b) && (x.base.b == Idv.zero.b) && (x.ps.length == 0) && (x.es.length == 0) && (x.num == 0) && (x.auth == 0) && (x.note.toList == [])
theorem zb_id : Tryz.prog.built 27 [] = some Idv.zero.cells.toArray := by kernel_rfl
theorem nat_int0 (n : Nat) : ((n : Int) == 0) = (n == 0) := by
  rw [Bool.eq_iff_iff, beq_iff_eq, beq_iff_eq]
  omega
set_option maxRecDepth 100000 in
set_option maxHeartbeats 4000000 in
theorem none6_any {w : World} {x : Ov} {L P E : Sl} (h : Obj3 w w.heap.size x L P E) :
    Calls Tryz.prog 59 #[ofV (x.at_ L P E)] w fun e w' => e = .returned (.bool (noneR x)) ∧ Below w.heap.size w w' := by
  obtain ⟨AL, nL, cL⟩ := L
  obtain ⟨AP, nP, cP⟩ := P
  obtain ⟨AE, nE, cE⟩ := E
  obtain ⟨ox, w1, hb⟩ := Bxo.mk_ w x ⟨AL, nL, cL⟩ ⟨AP, nP, cP⟩ ⟨AE, nE, cE⟩
  have HB := Lib.hid hb
  rw [hb.eq]
  have lP := h.p.len
  have lE := h.e.len
  obtain ⟨zI, hzI⟩ : ∃ z, Idv.zero = z := ⟨_, rfl⟩
  have ZB : Hid (Tryz.prog.built 27 [] = some zI.cells.toArray) := Lib.hid (by rw [← hzI]; exact zb_id)
  dsimp only at lP lE
  obtain ⟨q0, h0⟩ : ∃ q, (x.style == 0) = q := ⟨_, rfl⟩
  obtain ⟨q1, h1⟩ : ∃ q, (x.tree.b == zI.b) = q := ⟨_, rfl⟩
  obtain ⟨q2, h2⟩ : ∃ q, (x.base.b == zI.b) = q := ⟨_, rfl⟩
  obtain ⟨q3, h3⟩ : ∃ q, ((nP : Int) == 0) = q := ⟨_, rfl⟩
  obtain ⟨q4, h4⟩ : ∃ q, ((nE : Int) == 0) = q := ⟨_, rfl⟩
  obtain ⟨q5, h5⟩ : ∃ q, ((x.num : Int) == 0) = q := ⟨_, rfl⟩
  obtain ⟨q6, h6⟩ : ∃ q, ((x.auth : Int) == 0) = q := ⟨_, rfl⟩
  obtain ⟨q7, h7⟩ : ∃ q, (x.note.toList == []) = q := ⟨_, rfl⟩
  have HF : Hid (noneR x = (q0 && q1 && q2 && q3 && q4 && q5 && q6 && q7)) := Lib.hid (by
    unfold noneR
    rw [hzI, h0, h1, h2, h7, ← h3, ← h4, ← h5, ← h6, nat_int0, nat_int0, nat_int0, nat_int0, lP, lE])
  have E1 : ∀ w, (binOp .eql 27 (idV x.tree) (.agg zI.cells.toArray)).run Tryz.prog w = .ok (.bool q1) w := fun w => by rw [← h1]; exact eql_id x.tree zI w
  have E2 : ∀ w, (binOp .eql 27 (idV x.base) (.agg zI.cells.toArray)).run Tryz.prog w = .ok (.bool q2) w := fun w => by rw [← h2]; exact eql_id x.base zI w
  clear h hb hzI h1 h2 lP lE
  go_enter Tryz.func59, Tryz.ntmps59
  go_upto_region 1 with fail
  rw [HB.out.al]
  (try simp only [List.append])
  obtain ⟨a0, a1, a2, a3, R4, R5, a6, a7, a8, a9, a10⟩ := HB.out.facts (Below.refl _ _)
  have B1 := Lib.hid HB.out.bl
  cases q0
  · go_wp2_with (first
      | ((with_reducible refine ldi (.tmp 7) ?_ ?_ w.heap.size 4 x.tree ?_ R4 ?_); rfl; (first | rfl | go_simp); (first | rfl | go_simp))
      | ((with_reducible refine ldi (.tmp 13) ?_ ?_ w.heap.size 36 x.base ?_ R5 ?_); rfl; (first | rfl | go_simp); (first | rfl | go_simp))
      | ((with_reducible refine bdt 27 [] ?_ ?_ zI.cells.toArray ?_ ?_); rfl; (first | rfl | go_simp); exact ZB.out)
      | fail)
    go_ret
    exact ⟨by rw [HF.out]; rfl, B1.out⟩
  cases q1
  · go_wp2_with (first
      | ((with_reducible refine ldi (.tmp 7) ?_ ?_ w.heap.size 4 x.tree ?_ R4 ?_); rfl; (first | rfl | go_simp); (first | rfl | go_simp))
      | ((with_reducible refine ldi (.tmp 13) ?_ ?_ w.heap.size 36 x.base ?_ R5 ?_); rfl; (first | rfl | go_simp); (first | rfl | go_simp))
      | ((with_reducible refine bdt 27 [] ?_ ?_ zI.cells.toArray ?_ ?_); rfl; (first | rfl | go_simp); exact ZB.out)
      | fail)
    go_ret
    exact ⟨by rw [HF.out]; rfl, B1.out⟩
  cases q2
  · go_wp2_with (first
      | ((with_reducible refine ldi (.tmp 7) ?_ ?_ w.heap.size 4 x.tree ?_ R4 ?_); rfl; (first | rfl | go_simp); (first | rfl | go_simp))
      | ((with_reducible refine ldi (.tmp 13) ?_ ?_ w.heap.size 36 x.base ?_ R5 ?_); rfl; (first | rfl | go_simp); (first | rfl | go_simp))
      | ((with_reducible refine bdt 27 [] ?_ ?_ zI.cells.toArray ?_ ?_); rfl; (first | rfl | go_simp); exact ZB.out)
      | fail)
    go_ret
    exact ⟨by rw [HF.out]; rfl, B1.out⟩
  cases q3
  · go_wp2_with (first
      | ((with_reducible refine ldi (.tmp 7) ?_ ?_ w.heap.size 4 x.tree ?_ R4 ?_); rfl; (first | rfl | go_simp); (first | rfl | go_simp))
      | ((with_reducible refine ldi (.tmp 13) ?_ ?_ w.heap.size 36 x.base ?_ R5 ?_); rfl; (first | rfl | go_simp); (first | rfl | go_simp))
      | ((with_reducible refine bdt 27 [] ?_ ?_ zI.cells.toArray ?_ ?_); rfl; (first | rfl | go_simp); exact ZB.out)
      | fail)
    go_ret
    exact ⟨by rw [HF.out]; rfl, B1.out⟩
  cases q4
  · go_wp2_with (first
      | ((with_reducible refine ldi (.tmp 7) ?_ ?_ w.heap.size 4 x.tree ?_ R4 ?_); rfl; (first | rfl | go_simp); (first | rfl | go_simp))
      | ((with_reducible refine ldi (.tmp 13) ?_ ?_ w.heap.size 36 x.base ?_ R5 ?_); rfl; (first | rfl | go_simp); (first | rfl | go_simp))
      | ((with_reducible refine bdt 27 [] ?_ ?_ zI.cells.toArray ?_ ?_); rfl; (first | rfl | go_simp); exact ZB.out)
      | fail)
    go_ret
    exact ⟨by rw [HF.out]; rfl, B1.out⟩
  cases q5
  · go_wp2_with (first
      | ((with_reducible refine ldi (.tmp 7) ?_ ?_ w.heap.size 4 x.tree ?_ R4 ?_); rfl; (first | rfl | go_simp); (first | rfl | go_simp))
      | ((with_reducible refine ldi (.tmp 13) ?_ ?_ w.heap.size 36 x.base ?_ R5 ?_); rfl; (first | rfl | go_simp); (first | rfl | go_simp))
      | ((with_reducible refine bdt 27 [] ?_ ?_ zI.cells.toArray ?_ ?_); rfl; (first | rfl | go_simp); exact ZB.out)
      | fail)
    go_ret
    exact ⟨by rw [HF.out]; rfl, B1.out⟩
  cases q6
  · go_wp2_with (first
      | ((with_reducible refine ldi (.tmp 7) ?_ ?_ w.heap.size 4 x.tree ?_ R4 ?_); rfl; (first | rfl | go_simp); (first | rfl | go_simp))
      | ((with_reducible refine ldi (.tmp 13) ?_ ?_ w.heap.size 36 x.base ?_ R5 ?_); rfl; (first | rfl | go_simp); (first | rfl | go_simp))
      | ((with_reducible refine bdt 27 [] ?_ ?_ zI.cells.toArray ?_ ?_); rfl; (first | rfl | go_simp); exact ZB.out)
      | fail)
    go_ret
    exact ⟨by rw [HF.out]; rfl, B1.out⟩
  cases q7
  · go_wp2_with (first
      | ((with_reducible refine ldi (.tmp 7) ?_ ?_ w.heap.size 4 x.tree ?_ R4 ?_); rfl; (first | rfl | go_simp); (first | rfl | go_simp))
      | ((with_reducible refine ldi (.tmp 13) ?_ ?_ w.heap.size 36 x.base ?_ R5 ?_); rfl; (first | rfl | go_simp); (first | rfl | go_simp))
      | ((with_reducible refine bdt 27 [] ?_ ?_ zI.cells.toArray ?_ ?_); rfl; (first | rfl | go_simp); exact ZB.out)
      | fail)
    go_ret
    exact ⟨by rw [HF.out]; rfl, B1.out⟩
  go_wp2_with (first
    | ((with_reducible refine ldi (.tmp 7) ?_ ?_ w.heap.size 4 x.tree ?_ R4 ?_); rfl; (first | rfl | go_simp); (first | rfl | go_simp))
    | ((with_reducible refine ldi (.tmp 13) ?_ ?_ w.heap.size 36 x.base ?_ R5 ?_); rfl; (first | rfl | go_simp); (first | rfl | go_simp))
    | ((with_reducible refine bdt 27 [] ?_ ?_ zI.cells.toArray ?_ ?_); rfl; (first | rfl | go_simp); exact ZB.out)
    | fail)
  go_ret
  exact ⟨by rw [HF.out]; rfl, B1.out⟩
end Go.Proofs.YtcofkhmgmemkmaaGreatDoor
namespace Go.Proofs.YtcofkhmgmemkmaaGreatDoor
set_option linter.unusedVariables false
set_option linter.unusedSimpArgs false
open Go.RowKit Go.WideShapes Go.ChangeShapes Go.Deep Go.Shelf

abbrev oneV (b : UInt8) : List Value := [S3.bv b]
theorem flat_bv (l : List UInt8) : l.flatMap oneV = S3.bvs l := by
  unfold S3.bvs
  induction l with
  | nil => rfl
  | cons x r ih => rw [List.flatMap_cons, ih]; rfl
theorem sl_sq {w : World} {B n c : Nat} {A : Option Addr} {l : List UInt8} (h : S3.SlB w B A n c l) : Sq oneV 1 w B A n c l :=
  ⟨h.len, h.cap, h.max, h.non, fun _ => rfl, fun h0 => by
    obtain ⟨b, o, e, hb, hr⟩ := h.pos h0
    refine ⟨b, o, e, hb, fun j u hu => ?_⟩
    rw [flat_bv] at hu
    have hj : j < l.length := by have := (List.getElem?_eq_some_iff.1 hu).1; rwa [S3.bvs_len] at this
    have h2 := hr j hj
    rw [h2]
    rw [← hu]
    simp [S3.bvs, hj]⟩
/-- Bytes of one's own, behind a world. -/
structure St6 (w1 : World) (A : Option Addr) (n c : Nat) (l : List UInt8) (W : World) : Prop where
  b : Below w1.heap.size w1 W
  o : OwnB W w1.heap.size A n c l
section
variable {w1 W W' : World} {A : Option Addr} {n c : Nat} {l : List UInt8}
theorem St6.below (h : St6 w1 A n c l W) (hb : Below W.heap.size W W') : St6 w1 A n c l W' := ⟨h.b.trans (hb.mono h.b.size), own_down h.o hb⟩
theorem St6.len (h : St6 w1 A n c l W) : l.length = n := h.o.sl.len
theorem St6.app (h : St6 w1 A n c l W) {op : Oper} {a : Act} {K : Act → World → Prop} {Q : Exit → Act → World → Prop} (s x : Operand)
    (ho : op.op = .call { callee := .builtin .append, args := #[s, x], argTypes := #[24, 24] }) (hs : a.eval s = .slice A n c)
    {A' : Option Addr} {m c' : Nat} {l' : List UInt8} (hx : a.eval x = .slice A' m c') (hr : S3.SlB W W.heap.size A' m c' l') (h63 : n + m ≤ 1000000)
    (hk : ∀ A2 c2 W', St6 w1 A2 (n + m) c2 (l ++ l') W' → Kt w1.heap.size W W' → K (a.put op.dst (.slice A2 (n + m) c2)) W') : op.wp Tryz.prog a W K Q := by
  obtain ⟨i0, hi, hz, hz1, hz2⟩ := info_parts S3.info_u8
  refine wp_append_sq (f := oneV) s x 24 ho w1.heap.size 5 i0 _ _ Tryz.underlying24 hi hz hz1 hz2 (by rfl) (by omega) (.slice A n c) n l hs (by rw [flat_bv]; exact h.o) hx (sl_sq hr) (by rw [flat_bv]; exact S3.bvs_one l') h63 (by omega) h.b.size ?_
  intro v' w' hown hg
  obtain ⟨A2, c2, rfl⟩ := own_shape hown
  rw [flat_bv] at hown
  exact hk A2 c2 w' ⟨h.b.trans (below_own h.o hg h.b.size), hown⟩ (Kt.grown h.o hg h.b.size)
/-- One byte. -/
theorem one_sl (W : World) (k : Nat) (hk : k < 256) : S3.SlB (W.alloc (.cells #[.int .u8 (k : Int)] 5)) (W.alloc (.cells #[.int .u8 (k : Int)] 5)).heap.size (some ⟨W.heap.size, 0, none⟩) 1 1 [UInt8.ofNat k] := by
  have := sl_new W [UInt8.ofNat k] (by simp)
  rw [show S3.bvs [UInt8.ofNat k] = [S3.bv (UInt8.ofNat k)] from rfl, byte_small hk] at this
  exact this
theorem wp_oneB {op : Oper} {a : Act} {K : Act → World → Prop} {Q : Exit → Act → World → Prop} (x : Operand) (ho : op.op = .buildSlice 24 1 #[(0, x)]) (k : Int) (hx : a.eval x = .int .u8 k)
    (h : K (a.put op.dst (.slice (some ⟨W.heap.size, 0, none⟩) 1 1)) (W.alloc (.cells #[.int .u8 k] 5))) : op.wp Tryz.prog a W K Q := by
  obtain ⟨i0, hi, hz, hz1, hz2⟩ := info_parts S3.info_u8
  have := one_of Tryz.underlying24 hi hz (k := 1) (by omega) (by omega) hz1 (by rfl) [.int .u8 k] rfl (.int .u8 k) rfl W
  unfold Oper.wp execOp
  simp only [ho, List.map_toArray, List.map_cons, List.map_nil, hx, this, Sem.run_bind, Result.andThen_ok]
  exact h
end
/-- An Id's bytes, as a slice. -/
theorem id_slb {W : World} {b o : Nat} {i : Idv} (h : W.rangeAt b o i.cells) : S3.SlB W W.heap.size (some ⟨b, o, none⟩) 32 32 i.b := by
  have hc : ∀ j (hj : j < i.b.length), W.cell? ⟨b, o + j, none⟩ = some (S3.bv i.b[j]) := fun j hj => h j _ (by show (S3.bvs i.b)[j]? = _; simp [S3.bvs, hj])
  refine ⟨i.h, Nat.le_refl _, by unfold maxLen; omega, (fun e => by cases e), fun _ => ⟨b, o, rfl, ?_, hc⟩⟩
  have h0 := hc 0 (by rw [i.h]; omega)
  exact block_lt_of_cell h0
theorem wpBk_two {P : Program} {ops : Array Oper} {Q : Exit → Act → World → Prop} {md : Region.Mode} {S : World → Prop} {m i j fuel : Nat} {oi oj : Oper} {listed : Array Bool} {a : Act} {w : World} (hi : ops[i]? = some oi) (hj : ops[j]? = some oj) (hgi : Region.wanted oi (yielded ops a.tmps) = true) (hgj : Region.wanted oj (yielded ops a.tmps) = true) (hr : Region.ready md ops listed = [i, j])
    (h1 : ∀ K' : Act → World → Prop, (∀ a' w', (S w → i < m → S w') ∧ wpBk P md ops Q S m fuel (listed.setIfInBounds i true) a' w' → K' a' w') → oi.wp P a w K' Q)
    (h2 : ∀ K' : Act → World → Prop, (∀ a' w', (S w → j < m → S w') ∧ wpBk P md ops Q S m fuel (listed.setIfInBounds j true) a' w' → K' a' w') → oj.wp P a w K' Q) : wpBk P md ops Q S m (fuel + 1) listed a w :=
  ⟨fun h => (by rw [hr] at h; cases h), fun k hk => by
    rw [hr] at hk
    rcases (by simpa using hk : k = i ∨ k = j) with rfl | rfl
    · exact wpOp_step hi fun K' hK => by rw [if_pos hgi]; exact h1 K' hK
    · exact wpOp_step hj fun K' hK => by rw [if_pos hgj]; exact h2 K' hK⟩
end Go.Proofs.YtcofkhmgmemkmaaGreatDoor
