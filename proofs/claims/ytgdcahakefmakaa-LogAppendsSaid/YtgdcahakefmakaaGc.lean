/-
  LOGS: a copy of bytes; the iterator over places, round by round.
-/
import Derived.Test.YtgdcahakefmakaaGb
import Derived.Test.YtgdcahakefmakaaYp
import Derived.RangeFuncNested
import Derived.RangeFuncBound
import Derived.RangeFuncCalls
import Derived.RangeFuncLeaves
import Derived.RangeFuncBox
import Derived.Shelf.Abstract
import Derived.Shelf.RegionOpen
import Derived.WalkKit
import Derived.OwnWalkIn
import Derived.TacticsInMore
import Derived.LoopNIn
import Derived.LoopIn
import Derived.Deep.Cut
namespace Go.Proofs.Ytgdcahakefmakaa
set_option linter.unusedVariables false
set_option linter.unusedSimpArgs false
open Go.RowKit Go.WideShapes Go.ChangeShapes Go.Deep Go.Shelf
attribute [local go_sem] Oper.semAt_some
attribute [local irreducible] wpQuiet

theorem info_u8 : (Try.prog.info? 5).map (fun i => (i.zero, i.size, i.bytes)) = some (some (.int .u8 0), 1, 1) := by kernel_rfl
theorem size_u8 : (Try.prog.info? 5).map (·.size) = some 1 := by kernel_rfl
theorem make_bytes (n : Nat) (N : Int) (hN : N = (n : Int)) (h : n ≤ 140737488355328) (w : World) :
    (Instr.makeSlice 42 (.int .i64 N) (.int .i64 N)).run Try.prog w = .ok (.slice (some ⟨w.heap.size, 0, none⟩) n n) (w.alloc (.cells (bvs (List.replicate n 0)).toArray 5)) := by
  obtain ⟨i0, hi, hz, h1, hb⟩ := info_parts info_u8
  exact run_make_bytes _ _ i0 Try.underlying42 hi hz h1 hb n N hN h w
set_option maxHeartbeats 1000000 in
theorem copied_any {A : Option Addr} {n c : Nat} {l : List UInt8} {w : World} {B : Nat} (hs : SlB w B A n c l) (hB : B ≤ w.heap.size) (hl : n ≤ 140737488355328) :
    Calls Try.prog 55 #[.slice A n c] w fun e w' => e = .returned (.slice (some ⟨w.heap.size, 0, none⟩) n n) ∧ Bl w' w.heap.size 5 (bvs l) ∧ Below w.heap.size w w' := by
  have hmk := make_bytes n (n : Int) rfl hl
  have hz8 := size_u8
  have hcp : (bvs l).length = Nat.min n n := by rw [bvs_len, hs.len]; exact (Nat.min_self n).symm
  have hfit : 0 + (bvs l).length ≤ (bvs (List.replicate n 0)).length := by rw [bvs_len, bvs_len, List.length_replicate, hs.len]; omega
  have hpos : 0 < (bvs l).length → (some ⟨w.heap.size, 0, none⟩ : Option Addr) = some ⟨w.heap.size, 0, none⟩ ∧ ∃ ad, A = some ad ∧ ∀ j v, (bvs l)[j]? = some v → (w.alloc (.cells (bvs (List.replicate n 0)).toArray 5)).cell? (ad.add j) = some v := fun h0 => by
    refine ⟨rfl, ?_⟩
    obtain ⟨ad, e, h⟩ := (hs.below (((Below.refl w.heap.size w).alloc (Nat.le_refl _) (.cells (bvs (List.replicate n 0)).toArray 5)).mono hB)).src (by rw [bvs_len, hs.len] at h0; exact h0)
    exact ⟨ad, e, h⟩
  have hsl := hs.len
  have HSP : Hid (splice (bvs (List.replicate n 0)) 0 (bvs l) = bvs l) := Lib.hid (by
    rw [splice_front _ _ hfit, List.drop_eq_nil_of_le (by rw [bvs_len, bvs_len, List.length_replicate, hs.len]; omega), List.append_nil])
  clear hs hsl
  go_enter Try.func55, Try.ntmps55
  go_wp2_with ((with_reducible refine wpList_copy_splice rfl (.tmp 7) (.tmp 8) 42 42 rfl 5 Try.underlying42 hz8 _ _ _ _ _ _ rfl rfl w.heap.size 0 (bvs (List.replicate n 0)) 5 (heap_alloc_new w _) (bvs l) hcp hpos hfit (bvs_one l) w.heap.size w ((Below.refl _ w).alloc (Nat.le_refl _) _) (Nat.le_refl _) ?_); intro w1 hw1 hb1)
  go_ret
  have h1 := hw1.out
  rw [HSP.out] at h1
  exact ⟨rfl, h1, hb1⟩

/-- What the iterator finds in memory. -/
structure TP (W : World) (n₀ Be Ba i t : Nat) (A : Option Addr) (m c : Nat) (es : List En) : Prop where
  s : SqE W n₀ A m c es
  n0 : n₀ ≤ W.heap.size
  xe : Lies W Be 1 [.slice A m c]
  xa : Lies W Ba 2 [.int .u64 (i : Int), .int .u64 (t : Int)]
/-- What may turn while the loop runs. -/
def TnP (n₀ Be Ba : Nat) : Nat → Prop := fun b => n₀ ≤ b ∧ b ≠ Be ∧ b ≠ Ba
theorem SqE.mv {S : Nat → Prop} {w w' : World} {B n c : Nat} {A : Option Addr} {l : List En} (h : SqE w B A n c l) (hB : B ≤ w.heap.size) (hm : Mv S w w') (hS : ∀ b, b < B → ¬ S b) : SqE w' B A n c l :=
  ⟨⟨h.s.len, h.s.cap, h.s.max, h.s.non, h.s.sz, fun hn => by
    obtain ⟨b, o, e, hlt, hc⟩ := h.s.pos hn
    exact ⟨b, o, e, hlt, rangeAt_keep hc (hm.block b (by omega) (hS b hlt))⟩⟩,
   fun x hx => ⟨(h.e x hx).d.keep fun p hp => World.cell?_of_block (hm.block p.block (by omega) (hS _ hp)), (h.e x hx).t, (h.e x hx).k⟩⟩
theorem TP.mv {W W' : World} {n₀ Be Ba i t : Nat} {A : Option Addr} {m c : Nat} {es : List En} (h : TP W n₀ Be Ba i t A m c es) (hm : Mv (TnP n₀ Be Ba) W W') : TP W' n₀ Be Ba i t A m c es :=
  ⟨h.s.mv h.n0 hm (fun b hb hS => by have := hS.1; omega), Nat.le_trans h.n0 hm.size, h.xe.kp (hm.block _ h.xe.lt fun hS => hS.2.1 rfl) hm.size, h.xa.kp (hm.block _ h.xa.lt fun hS => hS.2.2 rfl) hm.size⟩
def zEn : En := ⟨0, 0, ⟨none, 0, 0⟩, []⟩
theorem zero_en (w : World) : (zeroValue 44).run Try.prog w = .ok (.agg zEn.cells.toArray) w := by kernel_rfl
set_option maxRecDepth 100000 in
set_option maxHeartbeats 4000000 in
theorem placed1 (n : Nat) (hn1 : 1 ≤ n) (l n₀ Be Ba i t : Nat) (A : Option Addr) (m c : Nat) (es : List En) (hm : m ≤ 1000) (him : i + m < 18446744073709551616)
    (J Jx : List Pl → World → Prop) (W : World) (hJ : AbidesFrom W.heap.size J)
    (hY : ∀ pre x W1, J pre W1 → pre ++ [x] <+: placedL i es → YieldAt Fence.wide (n - 1) Try.prog l (enP x) W1 fun e W' =>
      (e = .returned (.bool true) ∧ J (pre ++ [x]) W' ∧ Mv (TnP n₀ Be Ba) W1 W') ∨ (e = .returned (.bool false) ∧ Jx (pre ++ [x]) W'))
    (hT : TP W n₀ Be Ba i t A m c es) (h0 : J [] W) :
    CallsIn Fence.wide n Try.prog 59 #[.func (.yield l) #[] #[], .pointer (some ⟨Be, 0, none⟩), .pointer (some ⟨Ba, 0, none⟩)] W fun e W' => (∃ v, e = .returned v) ∧
      ((∃ ys, ys = placedL i es ∧ J ys W') ∨ (∃ pre, pre <+: placedL i es ∧ Jx pre W')) := by
  have q0 := hT.xe.cell (j := 0) rfl
  have hel := hT.s.len
  have HT := Lib.hid hT
  have HY := Lib.hid hY
  have HJ := Lib.hid hJ
  have H0 := Lib.hid h0
  have HIM := Lib.hid him
  clear hY hJ h0 hT him
  refine callsIn_of_wp Try.func59 rfl trivial ?_ rfl
  simp only [Try.ntmps59, List.size_toArray, List.length_cons, List.length_nil, Nat.reduceAdd, Nat.reduceSub, Array.replicate_succ, Array.replicate_zero, List.push_toArray, List.append_toArray, List.nil_append, List.cons_append]
  refine wpIn_wide.2 ?_
  go_wp2_with fail
  clear q0
  refine (wpIn_wide (n := n)).1 ?_
  gi_loopw [8] (fun i' wr => ∃ k : Nat, k ≤ m ∧ i' = .int .i64 (k : Int) ∧ Hid (J ((placedL i es).take k) wr) ∧ Hid (Mv (TnP n₀ Be Ba) W wr)) (fun i' _ => m - (intOf i').toNat)
  case atStart => exact ⟨0, Nat.zero_le _, rfl, H0, Lib.hid (Mv.refl _ _)⟩
  case round =>
    obtain ⟨k, hk, rfl, hj, hkp⟩ := hrel
    have TW := Lib.hid (HT.out.mv hkp.out)
    by_cases hlt : k < m
    · have hd : decide ((k : Int) < (m : Int)) = true := by simp; omega
      have hk0 : (0 : Int) ≤ (k : Int) := Int.natCast_nonneg _
      have hk1 : (k : Int) < (m : Int) := by omega
      obtain ⟨b, o, rfl, hbl, hrg⟩ := TW.out.s.s.at_ hlt
      have hel' : k < es.length := by omega
      have hein := TW.out.s.e _ (List.getElem_mem hel')
      have hpk := placedL_at i es k hel'
      obtain ⟨x, hx⟩ : ∃ x, es[k] = x := ⟨_, rfl⟩
      rw [hx] at hein hpk
      have hrg' : wr.rangeAt b (o + k * 3) x.cells := by rw [← hx]; exact hrg
      have HRG := Lib.hid hrg'
      have hkl : k < (placedL i es).length := by rw [placedL_len]; exact hel'
      have HTK : Hid ((placedL i es).take (k + 1) = (placedL i es).take k ++ [⟨i + k + 1, x⟩]) := Lib.hid (by
        rw [List.take_add_one, hpk]
        rfl)
      have HPR : Hid ((placedL i es).take k ++ [⟨i + k + 1, x⟩] <+: placedL i es) := Lib.hid (by rw [← HTK.out]; exact List.take_prefix _ _)
      clear hrg hrg' hx hpk
      obtain ⟨wA, hwA⟩ : ∃ wA, wr.alloc (.cells zEn.cells.toArray 44) = wA := ⟨_, rfl⟩
      have YA : Lies wA wr.heap.size 3 zEn.cells := by rw [← hwA]; exact Lies.new wr zEn.cells 44
      obtain ⟨wB, hwB⟩ : ∃ wB, wA.setCells wr.heap.size 0 x.cells = wB := ⟨_, rfl⟩
      have YB : Lies wB wr.heap.size 3 x.cells := by rw [← hwB]; exact YA.set_ rfl
      have BB : Below wr.heap.size wr wB := by rw [← hwB, ← hwA]; exact below_setCells ((Below.refl _ _).alloc (Nat.le_refl _) _) (Nat.le_refl _) _ _
      have TA := Lib.hid YA.th
      have HWA := Lib.hid hwA
      have HWB := Lib.hid hwB
      have HBB := Lib.hid BB
      have HYB := Lib.hid YB
      clear hwA hwB BB YA YB
      refine wpIn_wide.2 ?_
      go_upto_region 3 with (first
        | ((with_reducible refine lde (.tmp 11) ?_ ?_ b (o + k * 3) x ?_ HRG.out ?_); rfl; (first | rfl | (go_simp <;> fail)); (first | rfl | go_simp))
        | ((with_reducible refine alt 44 ?_ ?_ zEn.cells zero_en ?_); rfl; (first | rfl | (go_simp <;> fail)); rw [HWA.out]; (try simp only [Act.put, List.setIfInBounds_toArray, List.set_cons_succ, List.set_cons_zero]))
        | ((with_reducible refine ste (.tmp 5) (.tmp 12) ?_ ?_ wr.heap.size 0 x ?_ ?_ TA.out ?_); rfl; (first | rfl | (go_simp <;> fail)); rfl; rfl; rw [HWB.out])
        | fail)
      have JB := Lib.hid (HJ.out _ wr wB none hj.out (only_of_below HBB.out none) (fun r e => by cases e))
      have KB := Lib.hid (hkp.out.trans (Mv.of_below HBB.out (TnP n₀ Be Ba)))
      have TB := Lib.hid (TW.out.mv (Mv.of_below HBB.out (TnP n₀ Be Ba)))
      have p0 := TB.out.xa.cell (j := 0) rfl
      have p0' := HYB.out.cell (j := 0) rfl
      have p1' := HYB.out.cell (j := 1) rfl
      have p2' := HYB.out.cell (j := 2) rfl
      have hn64 : (i : Int) + (k : Int) + 1 < 18446744073709551616 := by have := HIM.out; omega
      have hn63 : (i : Int) + (k : Int) < 18446744073709551616 := by omega
      have hi0 : (0 : Int) ≤ (i : Int) := Int.natCast_nonneg _
      obtain ⟨fn, tmps, assign, body, hy, hR⟩ := HY.out _ _ wB JB.out HPR.out
      clear hj hkp JB TB TW
      dsimp only [enP, atV, enV] at hy
      rw [show ((i + k + 1 : Nat) : Int) = (i : Int) + (k : Int) + 1 by omega] at hy
      refine (wpIn_wide (n := n)).1 ?_
      gi_wp2
      refine hR.mono ?_
      rintro e w3 (⟨rfl, hJ4, hk4⟩ | ⟨rfl, hJx4⟩)
      · have J4 := Lib.hid hJ4
        have K4 := Lib.hid (KB.out.trans hk4)
        clear hJ4 hk4 hR hy p0 p0' p1' p2'
        gi_wp2
        go_wp2_with fail
        gi_wp2
        go_roundw
        case rel => exact ⟨k + 1, by omega, by go_num, Lib.hid (by rw [HTK.out]; exact J4.out), K4⟩
        case measure => simp [intOf]; omega
      · have J4 := Lib.hid hJx4
        clear hJx4 hR hy p0 p0' p1' p2'
        gi_wp2
        go_wp2_with fail
        refine bodyPost_ret (results_none rfl _ _ _) rfl ?_
        exact ⟨⟨_, rfl⟩, .inr ⟨_, HPR.out, J4.out⟩⟩
    · have hd : decide ((k : Int) < (m : Int)) = false := by simp; omega
      have HF : Hid (J (placedL i es) wr) := Lib.hid (by
        have h := hj.out
        rwa [List.take_of_length_le (by rw [placedL_len]; omega)] at h)
      gi_wp2
      go_end0
      exact ⟨⟨_, rfl⟩, .inl ⟨_, rfl, HF.out⟩⟩
theorem placed_foll (n : Nat) (hn1 : 1 ≤ n) {V : World} {n₀ Be Ba i t : Nat} {A : Option Addr} {m c : Nat} {es : List En} (hT : TP V n₀ Be Ba i t A m c es) (hm : m ≤ 1000) (him : i + m < 18446744073709551616) :
    SeqFoll n Try.prog 59 #[.pointer (some ⟨Be, 0, none⟩), .pointer (some ⟨Ba, 0, none⟩)] enP (Mv (TnP n₀ Be Ba)) (fun ys => ys = placedL i es) (fun pre => pre <+: placedL i es) (fun pre x => pre ++ [x] <+: placedL i es) V :=
  fun l J Jx W hW hJ _ hY h0 => placed1 n hn1 l n₀ Be Ba i t A m c es hm him J Jx W hJ hY (hT.mv (Mv.of_below hW _)) h0
end Go.Proofs.Ytgdcahakefmakaa
