/-
  PATHMAP: both: what its iterator tells, round by round, whatever the loop's body does that leaves the tables be.
-/
import Derived.RangeFuncNested
import Derived.RangeFuncBound
import Derived.RangeFuncCalls
import Derived.RangeFuncLeaves
import Derived.Shelf.Abstract
import Derived.Shelf.RegionOpen
import Derived.WalkKit
import Derived.OwnWalkIn
import Derived.TacticsInMore
import Derived.LoopNIn
import Derived.LoopIn
import Derived.Test.YtkdmlffnkomdhaaPe
import Derived.Test.YtkdmlffnkomdhaaPf
namespace Go.Proofs.Ytkdmlffnkomdhaa
set_option linter.unusedVariables false
set_option linter.unusedSimpArgs false
open Go.RowKit Go.WideShapes Go.ChangeShapes Go.Deep Go.Shelf
attribute [local go_sem] Oper.semAt_some

/-- What may turn while the loop runs. -/
def Tn (n₀ Ba Bb : Nat) : Nat → Prop := fun b => n₀ ≤ b ∧ b ≠ Ba ∧ b ≠ Bb
theorem sq_mv {α : Type} {f : α → List Value} {k : Nat} {w w' : World} {B n c : Nat} {A : Option Addr} {l : List α} {S : Nat → Prop} (h : Sq f k w B A n c l) (hB : B ≤ w.heap.size) (hm : Mv S w w') (hS : ∀ b, b < B → ¬ S b) : Sq f k w' B A n c l :=
  ⟨h.len, h.cap, h.max, h.non, h.sz, fun hn => by
    obtain ⟨b, o, e, hlt, hc⟩ := h.pos hn
    exact ⟨b, o, e, hlt, rangeAt_keep hc (hm.block b (by omega) (hS b hlt))⟩⟩
/-- What the iterator finds in memory. -/
structure Tb {β : Type} (fb : β → List Value) (kb : Nat) (tbL : Option Addr → Nat → Nat → List Value) (W : World) (n₀ Ba Bb : Nat) (Aa : Option Addr) (na ca : Nat) (la : List Rw) (Ab : Option Addr) (nb cb : Nat) (lb : List β) : Prop where
  a : SqR W n₀ Aa na ca la
  b : Sq fb kb W n₀ Ab nb cb lb
  n0 : n₀ ≤ W.heap.size
  xa : Lies W Ba 2 (tbLR Aa na ca)
  xb : Lies W Bb 2 (tbL Ab nb cb)
theorem Tb.mv {β : Type} {fb : β → List Value} {kb : Nat} {tbL : Option Addr → Nat → Nat → List Value} {W W' : World} {n₀ Ba Bb : Nat} {Aa : Option Addr} {na ca : Nat} {la : List Rw} {Ab : Option Addr} {nb cb : Nat} {lb : List β}
    (h : Tb fb kb tbL W n₀ Ba Bb Aa na ca la Ab nb cb lb) (hm : Mv (Tn n₀ Ba Bb) W W') : Tb fb kb tbL W' n₀ Ba Bb Aa na ca la Ab nb cb lb :=
  ⟨sq_mv h.a h.n0 hm (fun b hb hS => by have := hS.1; omega), sq_mv h.b h.n0 hm (fun b hb hS => by have := hS.1; omega), Nat.le_trans h.n0 hm.size,
    h.xa.kp (hm.block _ h.xa.lt fun hS => hS.2.1 rfl) hm.size, h.xb.kp (hm.block _ h.xb.lt fun hS => hS.2.2 rfl) hm.size⟩

abbrev enC (ba oa bb ob : Nat) {n m : Nat} (x : Mi n m) : Array Value := #[.pointer (x.i.map fun i => ⟨ba, oa + i.val * 2, none⟩), .pointer (x.k.map fun k => ⟨bb, ob + k.val * 3, none⟩)]
set_option maxRecDepth 100000 in
set_option maxHeartbeats 2000000 in
theorem bothRC1 (n : Nat) (hn1 : 1 ≤ n) (l Ba Bb n₀ : Nat) (Aa : Option Addr) (na ca : Nat) (la : List Rw) (Ab : Option Addr) (nb cb : Nat) (lb : List Ch) (ba oa bb ob : Nat) (hba : 0 < na → Aa = some ⟨ba, oa, none⟩) (hbb : 0 < nb → Ab = some ⟨bb, ob, none⟩) (hna : na ≤ 1000000) (hnb : nb ≤ 1000000)
    (J Jx : List (Mi la.length lb.length) → World → Prop) (W : World) (hJ : AbidesFrom W.heap.size J)
    (hY : ∀ pre x W1, J pre W1 → pre.length < la.length + lb.length → YieldAt Fence.wide (n - 1) Try.prog l (enC ba oa bb ob x) W1 fun e W' =>
      (e = .returned (.bool true) ∧ J (pre ++ [x]) W' ∧ Mv (Tn n₀ Ba Bb) W1 W') ∨ (e = .returned (.bool false) ∧ Jx (pre ++ [x]) W'))
    (hT : Tb Ch.cells 3 tbLC W n₀ Ba Bb Aa na ca la Ab nb cb lb) (h0 : J [] W) :
    CallsIn Fence.wide n Try.prog 76 #[.func (.yield l) #[] #[], .pointer (some ⟨Ba, 0, none⟩), .pointer (some ⟨Bb, 0, none⟩)] W fun e W' => (∃ v, e = .returned v) ∧
      ((∃ ys, ys = allW Rw.p Ch.p la lb ∧ J ys W') ∨ (∃ pre, pre <+: allW Rw.p Ch.p la lb ∧ Jx pre W')) := by
  have hla := hT.a.len
  have hlb := hT.b.len
  have q0 := hT.xa.cell (j := 0) rfl
  have q1 := hT.xa.cell (j := 1) rfl
  have q2 := hT.xb.cell (j := 0) rfl
  have q3 := hT.xb.cell (j := 1) rfl
  have HT := Lib.hid hT
  have HY := Lib.hid hY
  have HJ := Lib.hid hJ
  have H0 := Lib.hid h0
  clear hT hY hJ h0
  refine callsIn_of_wp Try.func76 rfl trivial ?_ rfl
  simp only [Try.ntmps76, List.size_toArray, List.length_cons, List.length_nil, Nat.reduceAdd, Nat.reduceSub, Array.replicate_succ, Array.replicate_zero, List.push_toArray, List.append_toArray, List.nil_append, List.cons_append]
  gi_wp2
  gi_loopw [4, 5] (fun i k wr => ∃ (i' k' f : Nat) (pre : List (Mi la.length lb.length)), i = .int .i64 (i' : Int) ∧ k = .int .i64 (k' : Int) ∧ i' ≤ na ∧ k' ≤ nb ∧ la.length + lb.length ≤ f + i' + k' ∧ pre.length + f = la.length + lb.length ∧ Hid (allW Rw.p Ch.p la lb = pre ++ runW Rw.p Ch.p la lb f i' k') ∧ Hid (J pre wr) ∧ Hid (Mv (Tn n₀ Ba Bb) W wr))
    (fun i k _ => na + nb - (intOf i).toNat - (intOf k).toNat)
  case atStart => exact ⟨0, 0, la.length + lb.length, [], rfl, rfl, Nat.zero_le _, Nat.zero_le _, by omega, by simp, Lib.hid rfl, H0, Lib.hid (Mv.refl _ _)⟩
  case round =>
    obtain ⟨i, k, f, pre, rfl, rfl, hi, hk, hf, hp, HA, HJw, HM⟩ := hrel
    have HW := Lib.hid (HT.out.mv HM.out)
    clear q0 q1 q2 q3
    have q0 := HW.out.xa.cell (j := 0) rfl
    have q1 := HW.out.xa.cell (j := 1) rfl
    have q2 := HW.out.xb.cell (j := 0) rfl
    have q3 := HW.out.xb.cell (j := 1) rfl
    have hi0 : (0 : Int) ≤ (i : Int) := Int.natCast_nonneg _
    have hk0 : (0 : Int) ≤ (k : Int) := Int.natCast_nonneg _
    by_cases hin : i < na
    · have di : decide ((i : Int) < (na : Int)) = true := by simp; omega
      by_cases hkn : k < nb
      · have dk : decide ((k : Int) < (nb : Int)) = true := by simp; omega
        have dn : ((i : Int) == (na : Int)) = false := by simp; omega
        have dm : ((k : Int) == (nb : Int)) = false := by simp; omega
        obtain rfl := hba (by omega)
        obtain rfl := hbb (by omega)
        clear hba hbb
        obtain ⟨pa, hpa⟩ : ∃ p, (la[i]'(by omega)).p = p := ⟨_, rfl⟩
        obtain ⟨pb, hpb⟩ : ∃ p, (lb[k]'(by omega)).p = p := ⟨_, rfl⟩
        have hnx := nx_le Rw.p Ch.p la lb (i := i) (k := k) (by omega) (by omega) (h := .inl (by omega))
        rw [hpa, hpb] at hnx
        have HNXT := Lib.hid hnx
        have CA : Hid (∀ W1, Tb Ch.cells 3 tbLC W1 n₀ Ba Bb (some ⟨ba, oa, none⟩) na ca la (some ⟨bb, ob, none⟩) nb cb lb → Calls Try.prog 72 #[tbR (some ⟨ba, oa, none⟩) na ca, .int .i64 (i : Int)] W1 fun e w' => e = .returned (.string pa) ∧ Below W1.heap.size W1 w') := Lib.hid fun W1 h1 => by rw [← hpa]; exact texts_path (h1.a.more h1.n0) hna i hin
        have CB : Hid (∀ W1, Tb Ch.cells 3 tbLC W1 n₀ Ba Bb (some ⟨ba, oa, none⟩) na ca la (some ⟨bb, ob, none⟩) nb cb lb → Calls Try.prog 77 #[tbC (some ⟨bb, ob, none⟩) nb cb, .int .i64 (k : Int)] W1 fun e w' => e = .returned (.string pb) ∧ Below W1.heap.size W1 w') := Lib.hid fun W1 h1 => by rw [← hpb]; exact changes_path (h1.b.more h1.n0) hnb k hkn
        clear hpa hpb hnx
        rcases tri_ pa pb with ⟨t1, t2, t3, t4⟩ | ⟨t1, t2, t3, t4⟩ | ⟨t1, t2, t3, t4⟩
        · have hta : takeA Rw.p Ch.p la lb i k = true := by rw [HNXT.out.1]; unfold le lt; rw [t1, t2]; rfl
          have htb : takeB Rw.p Ch.p la lb i k = false := by rw [HNXT.out.2]; unfold le lt; rw [t3, t4]; rfl
          have HTA := Lib.hid hta
          have HTB := Lib.hid htb
          clear hta htb
          gi_wp2
          have HTD := Lib.hid (HW.out.mv (Mv.refl (Tn n₀ Ba Bb) wr).drew)
          refine wpIn_wide.2 ?_
          go_region_held3 (fun w' => w'.cell? ⟨Ba, 0, none⟩ = some (.slice (some ⟨ba, oa, none⟩) na ca) ∧ w'.cell? ⟨Ba, 1, none⟩ = some (.func (.func 70) #[] #[]) ∧ w'.cell? ⟨Bb, 0, none⟩ = some (.slice (some ⟨bb, ob, none⟩) nb cb) ∧ w'.cell? ⟨Bb, 1, none⟩ = some (.func (.func 78) #[] #[]) ∧ Tb Ch.cells 3 tbLC w' n₀ Ba Bb (some ⟨ba, oa, none⟩) na ca la (some ⟨bb, ob, none⟩) nb cb lb ∧ Below wr.heap.size wr w') (first | exact ⟨q0, q1, q2, q3, HTD.out, (Below.refl _ _).drew⟩ | with_reducible exact K6.out | with_reducible exact K5.out | fail) (first | (go_at_call 72; have T := CA.out _ HTD.out; with_reducible refine Calls.mono T ?_; clear T; rintro e w5 ⟨rfl, hb5⟩; have hb6 := (show Below wr.heap.size wr w5 from (Below.refl _ _).drew.trans (hb5.mono (show wr.heap.size ≤ wr.drew.heap.size from Nat.le_refl _))); have T6 := HW.out.mv (Mv.of_below hb6 _); have K5 := Lib.hid (show (fun w' => w'.cell? ⟨Ba, 0, none⟩ = some (.slice (some ⟨ba, oa, none⟩) na ca) ∧ w'.cell? ⟨Ba, 1, none⟩ = some (.func (.func 70) #[] #[]) ∧ w'.cell? ⟨Bb, 0, none⟩ = some (.slice (some ⟨bb, ob, none⟩) nb cb) ∧ w'.cell? ⟨Bb, 1, none⟩ = some (.func (.func 78) #[] #[]) ∧ Tb Ch.cells 3 tbLC w' n₀ Ba Bb (some ⟨ba, oa, none⟩) na ca la (some ⟨bb, ob, none⟩) nb cb lb ∧ Below wr.heap.size wr w') w5 from ⟨T6.xa.cell (j := 0) rfl, T6.xa.cell (j := 1) rfl, T6.xb.cell (j := 0) rfl, T6.xb.cell (j := 1) rfl, T6, hb6⟩); clear hb5 hb6 T6) | (go_at_call 77; have T := CB.out _ K5.out.2.2.2.2.1; with_reducible refine Calls.mono T ?_; clear T; rintro e w6 ⟨rfl, hb5⟩; have hb6 := (show Below wr.heap.size wr w6 from K5.out.2.2.2.2.2.trans (hb5.mono K5.out.2.2.2.2.2.size)); have T6 := HW.out.mv (Mv.of_below hb6 _); have K6 := Lib.hid (show (fun w' => w'.cell? ⟨Ba, 0, none⟩ = some (.slice (some ⟨ba, oa, none⟩) na ca) ∧ w'.cell? ⟨Ba, 1, none⟩ = some (.func (.func 70) #[] #[]) ∧ w'.cell? ⟨Bb, 0, none⟩ = some (.slice (some ⟨bb, ob, none⟩) nb cb) ∧ w'.cell? ⟨Bb, 1, none⟩ = some (.func (.func 78) #[] #[]) ∧ Tb Ch.cells 3 tbLC w' n₀ Ba Bb (some ⟨ba, oa, none⟩) na ca la (some ⟨bb, ob, none⟩) nb cb lb ∧ Below wr.heap.size wr w') w6 from ⟨T6.xa.cell (j := 0) rfl, T6.xa.cell (j := 1) rfl, T6.xb.cell (j := 0) rfl, T6.xb.cell (j := 1) rfl, T6, hb6⟩); clear hb5 hb6 T6) | fail)
          have HM1 := Lib.hid (HM.out.trans (Mv.of_below K6.out.2.2.2.2.2 (Tn n₀ Ba Bb)))
          have HJ1 := Lib.hid (HJ.out pre wr w6 none HJw.out (only_of_below K6.out.2.2.2.2.2 none) (fun r e => by cases e))
          have HT1 := Lib.hid K6.out.2.2.2.2.1
          clear q0 q1 q2 q3 HW HM HJw K5 K6 HTD
          obtain ⟨w1, hweq⟩ : ∃ wz, w6 = wz := ⟨_, rfl⟩
          rw [hweq] at HM1 HJ1 HT1 ⊢
          clear hweq
          have HW := HT1
          have HM := HM1
          have HJw := HJ1
          clear HT1 HM1 HJ1
          have q0 := HW.out.xa.cell (j := 0) rfl
          have q1 := HW.out.xa.cell (j := 1) rfl
          have q2 := HW.out.xb.cell (j := 0) rfl
          have q3 := HW.out.xb.cell (j := 1) rfl
          clear t1 t2
          gi_wp2
          have HTD := Lib.hid (HW.out.mv (Mv.refl (Tn n₀ Ba Bb) w1).drew)
          refine wpIn_wide.2 ?_
          go_region_held3 (fun w' => w'.cell? ⟨Ba, 0, none⟩ = some (.slice (some ⟨ba, oa, none⟩) na ca) ∧ w'.cell? ⟨Ba, 1, none⟩ = some (.func (.func 70) #[] #[]) ∧ w'.cell? ⟨Bb, 0, none⟩ = some (.slice (some ⟨bb, ob, none⟩) nb cb) ∧ w'.cell? ⟨Bb, 1, none⟩ = some (.func (.func 78) #[] #[]) ∧ Tb Ch.cells 3 tbLC w' n₀ Ba Bb (some ⟨ba, oa, none⟩) na ca la (some ⟨bb, ob, none⟩) nb cb lb ∧ Below w1.heap.size w1 w') (first | exact ⟨q0, q1, q2, q3, HTD.out, (Below.refl _ _).drew⟩ | with_reducible exact K6.out | with_reducible exact K5.out | fail) (first | (go_at_call 77; have T := CB.out _ HTD.out; with_reducible refine Calls.mono T ?_; clear T; rintro e w5 ⟨rfl, hb5⟩; have hb6 := (show Below w1.heap.size w1 w5 from (Below.refl _ _).drew.trans (hb5.mono (show w1.heap.size ≤ w1.drew.heap.size from Nat.le_refl _))); have T6 := HW.out.mv (Mv.of_below hb6 _); have K5 := Lib.hid (show (fun w' => w'.cell? ⟨Ba, 0, none⟩ = some (.slice (some ⟨ba, oa, none⟩) na ca) ∧ w'.cell? ⟨Ba, 1, none⟩ = some (.func (.func 70) #[] #[]) ∧ w'.cell? ⟨Bb, 0, none⟩ = some (.slice (some ⟨bb, ob, none⟩) nb cb) ∧ w'.cell? ⟨Bb, 1, none⟩ = some (.func (.func 78) #[] #[]) ∧ Tb Ch.cells 3 tbLC w' n₀ Ba Bb (some ⟨ba, oa, none⟩) na ca la (some ⟨bb, ob, none⟩) nb cb lb ∧ Below w1.heap.size w1 w') w5 from ⟨T6.xa.cell (j := 0) rfl, T6.xa.cell (j := 1) rfl, T6.xb.cell (j := 0) rfl, T6.xb.cell (j := 1) rfl, T6, hb6⟩); clear hb5 hb6 T6) | (go_at_call 72; have T := CA.out _ K5.out.2.2.2.2.1; with_reducible refine Calls.mono T ?_; clear T; rintro e w6 ⟨rfl, hb5⟩; have hb6 := (show Below w1.heap.size w1 w6 from K5.out.2.2.2.2.2.trans (hb5.mono K5.out.2.2.2.2.2.size)); have T6 := HW.out.mv (Mv.of_below hb6 _); have K6 := Lib.hid (show (fun w' => w'.cell? ⟨Ba, 0, none⟩ = some (.slice (some ⟨ba, oa, none⟩) na ca) ∧ w'.cell? ⟨Ba, 1, none⟩ = some (.func (.func 70) #[] #[]) ∧ w'.cell? ⟨Bb, 0, none⟩ = some (.slice (some ⟨bb, ob, none⟩) nb cb) ∧ w'.cell? ⟨Bb, 1, none⟩ = some (.func (.func 78) #[] #[]) ∧ Tb Ch.cells 3 tbLC w' n₀ Ba Bb (some ⟨ba, oa, none⟩) na ca la (some ⟨bb, ob, none⟩) nb cb lb ∧ Below w1.heap.size w1 w') w6 from ⟨T6.xa.cell (j := 0) rfl, T6.xa.cell (j := 1) rfl, T6.xb.cell (j := 0) rfl, T6.xb.cell (j := 1) rfl, T6, hb6⟩); clear hb5 hb6 T6) | fail)
          have HM1 := Lib.hid (HM.out.trans (Mv.of_below K6.out.2.2.2.2.2 (Tn n₀ Ba Bb)))
          have HJ1 := Lib.hid (HJ.out pre w1 w6 none HJw.out (only_of_below K6.out.2.2.2.2.2 none) (fun r e => by cases e))
          have HT1 := Lib.hid K6.out.2.2.2.2.1
          clear q0 q1 q2 q3 HW HM HJw K5 K6 HTD
          obtain ⟨w2, hweq⟩ : ∃ wz, w6 = wz := ⟨_, rfl⟩
          rw [hweq] at HM1 HJ1 HT1 ⊢
          clear hweq
          have HW := HT1
          have HM := HM1
          have HJw := HJ1
          clear HT1 HM1 HJ1
          have q0 := HW.out.xa.cell (j := 0) rfl
          have q1 := HW.out.xa.cell (j := 1) rfl
          have q2 := HW.out.xb.cell (j := 0) rfl
          have q3 := HW.out.xb.cell (j := 1) rfl
          clear t3 t4
          have hta := HTA.out
          have htb := HTB.out
          obtain ⟨f', hf', HN⟩ := run_next Rw.p Ch.p la lb HA.out hf (.inl (by omega)) ⟨by omega, by omega⟩ (nx_t Rw.p Ch.p la lb hta htb) hta htb (i' := i + 1) (k' := k) (by simp) (by simp)
          have HN1 := Lib.hid HN
          obtain ⟨fn, tmps, assign, body, hy, hR⟩ := HY.out pre ⟨some ⟨i, by omega⟩, none, .inl rfl⟩ w2 HJw.out (by omega)
          dsimp only [enC, Option.map] at hy
          have HNX := Lib.hid HN1
          clear HN HN1
          gi_wp2
          refine hR.mono ?_
          rintro e w3 (⟨rfl, hJ3, hk3⟩ | ⟨rfl, hJx3⟩)
          · have J3 := Lib.hid hJ3
            have M3 := Lib.hid (HM.out.trans hk3)
            clear hJ3 hk3 hR
            gi_wp2
            go_roundw
            case rel => exact ⟨i + 1, k, f', _, by go_num, by go_num, by omega, by omega, by omega, by rw [List.length_append, List.length_singleton]; omega, HNX.out, J3, M3⟩
            case measure => simp [intOf]; omega
          · have J3 := Lib.hid hJx3
            clear hJx3 hR
            gi_wp2
            refine bodyPost_ret (results_none rfl _ _ _) rfl ?_
            exact ⟨⟨_, rfl⟩, .inr ⟨_, ⟨_, HNX.out.out.symm⟩, J3.out⟩⟩
        · have hta : takeA Rw.p Ch.p la lb i k = true := by rw [HNXT.out.1]; unfold le lt; rw [t1, t2]; rfl
          have htb : takeB Rw.p Ch.p la lb i k = true := by rw [HNXT.out.2]; unfold le lt; rw [t3, t4]; rfl
          have HTA := Lib.hid hta
          have HTB := Lib.hid htb
          clear hta htb
          gi_wp2
          have HTD := Lib.hid (HW.out.mv (Mv.refl (Tn n₀ Ba Bb) wr).drew)
          refine wpIn_wide.2 ?_
          go_region_held3 (fun w' => w'.cell? ⟨Ba, 0, none⟩ = some (.slice (some ⟨ba, oa, none⟩) na ca) ∧ w'.cell? ⟨Ba, 1, none⟩ = some (.func (.func 70) #[] #[]) ∧ w'.cell? ⟨Bb, 0, none⟩ = some (.slice (some ⟨bb, ob, none⟩) nb cb) ∧ w'.cell? ⟨Bb, 1, none⟩ = some (.func (.func 78) #[] #[]) ∧ Tb Ch.cells 3 tbLC w' n₀ Ba Bb (some ⟨ba, oa, none⟩) na ca la (some ⟨bb, ob, none⟩) nb cb lb ∧ Below wr.heap.size wr w') (first | exact ⟨q0, q1, q2, q3, HTD.out, (Below.refl _ _).drew⟩ | with_reducible exact K6.out | with_reducible exact K5.out | fail) (first | (go_at_call 72; have T := CA.out _ HTD.out; with_reducible refine Calls.mono T ?_; clear T; rintro e w5 ⟨rfl, hb5⟩; have hb6 := (show Below wr.heap.size wr w5 from (Below.refl _ _).drew.trans (hb5.mono (show wr.heap.size ≤ wr.drew.heap.size from Nat.le_refl _))); have T6 := HW.out.mv (Mv.of_below hb6 _); have K5 := Lib.hid (show (fun w' => w'.cell? ⟨Ba, 0, none⟩ = some (.slice (some ⟨ba, oa, none⟩) na ca) ∧ w'.cell? ⟨Ba, 1, none⟩ = some (.func (.func 70) #[] #[]) ∧ w'.cell? ⟨Bb, 0, none⟩ = some (.slice (some ⟨bb, ob, none⟩) nb cb) ∧ w'.cell? ⟨Bb, 1, none⟩ = some (.func (.func 78) #[] #[]) ∧ Tb Ch.cells 3 tbLC w' n₀ Ba Bb (some ⟨ba, oa, none⟩) na ca la (some ⟨bb, ob, none⟩) nb cb lb ∧ Below wr.heap.size wr w') w5 from ⟨T6.xa.cell (j := 0) rfl, T6.xa.cell (j := 1) rfl, T6.xb.cell (j := 0) rfl, T6.xb.cell (j := 1) rfl, T6, hb6⟩); clear hb5 hb6 T6) | (go_at_call 77; have T := CB.out _ K5.out.2.2.2.2.1; with_reducible refine Calls.mono T ?_; clear T; rintro e w6 ⟨rfl, hb5⟩; have hb6 := (show Below wr.heap.size wr w6 from K5.out.2.2.2.2.2.trans (hb5.mono K5.out.2.2.2.2.2.size)); have T6 := HW.out.mv (Mv.of_below hb6 _); have K6 := Lib.hid (show (fun w' => w'.cell? ⟨Ba, 0, none⟩ = some (.slice (some ⟨ba, oa, none⟩) na ca) ∧ w'.cell? ⟨Ba, 1, none⟩ = some (.func (.func 70) #[] #[]) ∧ w'.cell? ⟨Bb, 0, none⟩ = some (.slice (some ⟨bb, ob, none⟩) nb cb) ∧ w'.cell? ⟨Bb, 1, none⟩ = some (.func (.func 78) #[] #[]) ∧ Tb Ch.cells 3 tbLC w' n₀ Ba Bb (some ⟨ba, oa, none⟩) na ca la (some ⟨bb, ob, none⟩) nb cb lb ∧ Below wr.heap.size wr w') w6 from ⟨T6.xa.cell (j := 0) rfl, T6.xa.cell (j := 1) rfl, T6.xb.cell (j := 0) rfl, T6.xb.cell (j := 1) rfl, T6, hb6⟩); clear hb5 hb6 T6) | fail)
          have HM1 := Lib.hid (HM.out.trans (Mv.of_below K6.out.2.2.2.2.2 (Tn n₀ Ba Bb)))
          have HJ1 := Lib.hid (HJ.out pre wr w6 none HJw.out (only_of_below K6.out.2.2.2.2.2 none) (fun r e => by cases e))
          have HT1 := Lib.hid K6.out.2.2.2.2.1
          clear q0 q1 q2 q3 HW HM HJw K5 K6 HTD
          obtain ⟨w1, hweq⟩ : ∃ wz, w6 = wz := ⟨_, rfl⟩
          rw [hweq] at HM1 HJ1 HT1 ⊢
          clear hweq
          have HW := HT1
          have HM := HM1
          have HJw := HJ1
          clear HT1 HM1 HJ1
          have q0 := HW.out.xa.cell (j := 0) rfl
          have q1 := HW.out.xa.cell (j := 1) rfl
          have q2 := HW.out.xb.cell (j := 0) rfl
          have q3 := HW.out.xb.cell (j := 1) rfl
          clear t1 t2
          gi_wp2
          have HTD := Lib.hid (HW.out.mv (Mv.refl (Tn n₀ Ba Bb) w1).drew)
          refine wpIn_wide.2 ?_
          go_region_held3 (fun w' => w'.cell? ⟨Ba, 0, none⟩ = some (.slice (some ⟨ba, oa, none⟩) na ca) ∧ w'.cell? ⟨Ba, 1, none⟩ = some (.func (.func 70) #[] #[]) ∧ w'.cell? ⟨Bb, 0, none⟩ = some (.slice (some ⟨bb, ob, none⟩) nb cb) ∧ w'.cell? ⟨Bb, 1, none⟩ = some (.func (.func 78) #[] #[]) ∧ Tb Ch.cells 3 tbLC w' n₀ Ba Bb (some ⟨ba, oa, none⟩) na ca la (some ⟨bb, ob, none⟩) nb cb lb ∧ Below w1.heap.size w1 w') (first | exact ⟨q0, q1, q2, q3, HTD.out, (Below.refl _ _).drew⟩ | with_reducible exact K6.out | with_reducible exact K5.out | fail) (first | (go_at_call 77; have T := CB.out _ HTD.out; with_reducible refine Calls.mono T ?_; clear T; rintro e w5 ⟨rfl, hb5⟩; have hb6 := (show Below w1.heap.size w1 w5 from (Below.refl _ _).drew.trans (hb5.mono (show w1.heap.size ≤ w1.drew.heap.size from Nat.le_refl _))); have T6 := HW.out.mv (Mv.of_below hb6 _); have K5 := Lib.hid (show (fun w' => w'.cell? ⟨Ba, 0, none⟩ = some (.slice (some ⟨ba, oa, none⟩) na ca) ∧ w'.cell? ⟨Ba, 1, none⟩ = some (.func (.func 70) #[] #[]) ∧ w'.cell? ⟨Bb, 0, none⟩ = some (.slice (some ⟨bb, ob, none⟩) nb cb) ∧ w'.cell? ⟨Bb, 1, none⟩ = some (.func (.func 78) #[] #[]) ∧ Tb Ch.cells 3 tbLC w' n₀ Ba Bb (some ⟨ba, oa, none⟩) na ca la (some ⟨bb, ob, none⟩) nb cb lb ∧ Below w1.heap.size w1 w') w5 from ⟨T6.xa.cell (j := 0) rfl, T6.xa.cell (j := 1) rfl, T6.xb.cell (j := 0) rfl, T6.xb.cell (j := 1) rfl, T6, hb6⟩); clear hb5 hb6 T6) | (go_at_call 72; have T := CA.out _ K5.out.2.2.2.2.1; with_reducible refine Calls.mono T ?_; clear T; rintro e w6 ⟨rfl, hb5⟩; have hb6 := (show Below w1.heap.size w1 w6 from K5.out.2.2.2.2.2.trans (hb5.mono K5.out.2.2.2.2.2.size)); have T6 := HW.out.mv (Mv.of_below hb6 _); have K6 := Lib.hid (show (fun w' => w'.cell? ⟨Ba, 0, none⟩ = some (.slice (some ⟨ba, oa, none⟩) na ca) ∧ w'.cell? ⟨Ba, 1, none⟩ = some (.func (.func 70) #[] #[]) ∧ w'.cell? ⟨Bb, 0, none⟩ = some (.slice (some ⟨bb, ob, none⟩) nb cb) ∧ w'.cell? ⟨Bb, 1, none⟩ = some (.func (.func 78) #[] #[]) ∧ Tb Ch.cells 3 tbLC w' n₀ Ba Bb (some ⟨ba, oa, none⟩) na ca la (some ⟨bb, ob, none⟩) nb cb lb ∧ Below w1.heap.size w1 w') w6 from ⟨T6.xa.cell (j := 0) rfl, T6.xa.cell (j := 1) rfl, T6.xb.cell (j := 0) rfl, T6.xb.cell (j := 1) rfl, T6, hb6⟩); clear hb5 hb6 T6) | fail)
          have HM1 := Lib.hid (HM.out.trans (Mv.of_below K6.out.2.2.2.2.2 (Tn n₀ Ba Bb)))
          have HJ1 := Lib.hid (HJ.out pre w1 w6 none HJw.out (only_of_below K6.out.2.2.2.2.2 none) (fun r e => by cases e))
          have HT1 := Lib.hid K6.out.2.2.2.2.1
          clear q0 q1 q2 q3 HW HM HJw K5 K6 HTD
          obtain ⟨w2, hweq⟩ : ∃ wz, w6 = wz := ⟨_, rfl⟩
          rw [hweq] at HM1 HJ1 HT1 ⊢
          clear hweq
          have HW := HT1
          have HM := HM1
          have HJw := HJ1
          clear HT1 HM1 HJ1
          have q0 := HW.out.xa.cell (j := 0) rfl
          have q1 := HW.out.xa.cell (j := 1) rfl
          have q2 := HW.out.xb.cell (j := 0) rfl
          have q3 := HW.out.xb.cell (j := 1) rfl
          clear t3 t4
          have hta := HTA.out
          have htb := HTB.out
          obtain ⟨f', hf', HN⟩ := run_next Rw.p Ch.p la lb HA.out hf (.inl (by omega)) ⟨by omega, by omega⟩ (nx_t Rw.p Ch.p la lb hta htb) hta htb (i' := i + 1) (k' := k + 1) (by simp) (by simp)
          have HN1 := Lib.hid HN
          obtain ⟨fn, tmps, assign, body, hy, hR⟩ := HY.out pre ⟨some ⟨i, by omega⟩, some ⟨k, by omega⟩, .inl rfl⟩ w2 HJw.out (by omega)
          dsimp only [enC, Option.map] at hy
          have HNX := Lib.hid HN1
          clear HN HN1
          gi_wp2
          refine hR.mono ?_
          rintro e w3 (⟨rfl, hJ3, hk3⟩ | ⟨rfl, hJx3⟩)
          · have J3 := Lib.hid hJ3
            have M3 := Lib.hid (HM.out.trans hk3)
            clear hJ3 hk3 hR
            gi_wp2
            go_roundw
            case rel => exact ⟨i + 1, k + 1, f', _, by go_num, by go_num, by omega, by omega, by omega, by rw [List.length_append, List.length_singleton]; omega, HNX.out, J3, M3⟩
            case measure => simp [intOf]; omega
          · have J3 := Lib.hid hJx3
            clear hJx3 hR
            gi_wp2
            refine bodyPost_ret (results_none rfl _ _ _) rfl ?_
            exact ⟨⟨_, rfl⟩, .inr ⟨_, ⟨_, HNX.out.out.symm⟩, J3.out⟩⟩
        · have hta : takeA Rw.p Ch.p la lb i k = false := by rw [HNXT.out.1]; unfold le lt; rw [t1, t2]; rfl
          have htb : takeB Rw.p Ch.p la lb i k = true := by rw [HNXT.out.2]; unfold le lt; rw [t3, t4]; rfl
          have HTA := Lib.hid hta
          have HTB := Lib.hid htb
          clear hta htb
          gi_wp2
          have HTD := Lib.hid (HW.out.mv (Mv.refl (Tn n₀ Ba Bb) wr).drew)
          refine wpIn_wide.2 ?_
          go_region_held3 (fun w' => w'.cell? ⟨Ba, 0, none⟩ = some (.slice (some ⟨ba, oa, none⟩) na ca) ∧ w'.cell? ⟨Ba, 1, none⟩ = some (.func (.func 70) #[] #[]) ∧ w'.cell? ⟨Bb, 0, none⟩ = some (.slice (some ⟨bb, ob, none⟩) nb cb) ∧ w'.cell? ⟨Bb, 1, none⟩ = some (.func (.func 78) #[] #[]) ∧ Tb Ch.cells 3 tbLC w' n₀ Ba Bb (some ⟨ba, oa, none⟩) na ca la (some ⟨bb, ob, none⟩) nb cb lb ∧ Below wr.heap.size wr w') (first | exact ⟨q0, q1, q2, q3, HTD.out, (Below.refl _ _).drew⟩ | with_reducible exact K6.out | with_reducible exact K5.out | fail) (first | (go_at_call 72; have T := CA.out _ HTD.out; with_reducible refine Calls.mono T ?_; clear T; rintro e w5 ⟨rfl, hb5⟩; have hb6 := (show Below wr.heap.size wr w5 from (Below.refl _ _).drew.trans (hb5.mono (show wr.heap.size ≤ wr.drew.heap.size from Nat.le_refl _))); have T6 := HW.out.mv (Mv.of_below hb6 _); have K5 := Lib.hid (show (fun w' => w'.cell? ⟨Ba, 0, none⟩ = some (.slice (some ⟨ba, oa, none⟩) na ca) ∧ w'.cell? ⟨Ba, 1, none⟩ = some (.func (.func 70) #[] #[]) ∧ w'.cell? ⟨Bb, 0, none⟩ = some (.slice (some ⟨bb, ob, none⟩) nb cb) ∧ w'.cell? ⟨Bb, 1, none⟩ = some (.func (.func 78) #[] #[]) ∧ Tb Ch.cells 3 tbLC w' n₀ Ba Bb (some ⟨ba, oa, none⟩) na ca la (some ⟨bb, ob, none⟩) nb cb lb ∧ Below wr.heap.size wr w') w5 from ⟨T6.xa.cell (j := 0) rfl, T6.xa.cell (j := 1) rfl, T6.xb.cell (j := 0) rfl, T6.xb.cell (j := 1) rfl, T6, hb6⟩); clear hb5 hb6 T6) | (go_at_call 77; have T := CB.out _ K5.out.2.2.2.2.1; with_reducible refine Calls.mono T ?_; clear T; rintro e w6 ⟨rfl, hb5⟩; have hb6 := (show Below wr.heap.size wr w6 from K5.out.2.2.2.2.2.trans (hb5.mono K5.out.2.2.2.2.2.size)); have T6 := HW.out.mv (Mv.of_below hb6 _); have K6 := Lib.hid (show (fun w' => w'.cell? ⟨Ba, 0, none⟩ = some (.slice (some ⟨ba, oa, none⟩) na ca) ∧ w'.cell? ⟨Ba, 1, none⟩ = some (.func (.func 70) #[] #[]) ∧ w'.cell? ⟨Bb, 0, none⟩ = some (.slice (some ⟨bb, ob, none⟩) nb cb) ∧ w'.cell? ⟨Bb, 1, none⟩ = some (.func (.func 78) #[] #[]) ∧ Tb Ch.cells 3 tbLC w' n₀ Ba Bb (some ⟨ba, oa, none⟩) na ca la (some ⟨bb, ob, none⟩) nb cb lb ∧ Below wr.heap.size wr w') w6 from ⟨T6.xa.cell (j := 0) rfl, T6.xa.cell (j := 1) rfl, T6.xb.cell (j := 0) rfl, T6.xb.cell (j := 1) rfl, T6, hb6⟩); clear hb5 hb6 T6) | fail)
          have HM1 := Lib.hid (HM.out.trans (Mv.of_below K6.out.2.2.2.2.2 (Tn n₀ Ba Bb)))
          have HJ1 := Lib.hid (HJ.out pre wr w6 none HJw.out (only_of_below K6.out.2.2.2.2.2 none) (fun r e => by cases e))
          have HT1 := Lib.hid K6.out.2.2.2.2.1
          clear q0 q1 q2 q3 HW HM HJw K5 K6 HTD
          obtain ⟨w1, hweq⟩ : ∃ wz, w6 = wz := ⟨_, rfl⟩
          rw [hweq] at HM1 HJ1 HT1 ⊢
          clear hweq
          have HW := HT1
          have HM := HM1
          have HJw := HJ1
          clear HT1 HM1 HJ1
          have q0 := HW.out.xa.cell (j := 0) rfl
          have q1 := HW.out.xa.cell (j := 1) rfl
          have q2 := HW.out.xb.cell (j := 0) rfl
          have q3 := HW.out.xb.cell (j := 1) rfl
          clear t1 t2
          gi_wp2
          have HTD := Lib.hid (HW.out.mv (Mv.refl (Tn n₀ Ba Bb) w1).drew)
          refine wpIn_wide.2 ?_
          go_region_held3 (fun w' => w'.cell? ⟨Ba, 0, none⟩ = some (.slice (some ⟨ba, oa, none⟩) na ca) ∧ w'.cell? ⟨Ba, 1, none⟩ = some (.func (.func 70) #[] #[]) ∧ w'.cell? ⟨Bb, 0, none⟩ = some (.slice (some ⟨bb, ob, none⟩) nb cb) ∧ w'.cell? ⟨Bb, 1, none⟩ = some (.func (.func 78) #[] #[]) ∧ Tb Ch.cells 3 tbLC w' n₀ Ba Bb (some ⟨ba, oa, none⟩) na ca la (some ⟨bb, ob, none⟩) nb cb lb ∧ Below w1.heap.size w1 w') (first | exact ⟨q0, q1, q2, q3, HTD.out, (Below.refl _ _).drew⟩ | with_reducible exact K6.out | with_reducible exact K5.out | fail) (first | (go_at_call 77; have T := CB.out _ HTD.out; with_reducible refine Calls.mono T ?_; clear T; rintro e w5 ⟨rfl, hb5⟩; have hb6 := (show Below w1.heap.size w1 w5 from (Below.refl _ _).drew.trans (hb5.mono (show w1.heap.size ≤ w1.drew.heap.size from Nat.le_refl _))); have T6 := HW.out.mv (Mv.of_below hb6 _); have K5 := Lib.hid (show (fun w' => w'.cell? ⟨Ba, 0, none⟩ = some (.slice (some ⟨ba, oa, none⟩) na ca) ∧ w'.cell? ⟨Ba, 1, none⟩ = some (.func (.func 70) #[] #[]) ∧ w'.cell? ⟨Bb, 0, none⟩ = some (.slice (some ⟨bb, ob, none⟩) nb cb) ∧ w'.cell? ⟨Bb, 1, none⟩ = some (.func (.func 78) #[] #[]) ∧ Tb Ch.cells 3 tbLC w' n₀ Ba Bb (some ⟨ba, oa, none⟩) na ca la (some ⟨bb, ob, none⟩) nb cb lb ∧ Below w1.heap.size w1 w') w5 from ⟨T6.xa.cell (j := 0) rfl, T6.xa.cell (j := 1) rfl, T6.xb.cell (j := 0) rfl, T6.xb.cell (j := 1) rfl, T6, hb6⟩); clear hb5 hb6 T6) | (go_at_call 72; have T := CA.out _ K5.out.2.2.2.2.1; with_reducible refine Calls.mono T ?_; clear T; rintro e w6 ⟨rfl, hb5⟩; have hb6 := (show Below w1.heap.size w1 w6 from K5.out.2.2.2.2.2.trans (hb5.mono K5.out.2.2.2.2.2.size)); have T6 := HW.out.mv (Mv.of_below hb6 _); have K6 := Lib.hid (show (fun w' => w'.cell? ⟨Ba, 0, none⟩ = some (.slice (some ⟨ba, oa, none⟩) na ca) ∧ w'.cell? ⟨Ba, 1, none⟩ = some (.func (.func 70) #[] #[]) ∧ w'.cell? ⟨Bb, 0, none⟩ = some (.slice (some ⟨bb, ob, none⟩) nb cb) ∧ w'.cell? ⟨Bb, 1, none⟩ = some (.func (.func 78) #[] #[]) ∧ Tb Ch.cells 3 tbLC w' n₀ Ba Bb (some ⟨ba, oa, none⟩) na ca la (some ⟨bb, ob, none⟩) nb cb lb ∧ Below w1.heap.size w1 w') w6 from ⟨T6.xa.cell (j := 0) rfl, T6.xa.cell (j := 1) rfl, T6.xb.cell (j := 0) rfl, T6.xb.cell (j := 1) rfl, T6, hb6⟩); clear hb5 hb6 T6) | fail)
          have HM1 := Lib.hid (HM.out.trans (Mv.of_below K6.out.2.2.2.2.2 (Tn n₀ Ba Bb)))
          have HJ1 := Lib.hid (HJ.out pre w1 w6 none HJw.out (only_of_below K6.out.2.2.2.2.2 none) (fun r e => by cases e))
          have HT1 := Lib.hid K6.out.2.2.2.2.1
          clear q0 q1 q2 q3 HW HM HJw K5 K6 HTD
          obtain ⟨w2, hweq⟩ : ∃ wz, w6 = wz := ⟨_, rfl⟩
          rw [hweq] at HM1 HJ1 HT1 ⊢
          clear hweq
          have HW := HT1
          have HM := HM1
          have HJw := HJ1
          clear HT1 HM1 HJ1
          have q0 := HW.out.xa.cell (j := 0) rfl
          have q1 := HW.out.xa.cell (j := 1) rfl
          have q2 := HW.out.xb.cell (j := 0) rfl
          have q3 := HW.out.xb.cell (j := 1) rfl
          clear t3 t4
          have hta := HTA.out
          have htb := HTB.out
          obtain ⟨f', hf', HN⟩ := run_next Rw.p Ch.p la lb HA.out hf (.inl (by omega)) ⟨by omega, by omega⟩ (nx_t Rw.p Ch.p la lb hta htb) hta htb (i' := i) (k' := k + 1) (by simp) (by simp)
          have HN1 := Lib.hid HN
          obtain ⟨fn, tmps, assign, body, hy, hR⟩ := HY.out pre ⟨none, some ⟨k, by omega⟩, .inr rfl⟩ w2 HJw.out (by omega)
          dsimp only [enC, Option.map] at hy
          have HNX := Lib.hid HN1
          clear HN HN1
          gi_wp2
          refine hR.mono ?_
          rintro e w3 (⟨rfl, hJ3, hk3⟩ | ⟨rfl, hJx3⟩)
          · have J3 := Lib.hid hJ3
            have M3 := Lib.hid (HM.out.trans hk3)
            clear hJ3 hk3 hR
            gi_wp2
            go_roundw
            case rel => exact ⟨i, k + 1, f', _, by go_num, by go_num, by omega, by omega, by omega, by rw [List.length_append, List.length_singleton]; omega, HNX.out, J3, M3⟩
            case measure => simp [intOf]; omega
          · have J3 := Lib.hid hJx3
            clear hJx3 hR
            gi_wp2
            refine bodyPost_ret (results_none rfl _ _ _) rfl ?_
            exact ⟨⟨_, rfl⟩, .inr ⟨_, ⟨_, HNX.out.out.symm⟩, J3.out⟩⟩
      · have hke : k = nb := by omega
        subst k
        have dk : decide ((nb : Int) < (nb : Int)) = false := by simp
        have dn : ((i : Int) == (na : Int)) = false := by simp; omega
        have hx : Hid (∀ (h : i < la.length ∨ nb < lb.length), nx Rw.p Ch.p la lb i nb h = ⟨some ⟨i, by omega⟩, none, .inl rfl⟩ ∧ takeA Rw.p Ch.p la lb i nb = true ∧ takeB Rw.p Ch.p la lb i nb = false) := Lib.hid (fun h => nx_a _ _ _ _ (by omega) (by omega))
        have hba' := hba (by omega)
        gi_wp2
        refine wpIn_wide.2 ?_
        go_quiet (fail)
        have HT1 := Lib.hid (HW.out.mv ((Mv.refl (Tn n₀ Ba Bb) wr).drewN nq))
        have HM1 := Lib.hid (HM.out.drewN nq)
        have HJ1 := Lib.hid (HJ.out pre wr (wr.drewN nq) none HJw.out ⟨rfl, rfl, rfl, Nat.le_refl _, fun _ _ _ => rfl⟩ (fun r e => by cases e))
        generalize wr.drewN nq = w1 at HT1 HM1 HJ1 ⊢
        clear q0 q1 q2 q3 HW HM HJw
        have HW := HT1
        have HM := HM1
        have HJw := HJ1
        clear HT1 HM1 HJ1
        have q0 := HW.out.xa.cell (j := 0) rfl
        have q1 := HW.out.xa.cell (j := 1) rfl
        have q2 := HW.out.xb.cell (j := 0) rfl
        have q3 := HW.out.xb.cell (j := 1) rfl
        gi_wp2
        refine wpIn_wide.2 ?_
        go_quiet (fail)
        have HT1 := Lib.hid (HW.out.mv ((Mv.refl (Tn n₀ Ba Bb) w1).drewN nq))
        have HM1 := Lib.hid (HM.out.drewN nq)
        have HJ1 := Lib.hid (HJ.out pre w1 (w1.drewN nq) none HJw.out ⟨rfl, rfl, rfl, Nat.le_refl _, fun _ _ _ => rfl⟩ (fun r e => by cases e))
        generalize w1.drewN nq = w2 at HT1 HM1 HJ1 ⊢
        clear q0 q1 q2 q3 HW HM HJw
        have HW := HT1
        have HM := HM1
        have HJw := HJ1
        clear HT1 HM1 HJ1
        have q0 := HW.out.xa.cell (j := 0) rfl
        have q1 := HW.out.xa.cell (j := 1) rfl
        have q2 := HW.out.xb.cell (j := 0) rfl
        have q3 := HW.out.xb.cell (j := 1) rfl
        obtain ⟨f', hf', HN⟩ := run_next Rw.p Ch.p la lb HA.out hf (.inl (by omega)) ⟨by omega, by omega⟩ (hx.out (.inl (by omega))).1 (hx.out (.inl (by omega))).2.1 (hx.out (.inl (by omega))).2.2 (i' := i + 1) (k' := nb) (by simp) (by simp)
        have HN1 := Lib.hid HN
        obtain ⟨fn, tmps, assign, body, hy, hR⟩ := HY.out pre ⟨some ⟨i, by omega⟩, none, .inl rfl⟩ w2 HJw.out (by omega)
        dsimp only [enC, Option.map] at hy
        have HNX := Lib.hid HN1
        clear HN HN1
        gi_wp2
        refine hR.mono ?_
        rintro e w3 (⟨rfl, hJ3, hk3⟩ | ⟨rfl, hJx3⟩)
        · have J3 := Lib.hid hJ3
          have M3 := Lib.hid (HM.out.trans hk3)
          clear hJ3 hk3 hR
          gi_wp2
          go_roundw
          case rel => exact ⟨i + 1, nb, f', _, by go_num, by go_num, by omega, by omega, by omega, by rw [List.length_append, List.length_singleton]; omega, HNX.out, J3, M3⟩
          case measure => simp [intOf]; omega
        · have J3 := Lib.hid hJx3
          clear hJx3 hR
          gi_wp2
          refine bodyPost_ret (results_none rfl _ _ _) rfl ?_
          exact ⟨⟨_, rfl⟩, .inr ⟨_, ⟨_, HNX.out.out.symm⟩, J3.out⟩⟩
    · have di : decide ((i : Int) < (na : Int)) = false := by simp; omega
      by_cases hkn : k < nb
      · have hie : i = na := by omega
        subst i
        have dk : decide ((k : Int) < (nb : Int)) = true := by simp; omega
        have dm : ((k : Int) == (nb : Int)) = false := by simp; omega
        have hx : Hid (∀ (h : na < la.length ∨ k < lb.length), nx Rw.p Ch.p la lb na k h = ⟨none, some ⟨k, by omega⟩, .inr rfl⟩ ∧ takeA Rw.p Ch.p la lb na k = false ∧ takeB Rw.p Ch.p la lb na k = true) := Lib.hid (fun h => nx_b _ _ _ _ (by omega) (by omega))
        have hbb' := hbb (by omega)
        gi_wp2
        refine wpIn_wide.2 ?_
        go_quiet (fail)
        have HT1 := Lib.hid (HW.out.mv ((Mv.refl (Tn n₀ Ba Bb) wr).drewN nq))
        have HM1 := Lib.hid (HM.out.drewN nq)
        have HJ1 := Lib.hid (HJ.out pre wr (wr.drewN nq) none HJw.out ⟨rfl, rfl, rfl, Nat.le_refl _, fun _ _ _ => rfl⟩ (fun r e => by cases e))
        generalize wr.drewN nq = w1 at HT1 HM1 HJ1 ⊢
        clear q0 q1 q2 q3 HW HM HJw
        have HW := HT1
        have HM := HM1
        have HJw := HJ1
        clear HT1 HM1 HJ1
        have q0 := HW.out.xa.cell (j := 0) rfl
        have q1 := HW.out.xa.cell (j := 1) rfl
        have q2 := HW.out.xb.cell (j := 0) rfl
        have q3 := HW.out.xb.cell (j := 1) rfl
        gi_wp2
        refine wpIn_wide.2 ?_
        go_quiet (fail)
        have HT1 := Lib.hid (HW.out.mv ((Mv.refl (Tn n₀ Ba Bb) w1).drewN nq))
        have HM1 := Lib.hid (HM.out.drewN nq)
        have HJ1 := Lib.hid (HJ.out pre w1 (w1.drewN nq) none HJw.out ⟨rfl, rfl, rfl, Nat.le_refl _, fun _ _ _ => rfl⟩ (fun r e => by cases e))
        generalize w1.drewN nq = w2 at HT1 HM1 HJ1 ⊢
        clear q0 q1 q2 q3 HW HM HJw
        have HW := HT1
        have HM := HM1
        have HJw := HJ1
        clear HT1 HM1 HJ1
        have q0 := HW.out.xa.cell (j := 0) rfl
        have q1 := HW.out.xa.cell (j := 1) rfl
        have q2 := HW.out.xb.cell (j := 0) rfl
        have q3 := HW.out.xb.cell (j := 1) rfl
        obtain ⟨f', hf', HN⟩ := run_next Rw.p Ch.p la lb HA.out hf (.inr (by omega)) ⟨by omega, by omega⟩ (hx.out (.inr (by omega))).1 (hx.out (.inr (by omega))).2.1 (hx.out (.inr (by omega))).2.2 (i' := na) (k' := k + 1) (by simp) (by simp)
        have HN1 := Lib.hid HN
        obtain ⟨fn, tmps, assign, body, hy, hR⟩ := HY.out pre ⟨none, some ⟨k, by omega⟩, .inr rfl⟩ w2 HJw.out (by omega)
        dsimp only [enC, Option.map] at hy
        have HNX := Lib.hid HN1
        clear HN HN1
        gi_wp2
        refine hR.mono ?_
        rintro e w3 (⟨rfl, hJ3, hk3⟩ | ⟨rfl, hJx3⟩)
        · have J3 := Lib.hid hJ3
          have M3 := Lib.hid (HM.out.trans hk3)
          clear hJ3 hk3 hR
          gi_wp2
          go_roundw
          case rel => exact ⟨na, k + 1, f', _, by go_num, by go_num, by omega, by omega, by omega, by rw [List.length_append, List.length_singleton]; omega, HNX.out, J3, M3⟩
          case measure => simp [intOf]; omega
        · have J3 := Lib.hid hJx3
          clear hJx3 hR
          gi_wp2
          refine bodyPost_ret (results_none rfl _ _ _) rfl ?_
          exact ⟨⟨_, rfl⟩, .inr ⟨_, ⟨_, HNX.out.out.symm⟩, J3.out⟩⟩
      · have dk : decide ((k : Int) < (nb : Int)) = false := by simp; omega
        gi_wp2
        go_end0
        exact ⟨⟨_, rfl⟩, .inl ⟨_, rfl, by rw [HA.out, runW_end _ _ _ _ (by omega) (by omega), List.append_nil]; exact HJw.out⟩⟩
end Go.Proofs.Ytkdmlffnkomdhaa
