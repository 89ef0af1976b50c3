/-
  MERGE: Conflicts.
  MERGE: Conflicts.
-/
import Derived.RangeFuncNested
import Derived.RangeFuncBound
import Derived.RangeFuncCalls
import Derived.RangeFuncLeaves
import Derived.RangeFuncBox
import Derived.Shelf.Abstract
import Derived.Shelf.RegionOpen
import Derived.WalkKit
import Derived.OwnWalkIn
import Derived.TacticsInMore
import Derived.LoopNIn
import Derived.LoopIn
import Derived.Deep.Cut
import Derived.Great.BuildSlice
import Derived.Great.FillDense
import Derived.Test.YtkdmlffnkomdhaaMc
import Derived.Test.YtkdmlffnkomdhaaPj
namespace Go.Proofs.Ytkdmlffnkomdhaa
set_option linter.unusedVariables false
set_option linter.unusedSimpArgs false
set_option pp.deepTerms true
set_option pp.maxSteps 200000
open Go.RowKit Go.WideShapes Go.ChangeShapes Go.Deep Go.Shelf
attribute [local go_sem] Oper.semAt_some
attribute [local irreducible] wpQuiet

theorem pl_one (l : List Pl) : ∀ v ∈ l.flatMap Pl.cells, v.oneCell' = true := by
  intro v hv
  simp only [List.mem_flatMap, Pl.cells, List.mem_cons, List.not_mem_nil, or_false] at hv
  obtain ⟨r, _, rfl | rfl | rfl | rfl | rfl | rfl | rfl⟩ := hv <;> rfl
/-- A literal slice of one conflict. -/
theorem one_cf (r : Pl) (w : World) : (Instr.buildSlice 30 1 #[(0, plV r)]).run Try.prog w = .ok (.slice (some ⟨w.heap.size, 0, none⟩) 1 1) (w.alloc (.cells r.cells.toArray 43)) := by
  obtain ⟨i0, hi, hz, hz1, hz2⟩ := info_parts info_cf
  have hcl : r.cells.length = 7 := rfl
  have hs : (plV r).cells.size = 7 := by simp [Value.cells]
  obtain ⟨x, hr, hrs, hrk⟩ := Great.fill_dense (s := 7) (by omega) [plV r] 0 ((Array.range (1 * i0.size)).map ((plV ⟨⟨#[]⟩, ⟨false, ⟨#[]⟩⟩, ⟨false, ⟨#[]⟩⟩, ⟨false, ⟨#[]⟩⟩⟩).cells[· % (plV ⟨⟨#[]⟩, ⟨false, ⟨#[]⟩⟩, ⟨false, ⟨#[]⟩⟩, ⟨false, ⟨#[]⟩⟩⟩).cells.size]!)) (by intro v hv; simp at hv; subst hv; exact hs) (by rw [hz1]; simp)
  have hre : x = r.cells.toArray := by
    apply Array.ext_getElem?
    intro k
    rw [hrk k]
    by_cases hk : k < 7
    · rw [if_pos ⟨by omega, by simp; omega⟩]
      have h1 : k / 7 - 0 = 0 := by omega
      have h2 : k % 7 = k := by omega
      rw [h1, h2]
      simp [Value.cells, Pl.cells]
    · rw [if_neg (by simp; omega)]
      rw [Array.getElem?_eq_none (by simp [hz1]; omega), Array.getElem?_eq_none (by simp [hcl]; omega)]
  rw [hre] at hr
  exact run_buildSlice w _ _ 1 _ _ i0 _ Try.underlying30 hi hz (by rw [hz1]; omega) (by rw [hz1]; omega) (by rw [hz1] at hr ⊢; exact hr)
theorem wp_one_cf {o : Oper} {a : Act} {w : World} {K : Act → World → Prop} {Q : Exit → Act → World → Prop} (x : Operand) (ho : o.op = .buildSlice 30 1 #[(0, x)]) (r : Pl) (hx : a.eval x = plV r)
    (h : K (a.put o.dst (.slice (some ⟨w.heap.size, 0, none⟩) 1 1)) (w.alloc (.cells r.cells.toArray 43))) : o.wp Try.prog a w K Q := by
  unfold Oper.wp execOp
  simp only [ho, List.map_toArray, List.map_cons, List.map_nil, hx, one_cf, Sem.run_bind, Result.andThen_ok]
  exact h

end Go.Proofs.Ytkdmlffnkomdhaa
namespace Go.Proofs.Ytkdmlffnkomdhaa
set_option linter.unusedVariables false
set_option linter.unusedSimpArgs false
set_option pp.deepTerms true
set_option pp.maxSteps 200000
open Go.RowKit Go.WideShapes Go.ChangeShapes Go.Deep Go.Shelf
attribute [local go_sem] Oper.semAt_some
attribute [local irreducible] wpQuiet

/-- The conflicts. -/
def confW (lb lo lt : List Rw) : List Pl := (plsW lb lo lt).filter conflW
def confE (lb lo lt : List Rw) : Int := if rightR lb && (rightR lo && rightR lt) then 0 else 150
abbrev SqP := Sq Pl.cells 7
theorem results_Conf (tmps : Array Value) (W : World) (v : Value) (k : Int) (h4 : tmps.getD 6 undef = v) (h5 : tmps.getD 7 undef = .int .i64 k) :
    (results Try.f12 tmps).run Try.prog W = .ok (.tuple #[v, .int .i64 k]) W := by
  have h4' : tmps[6]?.getD undef = v := by simpa using h4
  have h5' : tmps[7]?.getD undef = .int .i64 k := by simpa using h5
  simp [results, Try.f12, go_sem, h4', h5']
theorem ends_Conf {W : World} {R : Ending → World → Prop} (tmps : Array Value) (v : Value) (k : Int) (h4 : tmps.getD 6 undef = v) (h5 : tmps.getD 7 undef = .int .i64 k)
    (h : R (.returned (.tuple #[v, .int .i64 k])) W) : bodyPostM Fence.wide 8 Try.prog Try.f12 R Exit.ret { tmps := tmps, defers := [] } W :=
  ⟨_, results_Conf tmps W v k h4 h5, h⟩
theorem ends2_Conf {W : World} {R : Ending → World → Prop} (tmps : Array Value) (D : Nat) (v : Value) (k : Int) (h4 : tmps.getD 6 undef = v) (h5 : tmps.getD 7 undef = .int .i64 k) (hK : W.heap[D]? = some (.deferred (some [])))
    (h : R (.returned (.tuple #[v, .int .i64 k])) (W.putObj D (.deferred none))) : bodyPostM Fence.wide 8 Try.prog Try.f12 R Exit.ret { tmps := tmps, defers := [{ target := Target.collected D, args := #[] }] } W :=
  ⟨by simp, .inl ⟨D, _, rfl, run_takeDeferred hK, _, results_Conf tmps _ v k h4 h5, h⟩⟩

theorem places_stops (n : Nat) (hn1 : 1 ≤ n) {V : World} {Ba Bb Bc n₀ : Nat} {A1 : Option Addr} {n1 c1 : Nat} {l1 : List Rw} {A2 : Option Addr} {n2 c2 : Nat} {l2 : List Rw} {A3 : Option Addr} {n3 c3 : Nat} {l3 : List Rw} (hT : T3 V n₀ Ba Bb Bc A1 n1 c1 l1 A2 n2 c2 l2 A3 n3 c3 l3) (hm1 : n1 ≤ 1000) (hm2 : n2 ≤ 1000) (hm3 : n3 ≤ 1000) :
    SeqStopsK Fence.wide n Try.prog 60 #[.pointer (some ⟨Ba, 0, none⟩), .pointer (some ⟨Bb, 0, none⟩), .pointer (some ⟨Bc, 0, none⟩)] (fun x => #[plV x]) (Kp3 n₀ Ba Bb Bc) (fun ys => ys = plsW l1 l2 l3) (fun pre => pre <+: plsW l1 l2 l3) (plsW l1 l2 l3).length V :=
  fun l J Jx W hW hJ _ hY h0 => places1 n hn1 l Ba Bb Bc n₀ A1 n1 c1 l1 A2 n2 c2 l2 A3 n3 c3 l3 hm1 hm2 hm3 J Jx W hJ hY (hT.kp (Kp3.below hW)) h0

theorem index_maps0 (A1 : Option Addr) (n1 c1 : Nat) (A2 : Option Addr) (n2 c2 : Nat) (A3 : Option Addr) (n3 c3 : Nat) (w : World) : (Instr.index 73 (.agg #[.slice A1 n1 c1, .slice A2 n2 c2, .slice A3 n3 c3]) (.int .i64 0)).run Try.prog w = .ok (.agg #[.slice A1 n1 c1]) w := by kernel_rfl
theorem index_maps1 (A1 : Option Addr) (n1 c1 : Nat) (A2 : Option Addr) (n2 c2 : Nat) (A3 : Option Addr) (n3 c3 : Nat) (w : World) : (Instr.index 73 (.agg #[.slice A1 n1 c1, .slice A2 n2 c2, .slice A3 n3 c3]) (.int .i64 1)).run Try.prog w = .ok (.agg #[.slice A2 n2 c2]) w := by kernel_rfl
theorem index_maps2 (A1 : Option Addr) (n1 c1 : Nat) (A2 : Option Addr) (n2 c2 : Nat) (A3 : Option Addr) (n3 c3 : Nat) (w : World) : (Instr.index 73 (.agg #[.slice A1 n1 c1, .slice A2 n2 c2, .slice A3 n3 c3]) (.int .i64 2)).run Try.prog w = .ok (.agg #[.slice A3 n3 c3]) w := by kernel_rfl
/-- The loop's variable in a block of its own. -/
structure Bx (V : World) (B : Nat) (x : Pl) (W : World) : Prop where
  blk : W.heap[B]? = some (Obj.cells x.cells.toArray 77 (0, 0))
  ge : V.heap.size ≤ B
theorem Bx.cell {V W : World} {B : Nat} {x : Pl} (h : Bx V B x W) {j : Nat} {v : Value} (hv : x.cells[j]? = some v) : W.cell? ⟨B, j, none⟩ = some v := by
  unfold World.cell?
  rw [h.blk]
  simpa using hv
theorem Bx.lt {V W : World} {B : Nat} {x : Pl} (h : Bx V B x W) : B < W.heap.size := (Array.getElem?_eq_some_iff.1 h.blk).1
theorem Bx.below {V W W' : World} {B : Nat} {x : Pl} (h : Bx V B x W) (hb : Below W.heap.size W W') : Bx V B x W' := ⟨by rw [hb.block B h.lt]; exact h.blk, h.ge⟩
theorem Bx.own (V : World) (B : Nat) (x : Pl) : OwnFrom V.heap.size (fun (_ : Unit) W => Bx V B x W) := fun _ W W' row hs hg hr => by
  refine ⟨(hg.block B hs.lt fun e => ?_).trans hs.blk, hs.ge⟩
  obtain ⟨_, o, ho, hc⟩ := hr B e.symm
  rw [hs.blk] at ho
  cases ho
  cases hc

theorem keeps_below {B : Nat} {W W' : World} (hb : Below W.heap.size W W') : KeepsFrom B W W' := ⟨hb.size, fun j o _ hj _ => by rw [hb.block j (Array.getElem?_eq_some_iff.1 hj).1]; exact hj⟩
theorem app_str {V W w1 : World} {b : Nat} {tm e : TypeId} {k n : Nat} {v : Value} {xs : List Value} (h : Md V b tm e k v n xs W) (htm : tm ≠ 9) (he : e ≠ 9) {tmp : Obj} (hg : (W.alloc tmp).grownBy w1 v.ownBlock) (v' : Value) :
    ∀ (j : Nat) (c : Array Value) (fr : Nat × Nat), W.heap[j]? = some (Obj.cells c 9 fr) → (w1.setCell ⟨b, 0, none⟩ v').heap[j]? = some (Obj.cells c 9 fr) := fun j c fr hj => by
  have hjl := (Array.getElem?_eq_some_iff.1 hj).1
  refine (Below.heap_setCell w1 ⟨b, 0, none⟩ v' j (fun e' => ?_)).trans ?_
  · have e2 : j = b := e'
    subst e2
    rw [show W.heap[j]? = _ from h.bx] at hj
    injection hj with hj
    injection hj with _ h2
    exact htm h2
  · refine (hg.block j (by simp; omega) (fun e' => ?_)).trans ((Below.heap_alloc W tmp j hjl).trans hj)
    rcases h.own.2 with ⟨rfl, _⟩ | ⟨g, cap, cur, rfl, _, hgb, _⟩
    · simp [Value.ownBlock] at e'
    · obtain rfl : j = g := by simpa [Value.ownBlock] using e'
      rw [hgb] at hj
      injection hj with hj
      injection hj with _ h2
      exact he h2
theorem pathsW_len {α : Type} (p : α → ByteArray) : ∀ (m : List α) (l : List ByteArray), (pathsW p l m).length ≤ l.length + m.length
  | [], l => by simp [pathsW]
  | a :: m, l => by
    have h1 := pathsW_len p m (withW l (p a))
    have h2 := withW_len l (p a)
    have e : pathsW p l (a :: m) = pathsW p (withW l (p a)) m := rfl
    rw [e, List.length_cons]
    omega
theorem plsW_len (lb lo lt : List Rw) : (plsW lb lo lt).length ≤ lb.length + (lo.length + lt.length) := by
  have := pathsW_len Rw.p (lb ++ (lo ++ lt)) []
  unfold plsW
  rw [List.length_map]
  simpa using this
def cfs (pre : List Pl) : List Pl := pre.filter conflW
set_option maxRecDepth 100000 in
set_option maxHeartbeats 8000000 in
theorem Conflicts_any {w : World} {A1 : Option Addr} {n1 c1 : Nat} {l1 : List Rw} (h1 : SqR w w.heap.size A1 n1 c1 l1) (hm1 : n1 ≤ 1000) {A2 : Option Addr} {n2 c2 : Nat} {l2 : List Rw} (h2 : SqR w w.heap.size A2 n2 c2 l2) (hm2 : n2 ≤ 1000) {A3 : Option Addr} {n3 c3 : Nat} {l3 : List Rw} (h3 : SqR w w.heap.size A3 n3 c3 l3) (hm3 : n3 ≤ 1000) :
    Calls Try.prog 12 #[.agg #[.slice A1 n1 c1], .agg #[.slice A2 n2 c2], .agg #[.slice A3 n3 c3]] w fun en w' => (∃ A n c, en = .returned (.tuple #[.slice A n c, .int .i64 (confE l1 l2 l3)]) ∧ SqP w' w'.heap.size A n c (if confE l1 l2 l3 = 0 then confW l1 l2 l3 else [])) ∧ Below w.heap.size w w' := by
  obtain ⟨Lr, hLr⟩ : ∃ Lr, (if confE l1 l2 l3 = 0 then confW l1 l2 l3 else []) = Lr := ⟨_, rfl⟩
  obtain ⟨er, her⟩ : ∃ er, confE l1 l2 l3 = er := ⟨_, rfl⟩
  have HLR := Lib.hid hLr
  have HER := Lib.hid her
  rw [hLr, her]
  clear hLr her
  refine (callsIn_wide (n := 8)).1 ?_
  refine callsIn_of_wp_marks Try.func12 rfl trivial ?_ rfl
  simp only [Try.ntmps12, List.size_toArray, List.length_cons, List.length_nil, Nat.reduceAdd, Nat.reduceSub, Array.replicate_succ, Array.replicate_zero, List.push_toArray, List.append_toArray, List.nil_append, List.cons_append]
  refine wpIn_wide.2 ?_
  obtain ⟨w4, hw4⟩ : ∃ w4, (((w.alloc (.cells #[.slice A1 n1 c1] 24)).alloc (.cells #[.slice A2 n2 c2] 24)).alloc (.cells #[.slice A3 n3 c3] 24)) = w4 := ⟨_, rfl⟩
  have B4 : Hid (Below w.heap.size w w4) := Lib.hid (by rw [← hw4]; exact (((Below.refl _ _).alloc (Nat.le_refl _) _).alloc (by simp) _).alloc (by simp; omega) _)
  have X0 : Hid (Lies w4 w.heap.size 1 [.slice A1 n1 c1]) := Lib.hid (by rw [← hw4]; exact ((Lies.new w [.slice A1 n1 c1] 24).alloc _).alloc _)
  have X1 : Hid (Lies w4 (w.heap.size + 1) 1 [.slice A2 n2 c2]) := Lib.hid (by
    rw [← hw4]
    have h := (Lies.new (w.alloc (.cells #[.slice A1 n1 c1] 24)) [.slice A2 n2 c2] 24).alloc (.cells #[.slice A3 n3 c3] 24)
    rwa [World.size_alloc] at h)
  have X2 : Hid (Lies w4 (w.heap.size + 1 + 1) 1 [.slice A3 n3 c3]) := Lib.hid (by
    rw [← hw4]
    have h := Lies.new ((w.alloc (.cells #[.slice A1 n1 c1] 24)).alloc (.cells #[.slice A2 n2 c2] 24)) [.slice A3 n3 c3] 24
    rwa [World.size_alloc, World.size_alloc] at h)
  have HS1 : Hid (∀ W, Below w4.heap.size w4 W → SqR W W.heap.size A1 n1 c1 l1) := Lib.hid fun W hW => (h1.below (B4.out.trans (hW.mono B4.out.size))).more (Nat.le_trans B4.out.size hW.size)
  have HS2 : Hid (∀ W, Below w4.heap.size w4 W → SqR W W.heap.size A2 n2 c2 l2) := Lib.hid fun W hW => (h2.below (B4.out.trans (hW.mono B4.out.size))).more (Nat.le_trans B4.out.size hW.size)
  have HS3 : Hid (∀ W, Below w4.heap.size w4 W → SqR W W.heap.size A3 n3 c3 l3) := Lib.hid fun W hW => (h3.below (B4.out.trans (hW.mono B4.out.size))).more (Nat.le_trans B4.out.size hW.size)
  have HN1 := Lib.hid (fun (W : World) (hW : Below w.heap.size w W) => h1.below hW)
  have HN2 := Lib.hid (fun (W : World) (hW : Below w.heap.size w W) => h2.below hW)
  have HN3 := Lib.hid (fun (W : World) (hW : Below w.heap.size w W) => h3.below hW)
  have HQ : Hid (∀ W, Below w4.heap.size w4 W → W.cell? ⟨w.heap.size, 0, none⟩ = some (.slice A1 n1 c1) ∧ W.cell? ⟨w.heap.size + 1, 0, none⟩ = some (.slice A2 n2 c2) ∧ W.cell? ⟨w.heap.size + 1 + 1, 0, none⟩ = some (.slice A3 n3 c3)) := Lib.hid fun W hW =>
    ⟨(X0.out.below hW X0.out.lt).cell (j := 0) rfl, (X1.out.below hW X1.out.lt).cell (j := 0) rfl, (X2.out.below hW X2.out.lt).cell (j := 0) rfl⟩
  have HW := Lib.hid hw4
  clear hw4 h1 h2 h3 X0 X1 X2
  go_upto_region 1 with fail
  rw [HW.out]
  clear HW
  obtain ⟨q0, q1, q2⟩ := HQ.out _ (Below.refl _ _)
  obtain ⟨ra, hra⟩ : ∃ r, rightR l1 = r := ⟨_, rfl⟩
  obtain ⟨rb, hrb⟩ : ∃ r, rightR l2 = r := ⟨_, rfl⟩
  obtain ⟨rc, hrc⟩ : ∃ r, rightR l3 = r := ⟨_, rfl⟩
  have HRA := Lib.hid hra
  have HRB := Lib.hid hrb
  have HRC := Lib.hid hrc
  have HEV : Hid (er = if ra && (rb && rc) then 0 else 150) := Lib.hid (by rw [← HER.out]; unfold confE; rw [hra, hrb, hrc])
  clear hra hrb hrc
  go_wp2_with fail
  clear q0 q1 q2
  go_loopw [17] (fun i wr => ∃ k : Nat, k ≤ 3 ∧ i = .int .i64 (k : Int) ∧ Hid ((1 ≤ k → ra = true) ∧ (2 ≤ k → rb = true) ∧ (3 ≤ k → rc = true)) ∧ Hid (Below w4.heap.size w4 wr)) (fun i _ => 3 - (intOf i).toNat)
  case atStart => exact ⟨0, by omega, rfl, Lib.hid ⟨by omega, by omega, by omega⟩, Lib.hid (Below.refl _ _)⟩
  case round =>
    obtain ⟨k, hk, rfl, hr, hb⟩ := hrel
    have hix0 := fun w' => index_maps0 A1 n1 c1 A2 n2 c2 A3 n3 c3 w'
    have hix1 := fun w' => index_maps1 A1 n1 c1 A2 n2 c2 A3 n3 c3 w'
    have hix2 := fun w' => index_maps2 A1 n1 c1 A2 n2 c2 A3 n3 c3 w'
    by_cases hk0 : k = 0
    · subst hk0
      have CK := Check_any (HS1.out (wr.alloc (.cells #[.slice A1 n1 c1] 24)) (hb.out.alloc hb.out.size _)) (show n1 ≤ 1000000 by omega)
      rw [HRA.out] at CK
      have CKH := Lib.hid CK
      clear CK
      cases ra
      · have e0 : er = 150 := by rw [HEV.out]; first | rfl | (cases ra <;> cases rb <;> rfl) | (cases ra <;> rfl)
        subst e0
        have e1 : Lr = [] := by rw [← HLR.out, HER.out]; rfl
        subst e1
        go_wp2_with fail
        refine CKH.out.mono ?_
        rintro e w5 ⟨rfl, hb5⟩
        have G5 := Lib.hid (B4.out.trans (((hb.out.alloc hb.out.size (.cells #[.slice A1 n1 c1] 24)).trans (hb5.mono (hb.out.alloc hb.out.size (.cells #[.slice A1 n1 c1] 24)).size)).mono B4.out.size))
        clear hb5 CKH
        go_wp2_with fail
        exact ends_Conf _ _ _ rfl rfl ⟨⟨none, 0, 0, rfl, Sq.nil_ pl_sz⟩, G5.out⟩
      · go_wp2_with fail
        refine CKH.out.mono ?_
        rintro e w5 ⟨rfl, hb5⟩
        have G5 := Lib.hid ((hb.out.alloc hb.out.size (.cells #[.slice A1 n1 c1] 24)).trans (hb5.mono (hb.out.alloc hb.out.size (.cells #[.slice A1 n1 c1] 24)).size))
        clear hb5 CKH
        go_wp2_with fail
        go_roundw
        case rel => exact ⟨1, by omega, by first | rfl | go_num, Lib.hid ⟨fun h => by first | trivial | rfl | omega | exact hr.out.1 (by omega), fun h => by first | trivial | rfl | omega | exact hr.out.2.1 (by omega), fun h => by first | trivial | rfl | omega | exact hr.out.2.2 (by omega)⟩, G5⟩
        case measure => simp [intOf]
    by_cases hk1 : k = 1
    · subst hk1
      have CK := Check_any (HS2.out (wr.alloc (.cells #[.slice A2 n2 c2] 24)) (hb.out.alloc hb.out.size _)) (show n2 ≤ 1000000 by omega)
      rw [HRB.out] at CK
      have CKH := Lib.hid CK
      clear CK
      cases rb
      · have e0 : er = 150 := by rw [HEV.out]; first | rfl | (cases ra <;> cases rb <;> rfl) | (cases ra <;> rfl)
        subst e0
        have e1 : Lr = [] := by rw [← HLR.out, HER.out]; rfl
        subst e1
        go_wp2_with fail
        refine CKH.out.mono ?_
        rintro e w5 ⟨rfl, hb5⟩
        have G5 := Lib.hid (B4.out.trans (((hb.out.alloc hb.out.size (.cells #[.slice A2 n2 c2] 24)).trans (hb5.mono (hb.out.alloc hb.out.size (.cells #[.slice A2 n2 c2] 24)).size)).mono B4.out.size))
        clear hb5 CKH
        go_wp2_with fail
        exact ends_Conf _ _ _ rfl rfl ⟨⟨none, 0, 0, rfl, Sq.nil_ pl_sz⟩, G5.out⟩
      · go_wp2_with fail
        refine CKH.out.mono ?_
        rintro e w5 ⟨rfl, hb5⟩
        have G5 := Lib.hid ((hb.out.alloc hb.out.size (.cells #[.slice A2 n2 c2] 24)).trans (hb5.mono (hb.out.alloc hb.out.size (.cells #[.slice A2 n2 c2] 24)).size))
        clear hb5 CKH
        go_wp2_with fail
        go_roundw
        case rel => exact ⟨2, by omega, by first | rfl | go_num, Lib.hid ⟨fun h => by first | trivial | rfl | omega | exact hr.out.1 (by omega), fun h => by first | trivial | rfl | omega | exact hr.out.2.1 (by omega), fun h => by first | trivial | rfl | omega | exact hr.out.2.2 (by omega)⟩, G5⟩
        case measure => simp [intOf]
    by_cases hk2 : k = 2
    · subst hk2
      have CK := Check_any (HS3.out (wr.alloc (.cells #[.slice A3 n3 c3] 24)) (hb.out.alloc hb.out.size _)) (show n3 ≤ 1000000 by omega)
      rw [HRC.out] at CK
      have CKH := Lib.hid CK
      clear CK
      cases rc
      · have e0 : er = 150 := by rw [HEV.out]; first | rfl | (cases ra <;> cases rb <;> rfl) | (cases ra <;> rfl)
        subst e0
        have e1 : Lr = [] := by rw [← HLR.out, HER.out]; rfl
        subst e1
        go_wp2_with fail
        refine CKH.out.mono ?_
        rintro e w5 ⟨rfl, hb5⟩
        have G5 := Lib.hid (B4.out.trans (((hb.out.alloc hb.out.size (.cells #[.slice A3 n3 c3] 24)).trans (hb5.mono (hb.out.alloc hb.out.size (.cells #[.slice A3 n3 c3] 24)).size)).mono B4.out.size))
        clear hb5 CKH
        go_wp2_with fail
        exact ends_Conf _ _ _ rfl rfl ⟨⟨none, 0, 0, rfl, Sq.nil_ pl_sz⟩, G5.out⟩
      · go_wp2_with fail
        refine CKH.out.mono ?_
        rintro e w5 ⟨rfl, hb5⟩
        have G5 := Lib.hid ((hb.out.alloc hb.out.size (.cells #[.slice A3 n3 c3] 24)).trans (hb5.mono (hb.out.alloc hb.out.size (.cells #[.slice A3 n3 c3] 24)).size))
        clear hb5 CKH
        go_wp2_with fail
        go_roundw
        case rel => exact ⟨3, by omega, by first | rfl | go_num, Lib.hid ⟨fun h => by first | trivial | rfl | omega | exact hr.out.1 (by omega), fun h => by first | trivial | rfl | omega | exact hr.out.2.1 (by omega), fun h => by first | trivial | rfl | omega | exact hr.out.2.2 (by omega)⟩, G5⟩
        case measure => simp [intOf]
    obtain rfl : k = 3 := by omega
    obtain ⟨h1, h2, h3⟩ := hr.out
    have e1 := h1 (by omega)
    have e2 := h2 (by omega)
    have e3 := h3 (by omega)
    subst e1 e2 e3
    have e0 : er = 0 := by rw [HEV.out]; rfl
    subst e0
    have e4 : Lr = confW l1 l2 l3 := by rw [← HLR.out, HER.out, if_pos rfl]
    subst e4
    clear h1 h2 h3 hr HEV HLR
    have hd : decide ((3 : Int) < 3) = false := by simp
    obtain ⟨wL, hwL⟩ : ∃ wL, wr.alloc (.cells #[.slice none 0 0] 30) = wL := ⟨_, rfl⟩
    have BL := Lib.hid (show Below w4.heap.size w4 wL by rw [← hwL]; exact hb.out.alloc hb.out.size _)
    have ML : Hid (Boxed wL wr.heap.size 30 (.slice none 0 0)) := Lib.hid (by rw [← hwL]; exact Boxed.new wr _ _)
    have ZL := Lib.hid (show wL.heap.size = wr.heap.size + 1 by rw [← hwL]; simp)
    have HWL := Lib.hid hwL
    clear hwL
    obtain ⟨V, hV⟩ : ∃ V, ((wL.alloc (.cells #[.slice A1 n1 c1] 24)).alloc (.cells #[.slice A2 n2 c2] 24)).alloc (.cells #[.slice A3 n3 c3] 24) = V := ⟨_, rfl⟩
    have HV := Lib.hid hV
    have BV : Hid (Below wL.heap.size wL V ∧ V.heap.size = wL.heap.size + 3) := Lib.hid (by
      rw [← hV]
      exact ⟨(((Below.refl _ _).alloc (Nat.le_refl _) _).alloc (by simp) _).alloc (by simp; omega) _, by simp⟩)
    have G4V := Lib.hid (BL.out.trans (BV.out.1.mono BL.out.size))
    have BWV := Lib.hid (B4.out.trans (G4V.out.mono B4.out.size))
    have MV : Hid (Boxed V wr.heap.size 30 (.slice none 0 0)) := Lib.hid ((BV.out.1.block _ ML.out.lt).trans ML.out)
    have TV : Hid (T3 V w.heap.size wL.heap.size (wL.heap.size + 1) (wL.heap.size + 1 + 1) A1 n1 c1 l1 A2 n2 c2 l2 A3 n3 c3 l3) := Lib.hid (by
      refine ⟨HN1.out _ BWV.out, HN2.out _ BWV.out, HN3.out _ BWV.out, BWV.out.size, ?_, ?_, ?_⟩
      · rw [← hV]
        exact ((Lies.new wL [.slice A1 n1 c1] 24).alloc (.cells #[.slice A2 n2 c2] 24)).alloc (.cells #[.slice A3 n3 c3] 24)
      · rw [← hV]
        have h := (Lies.new (wL.alloc (.cells #[.slice A1 n1 c1] 24)) [.slice A2 n2 c2] 24).alloc (.cells #[.slice A3 n3 c3] 24)
        rwa [World.size_alloc] at h
      · rw [← hV]
        have h := Lies.new ((wL.alloc (.cells #[.slice A1 n1 c1] 24)).alloc (.cells #[.slice A2 n2 c2] 24)) [.slice A3 n3 c3] 24
        rwa [World.size_alloc, World.size_alloc] at h)
    have HLT : Hid (wr.heap.size + 4 = V.heap.size ∧ wL.heap.size = wr.heap.size + 1 ∧ w.heap.size ≤ wr.heap.size) := Lib.hid ⟨by have h1 := BV.out.2; have h2 := ZL.out; omega, ZL.out, Nat.le_trans B4.out.size hb.out.size⟩
    clear hV
    go_upto_region 9 with fail
    rw [HWL.out]
    clear HWL hd
    obtain ⟨q0, q1, q2⟩ := HQ.out _ BL.out
    go_wp2_with (first
      | (go_at_call 37; have T := places_any A1 n1 c1 A2 n2 c2 A3 n3 c3 wL; with_reducible refine Calls.mono T ?_; clear T; rintro e w' ⟨rfl, rfl⟩)
      | fail)
    rw [HV.out]
    clear HV q0 q1 q2
    obtain ⟨M, hM⟩ : ∃ M, wr.heap.size = M := ⟨_, rfl⟩
    obtain ⟨Ba, hBa⟩ : ∃ Ba, wL.heap.size = Ba := ⟨_, rfl⟩
    rw [hM, hBa] at HLT
    rw [hM] at MV ⊢
    rw [hBa] at TV ⊢
    clear hM hBa
    refine wpIn_wide.1 (wpIn_rangeFunc_ownH (n := 8) rfl (by omega) (gf := 60) (lb := #[.pointer (some ⟨Ba, 0, none⟩), .pointer (some ⟨Ba + 1, 0, none⟩), .pointer (some ⟨Ba + 1 + 1, 0, none⟩)]) rfl trivial (enters_of Try.func60 (by kernel_rfl) rfl)
      (places_stops 7 (by omega) TV.out hm1 hm2 hm3) (fun h k => h.trans k) ?keep (Below.refl _ _) (fun _ => rfl)
      (fun pre W => ∃ v, Md V M 30 43 7 v (cfs pre).length ((cfs pre).flatMap Pl.cells) W)
      (fun _ _ _ => False)
      (fun s W W' row hs hg hr => hs.imp fun v h => h.turn hg hr)
      (fun c s W W' row hs hg hr => hs) ?h0
      (fun x a' W => ∃ B, Bx V B x W ∧ a' = { tmps := #[.agg #[.slice A1 n1 c1], .agg #[.slice A2 n2 c2], .agg #[.slice A3 n3 c3], .pointer (some ⟨w.heap.size, 0, none⟩), .pointer (some ⟨w.heap.size + 1, 0, none⟩), .pointer (some ⟨w.heap.size + 1 + 1, 0, none⟩), u6, u7, undef, u9, u10, .pointer (some ⟨M, 0, none⟩), .pointer (some ⟨B, 0, none⟩), .agg #[.slice A1 n1 c1], .agg #[.slice A2 n2 c2], .agg #[.slice A3 n3 c3], .agg #[.slice A1 n1 c1, .slice A2 n2 c2, .slice A3 n3 c3], .int .i64 3, .bool false, u19, u20, u21, u22, u23, u24, u25, .agg #[.slice A1 n1 c1], .agg #[.slice A2 n2 c2], .agg #[.slice A3 n3 c3], .func (.func 60) #[] #[.pointer (some ⟨Ba, 0, none⟩), .pointer (some ⟨Ba + 1, 0, none⟩), .pointer (some ⟨Ba + 1 + 1, 0, none⟩)], plV x, undef, undef, undef, undef, undef, undef, undef], defers := [] })
      ?hax ?assign ?body ?done ?stop)
    case keep =>
      intro W k o o' hk ho hc hw
      obtain ⟨l1', l2', l3'⟩ := HLT.out
      refine ⟨Mv.of_grown (grownBy_putObj' W k o') (fun g e => by cases e; exact .inl ⟨by omega, by omega, by omega, by omega⟩), fun j cs fr hj => ?_⟩
      refine ((grownBy_putObj' W k o').block j (Array.getElem?_eq_some_iff.1 hj).1 (fun e => ?_)).trans hj
      injection e with e
      subst e
      rw [ho] at hj
      cases hj
      cases hc
    case h0 =>
      obtain ⟨l1', l2', l3'⟩ := HLT.out
      exact ⟨.slice none 0 0, MV.out, World.ownsRow_nil _ _ _ _, Mv.refl _ _, by omega⟩
    case hax =>
      intro x a' _ W W' row hs hg hr
      obtain ⟨B, hB, ha⟩ := hs
      exact ⟨B, Bx.own V B x () W W' row hB hg hr, ha⟩
    case assign =>
      rintro lp pre x W K ⟨v, hmd⟩ hK
      have HMD := Lib.hid hmd
      have hsz := hmd.mv.size
      clear hmd
      gi_wp2
      have hb : Below W.heap.size W (W.alloc (.cells x.cells.toArray 77)) := (Below.refl _ _).alloc (Nat.le_refl _) _
      exact hK _ _ (keeps_below hb) (Kp3.below hb) ⟨v, HMD.out.below hb⟩ ⟨W.heap.size, ⟨heap_alloc_new W _, hsz⟩, rfl⟩
    case body =>
      rintro lp pre x a' W hlp hloop ⟨v, hmd⟩ ⟨B, hbx, rfl⟩ hlt
      have HMD := Lib.hid hmd
      have HBX := Lib.hid hbx
      have hcl : (cfs pre).length ≤ 3000 := by
        have h1 := plsW_len l1 l2 l3
        have h2 : (cfs pre).length ≤ pre.length := List.length_filter_le _ _
        have e1 := (TV.out.a).len
        have e2 := (TV.out.b).len
        have e3 := (TV.out.c).len
        omega
      have q0 := hbx.cell (j := 0) rfl
      have q1 := hbx.cell (j := 1) rfl
      have q2 := hbx.cell (j := 2) rfl
      have q3 := hbx.cell (j := 3) rfl
      have q4 := hbx.cell (j := 4) rfl
      have q5 := hbx.cell (j := 5) rfl
      have q6 := hbx.cell (j := 6) rfl
      clear hmd hbx hloop
      obtain ⟨cx, hcx⟩ : ∃ cx, conflW x = cx := ⟨_, rfl⟩
      have hct := conflicts_any x W
      rw [hcx] at hct
      have HCT := Lib.hid hct
      have HCX := Lib.hid hcx
      clear hct hcx
      have hfn : Fence.wide.fn 38 := trivial
      cases cx
      · have hme : cfs (pre ++ [x]) = cfs pre := by unfold cfs; rw [List.filter_append]; simp [HCX.out]
        have HME := Lib.hid hme
        clear hme
        gi_wp2_with (first | (gi_at_call 38; with_reducible refine CallsIn.mono (CallsIn.inRound lp (callsIn_wide.2 HCT.out)) ?_; rintro e w5 ⟨rfl, hb5⟩; have BW5 := Lib.hid hb5; clear hb5) | fail)
        exact ⟨keeps_below BW5.out, Kp3.below BW5.out, v, by rw [HME.out]; exact HMD.out.below BW5.out⟩
      · have hme : cfs (pre ++ [x]) = cfs pre ++ [x] := by unfold cfs; rw [List.filter_append]; simp [HCX.out]
        have HME := Lib.hid hme
        clear hme
        obtain ⟨i0, hi, hz, hz1, hz2⟩ := info_parts info_cf
        have hone := fun w' => one_cf x w'
        gi_wp2_with (first
          | (gi_at_call 38; with_reducible refine CallsIn.mono (CallsIn.inRound lp (callsIn_wide.2 HCT.out)) ?_; rintro e w5 ⟨rfl, hb5⟩; have BW5 := Lib.hid hb5; have MD5 := Lib.hid (HMD.out.below hb5); have BX5 := Lib.hid (HBX.out.below hb5); have y0 := MD5.out.bx.cell; have z0 := BX5.out.cell (j := 0) rfl; have z1 := BX5.out.cell (j := 1) rfl; have z2 := BX5.out.cell (j := 2) rfl; have z3 := BX5.out.cell (j := 3) rfl; have z4 := BX5.out.cell (j := 4) rfl; have z5 := BX5.out.cell (j := 5) rfl; have z6 := BX5.out.cell (j := 6) rfl; clear hb5)
          | (gi_at_builtin; refine wpListIn_append_own (w5.alloc (.cells x.cells.toArray 43)) rfl _ _ 30 rfl V.heap.size 43 i0 (plV ⟨⟨#[]⟩, ⟨false, ⟨#[]⟩⟩, ⟨false, ⟨#[]⟩⟩, ⟨false, ⟨#[]⟩⟩⟩) 7 88 Try.underlying30 hi hz hz1 hz2 rfl (by omega) v (cfs pre).length ((cfs pre).flatMap Pl.cells) rfl (MD5.out.own.alloc _) ⟨w5.heap.size, 0, none⟩ 1 1 x.cells rfl rfl (World.news_of_block (heap_alloc_new w5 _)) (by intro u hu; exact pl_one [x] u (by simpa using hu)) (by unfold maxLen; omega) (by omega) (by have := MD5.out.mv.size; simp; omega) ?_; intro v' w1 hown5 hg5 hni5; obtain ⟨A5, c5, hv5⟩ := own_shape hown5; subst v'; have APP := Lib.hid (MD5.out.app (W := w5) (tmp := .cells x.cells.toArray 43) hown5 hg5); have STR := Lib.hid (app_str MD5.out (by decide) (by decide) hg5 (.slice A5 ((cfs pre).length + 1) c5)); have x0 := APP.out.1.cell; have x1 := APP.out.1.frozen; clear hown5 hg5 hni5)
          | fail)
        obtain ⟨l1', l2', l3'⟩ := HLT.out
        refine ⟨(keeps_below BW5.out).trans APP.out.2.2.1, (Kp3.below BW5.out).trans ⟨APP.out.2.2.2.mono fun b hb => .inl ?_, STR.out⟩, .slice A5 ((cfs pre).length + 1) c5, ?_⟩
        · rcases hb with rfl | hb
          · exact ⟨by omega, by omega, by omega, by omega⟩
          · exact ⟨by omega, by omega, by omega, by omega⟩
        · rw [HME.out, List.length_append, List.flatMap_append]
          simpa using APP.out.2.1
    case done =>
      rintro D ys W hD rfl ⟨v, hmd⟩ hK
      obtain ⟨L, hL⟩ : ∃ L, cfs (plsW l1 l2 l3) = L := ⟨_, rfl⟩
      have HL : Hid (confW l1 l2 l3 = L) := Lib.hid hL
      rw [hL] at hmd
      clear hL
      obtain ⟨Av, cv, rfl⟩ : ∃ Av cv, v = .slice Av L.length cv := by
        rcases hmd.own.2 with ⟨e1, e2⟩ | ⟨g, cap, cur, e1, _⟩
        · exact ⟨none, 0, by rw [e1, e2]⟩
        · exact ⟨_, _, e1⟩
      have y0 := hmd.bx.cell
      have HMD := Lib.hid hmd
      have HK := Lib.hid hK
      clear hmd hK
      go_wp2
      obtain ⟨l1', l2', l3'⟩ := HLT.out
      have o3 := ownsRow_putObj HMD.out.own (.deferred none) HK.out rfl
      have hmv := HMD.out.mv.mono (S' := fun x => w.heap.size ≤ x) fun b hb => .inl (by have e' : b = M := hb; omega)
      have hmv2 := hmv.then (S' := fun x => w.heap.size ≤ x) (Mv.of_grown (grownBy_putObj' _ D (.deferred none)) fun g e => .inl (by cases e; omega)) (fun x hx => .inl hx)
      exact ends2_Conf _ D _ 0 rfl rfl HK.out ⟨⟨Av, L.length, cv, rfl, by rw [HL.out]; exact own_sq o3 pl_sz (by omega)⟩, BWV.out.trans (hmv2.below (fun b hb => hb) BWV.out.size)⟩
    case stop =>
      rintro D c pre W hD hSp hF hK
      exact hF.elim
end Go.Proofs.Ytkdmlffnkomdhaa
