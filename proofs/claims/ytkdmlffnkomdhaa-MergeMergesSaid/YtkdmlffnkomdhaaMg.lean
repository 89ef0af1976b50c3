/-
  MERGE: the iterator over places, its elements in their order; a variable among others that turn; a slice's tail.
  MERGE: merged.
-/
import Derived.Test.YtkdmlffnkomdhaaMe
import Derived.Test.YtkdmlffnkomdhaaYp
import Derived.RangeFuncNested
import Derived.RangeFuncBound
import Derived.RangeFuncCalls
import Derived.RangeFuncLeaves
import Derived.RangeFuncBox
import Derived.Shelf.Abstract
import Derived.Shelf.RegionOpen
import Derived.WalkKit
import Derived.OwnWalkIn
import Derived.TacticsInMore
import Derived.LoopNIn
import Derived.LoopIn
import Derived.Deep.Cut
import Derived.Great.BuildSlice
import Derived.Great.FillDense
import Derived.Test.YtkdmlffnkomdhaaMc
import Derived.Test.YtkdmlffnkomdhaaPo
namespace Go.Proofs.Ytkdmlffnkomdhaa
set_option linter.unusedVariables false
set_option linter.unusedSimpArgs false
open Go.RowKit Go.WideShapes Go.ChangeShapes Go.Deep Go.Shelf
attribute [local go_sem] Oper.semAt_some

set_option maxRecDepth 100000 in
set_option maxHeartbeats 4000000 in
theorem places2 (n : Nat) (hn1 : 1 ≤ n) (l Ba Bb Bc n₀ : Nat) (A1 : Option Addr) (n1 c1 : Nat) (l1 : List Rw) (A2 : Option Addr) (n2 c2 : Nat) (l2 : List Rw) (A3 : Option Addr) (n3 c3 : Nat) (l3 : List Rw) (hm1 : n1 ≤ 1000) (hm2 : n2 ≤ 1000) (hm3 : n3 ≤ 1000)
    (J Jx : List Pl → World → Prop) (W : World) (hJ : AbidesFrom W.heap.size J)
    (hY : ∀ pre x W1, J pre W1 → pre ++ [x] <+: plsW l1 l2 l3 → YieldAt Fence.wide (n - 1) Try.prog l #[plV x] W1 fun e W' =>
      (e = .returned (.bool true) ∧ J (pre ++ [x]) W' ∧ Kp3 n₀ Ba Bb Bc W1 W') ∨ (e = .returned (.bool false) ∧ Jx (pre ++ [x]) W'))
    (hT : T3 W n₀ Ba Bb Bc A1 n1 c1 l1 A2 n2 c2 l2 A3 n3 c3 l3) (h0 : J [] W) :
    CallsIn Fence.wide n Try.prog 60 #[.func (.yield l) #[] #[], .pointer (some ⟨Ba, 0, none⟩), .pointer (some ⟨Bb, 0, none⟩), .pointer (some ⟨Bc, 0, none⟩)] W fun e W' => (∃ v, e = .returned v) ∧
      ((∃ ys, ys = plsW l1 l2 l3 ∧ J ys W') ∨ (∃ pre, pre <+: plsW l1 l2 l3 ∧ Jx pre W')) := by
  obtain ⟨wb, hwb⟩ : ∃ wb, W.alloc (.cells #[.slice A1 n1 c1, .slice A2 n2 c2, .slice A3 n3 c3] 24) = wb := ⟨_, rfl⟩
  have BB : Hid (Below W.heap.size W wb) := Lib.hid (by rw [← hwb]; exact (Below.refl _ _).alloc (Nat.le_refl _) _)
  have TB := Lib.hid (hT.kp (Kp3.below BB.out))
  have SQ := Lib.hid (by have T := three_sq A1 A2 A3 n1 c1 n2 c2 n3 c3 l1 l2 l3 W; rw [hwb] at T; exact T : Sq Mp.cells 1 wb wb.heap.size (some ⟨W.heap.size, 0, none⟩) 3 3 [⟨A1, n1, c1, l1⟩, ⟨A2, n2, c2, l2⟩, ⟨A3, n3, c3, l3⟩])
  have raw := Paths_own SQ.out (mp_all3 ⟨TB.out.a.more TB.out.n0, hm1⟩ ⟨TB.out.b.more TB.out.n0, hm2⟩ ⟨TB.out.c.more TB.out.n0, hm3⟩) (by omega)
  obtain ⟨ps, hps⟩ : ∃ ps, ps = pathsW Rw.p [] (l1 ++ (l2 ++ l3)) := ⟨_, rfl⟩
  simp only [List.flatMap_cons, List.flatMap_nil, List.append_nil] at raw
  rw [← hps] at raw
  have HPA := Lib.hid raw
  have HPL : Hid (plsW l1 l2 l3 = ps.map (plW l1 l2 l3)) := Lib.hid (by unfold plsW; rw [hps])
  have q0 := hT.xa.cell (j := 0) rfl
  have q1 := hT.xb.cell (j := 0) rfl
  have q2 := hT.xc.cell (j := 0) rfl
  have HW := Lib.hid hwb
  have HY := Lib.hid hY
  have HJ := Lib.hid hJ
  have H0 := Lib.hid h0
  clear hY hJ h0 raw hps hwb SQ
  refine callsIn_of_wp Try.func60 rfl trivial ?_ rfl
  simp only [Try.ntmps60, List.size_toArray, List.length_cons, List.length_nil, Nat.reduceAdd, Nat.reduceSub, Array.replicate_succ, Array.replicate_zero, List.push_toArray, List.append_toArray, List.nil_append, List.cons_append]
  refine wpIn_wide.2 ?_
  go_wp2_with fail
  rw [HW.out]
  refine HPA.out.mono ?_
  rintro e wp ⟨⟨A7, n7, c7, rfl, hn7, hs7, ho7⟩, hbp⟩
  have HB := Lib.hid (BB.out.trans (hbp.mono BB.out.size))
  have TP := Lib.hid (TB.out.kp (Kp3.below hbp))
  have HO := Lib.hid ho7
  have H1 := Lib.hid (HJ.out [] W wp none H0.out (only_of_below HB.out none) (fun r e => by cases e))
  have hpl := hs7.len
  clear hs7 ho7 hbp q0 q1 q2 HW HPA BB TB H0
  go_wp2_with fail
  refine (wpIn_wide (n := n)).1 ?_
  gi_loopw [13] (fun i wr => ∃ k : Nat, k ≤ n7 ∧ i = .int .i64 (k : Int) ∧ Hid (J ((plsW l1 l2 l3).take k) wr) ∧ Hid (Kp3 n₀ Ba Bb Bc wp wr) ∧ Hid (W.heap.size ≤ wr.heap.size)) (fun i _ => n7 - (intOf i).toNat)
  case atStart => exact ⟨0, Nat.zero_le _, rfl, H1, Lib.hid Kp3.refl, Lib.hid HB.out.size⟩
  case round =>
    obtain ⟨k, hk, rfl, hj, hkp, hsz⟩ := hrel
    have TW := Lib.hid (TP.out.kp hkp.out)
    by_cases hlt : k < n7
    · have hd : decide ((k : Int) < (n7 : Int)) = true := by simp; omega
      have hk0 : (0 : Int) ≤ (k : Int) := Int.natCast_nonneg _
      have hk1 : (k : Int) < (n7 : Int) := by omega
      have hoW := own_str HO.out hkp.out
      obtain ⟨b, o, rfl, hbl, hrg⟩ := (own_sq hoW sc_sz (by omega)).at_ hlt
      obtain ⟨s, hs⟩ : ∃ s, ps[k]'(by omega) = s := ⟨_, rfl⟩
      rw [hs] at hrg
      have r0 : wr.cell? ⟨b, o + k, none⟩ = some (.string s) := by have := hrg 0 _ rfl; simpa using this
      obtain ⟨x, hx⟩ : ∃ x, x = plW l1 l2 l3 s := ⟨_, rfl⟩
      have HLEN : Hid (k < (plsW l1 l2 l3).length) := Lib.hid (by rw [HPL.out, List.length_map]; omega)
      have HTK : Hid ((plsW l1 l2 l3).take (k + 1) = (plsW l1 l2 l3).take k ++ [x]) := Lib.hid (by
        rw [List.take_add_one, List.getElem?_eq_getElem HLEN.out]
        have : (plsW l1 l2 l3)[k]'HLEN.out = x := by
          have h2 : k < (ps.map (plW l1 l2 l3)).length := by rw [List.length_map]; omega
          have : (plsW l1 l2 l3)[k]'HLEN.out = (ps.map (plW l1 l2 l3))[k]'h2 := by congr 1
          rw [this, List.getElem_map, hs, hx]
        rw [this]; first | done | rfl)
      obtain ⟨s1, hs1⟩ : ∃ y, sdW l1 s = y := ⟨_, rfl⟩
      obtain ⟨s2, hs2⟩ : ∃ y, sdW l2 s = y := ⟨_, rfl⟩
      obtain ⟨s3, hs3⟩ : ∃ y, sdW l3 s = y := ⟨_, rfl⟩
      have hxv : x = ⟨s, s1, s2, s3⟩ := by rw [hx, ← hs1, ← hs2, ← hs3]; rfl
      have HXV := Lib.hid hxv
      have HS : Hid (∀ w', Below wr.heap.size wr w' → w'.rangeAt Ba 0 [.slice A1 n1 c1] ∧ w'.rangeAt Bb 0 [.slice A2 n2 c2] ∧ w'.rangeAt Bc 0 [.slice A3 n3 c3]) := Lib.hid fun w' hb => (by
        have T := TW.out.kp (Kp3.below hb)
        exact ⟨T.xa.rg, T.xb.rg, T.xc.rg⟩)
      have HC1 := Lib.hid (fun (w' : World) (hb : Below wr.heap.size wr w') => (by
        have T := TW.out.kp (Kp3.below hb)
        have C := side_any (T.a.more T.n0) (show n1 ≤ 1000000 by omega) s
        rw [hs1] at C
        exact C : Calls Try.prog 61 #[.agg #[.slice A1 n1 c1], .string s] w' fun e w2 => e = .returned (sdV s1) ∧ Below w'.heap.size w' w2))
      have HC2 := Lib.hid (fun (w' : World) (hb : Below wr.heap.size wr w') => (by
        have T := TW.out.kp (Kp3.below hb)
        have C := side_any (T.b.more T.n0) (show n2 ≤ 1000000 by omega) s
        rw [hs2] at C
        exact C : Calls Try.prog 61 #[.agg #[.slice A2 n2 c2], .string s] w' fun e w2 => e = .returned (sdV s2) ∧ Below w'.heap.size w' w2))
      have HC3 := Lib.hid (fun (w' : World) (hb : Below wr.heap.size wr w') => (by
        have T := TW.out.kp (Kp3.below hb)
        have C := side_any (T.c.more T.n0) (show n3 ≤ 1000000 by omega) s
        rw [hs3] at C
        exact C : Calls Try.prog 61 #[.agg #[.slice A3 n3 c3], .string s] w' fun e w2 => e = .returned (sdV s3) ∧ Below w'.heap.size w' w2))
      clear hrg hs hbl hoW hx hs1 hs2 hs3 hxv
      gi_wp2
      have hb0 := (Below.refl wr.heap.size wr).drew
      refine wpIn_region_yield 12 (S := fun w' => w'.rangeAt Ba 0 [.slice A1 n1 c1] ∧ w'.rangeAt Bb 0 [.slice A2 n2 c2] ∧ w'.rangeAt Bc 0 [.slice A3 n3 c3]) (by kernel_rfl) (by kernel_rfl) (HS.out _ hb0) (fun _ => ?_)
      simp only [List.take_succ_cons, List.take_zero, List.drop_succ_cons, List.drop_zero, List.size_toArray, List.length_cons, List.length_nil]
      refine wpAnyH_take (i := 0) rfl (by kernel_rfl) (by kernel_rfl) (by kernel_rfl) (fun _ _ _ h => h) (.inl ⟨rfl, fun w' hw' => (by clear hw'; go_simp; rfl)⟩) (HS.out _ hb0) ?_
      simp only [List.getElem_toArray, List.getElem_cons_zero, List.getElem_cons_succ, Act.put, List.setIfInBounds_toArray, List.set_cons_succ, List.set_cons_zero]
      refine wpAnyH_take (i := 1) rfl (by kernel_rfl) (by kernel_rfl) (by kernel_rfl) (fun _ _ _ h => h) (.inl ⟨rfl, fun w' hw' => (by clear hw'; go_simp; rfl)⟩) (HS.out _ hb0) ?_
      simp only [List.getElem_toArray, List.getElem_cons_zero, List.getElem_cons_succ, Act.put, List.setIfInBounds_toArray, List.set_cons_succ, List.set_cons_zero]
      refine wpAnyH_take (i := 2) rfl (by kernel_rfl) (by kernel_rfl) (by kernel_rfl) (fun _ _ _ h => h) (yieldsIf_load_mid rfl 24 _ rfl (Ba) (0) rfl ([.slice A1 n1 c1]) _ (fun w' hw' => hw'.1) Try.underlying24 rfl (size_map _ _ _)) (HS.out _ hb0) ?_
      simp only [List.getElem_toArray, List.getElem_cons_zero, List.getElem_cons_succ, Act.put, List.setIfInBounds_toArray, List.set_cons_succ, List.set_cons_zero]
      refine wpAnyH_take (i := 3) rfl (by kernel_rfl) (by kernel_rfl) (by kernel_rfl) (fun _ _ _ h => h) (.inl ⟨rfl, fun w' hw' => (by clear hw'; go_simp; rfl)⟩) (HS.out _ hb0) ?_
      simp only [List.getElem_toArray, List.getElem_cons_zero, List.getElem_cons_succ, Act.put, List.setIfInBounds_toArray, List.set_cons_succ, List.set_cons_zero]
      refine wpAnyH_take (i := 5) rfl (by kernel_rfl) (by kernel_rfl) (by kernel_rfl) (fun _ _ _ h => h) (yieldsIf_load_mid rfl 24 _ rfl (Bb) (0) rfl ([.slice A2 n2 c2]) _ (fun w' hw' => hw'.2.1) Try.underlying24 rfl (size_map _ _ _)) (HS.out _ hb0) ?_
      simp only [List.getElem_toArray, List.getElem_cons_zero, List.getElem_cons_succ, Act.put, List.setIfInBounds_toArray, List.set_cons_succ, List.set_cons_zero]
      refine wpAnyH_take (i := 6) rfl (by kernel_rfl) (by kernel_rfl) (by kernel_rfl) (fun _ _ _ h => h) (.inl ⟨rfl, fun w' hw' => (by clear hw'; go_simp; rfl)⟩) (HS.out _ hb0) ?_
      simp only [List.getElem_toArray, List.getElem_cons_zero, List.getElem_cons_succ, Act.put, List.setIfInBounds_toArray, List.set_cons_succ, List.set_cons_zero]
      refine wpAnyH_take (i := 8) rfl (by kernel_rfl) (by kernel_rfl) (by kernel_rfl) (fun _ _ _ h => h) (yieldsIf_load_mid rfl 24 _ rfl (Bc) (0) rfl ([.slice A3 n3 c3]) _ (fun w' hw' => hw'.2.2) Try.underlying24 rfl (size_map _ _ _)) (HS.out _ hb0) ?_
      simp only [List.getElem_toArray, List.getElem_cons_zero, List.getElem_cons_succ, Act.put, List.setIfInBounds_toArray, List.set_cons_succ, List.set_cons_zero]
      refine wpAnyH_take (i := 9) rfl (by kernel_rfl) (by kernel_rfl) (by kernel_rfl) (fun _ _ _ h => h) (.inl ⟨rfl, fun w' hw' => (by clear hw'; go_simp; rfl)⟩) (HS.out _ hb0) ?_
      simp only [List.getElem_toArray, List.getElem_cons_zero, List.getElem_cons_succ, Act.put, List.setIfInBounds_toArray, List.set_cons_succ, List.set_cons_zero]
      refine wpAnyH_ready (rs := [4]) (by kernel_rfl) (by simp) (AllReadyH.cons rfl (fun K hK => ?_) AllReadyH.nil)
      rw [if_pos (by rfl)]
      refine wp_fn (f := 61) (xs := #[.agg #[.slice A1 n1 c1], .string s]) (by first | (go_simp; done) | (go_simp; rfl)) ((HC1.out _ hb0).mono ?_)
      rintro e u1 ⟨rfl, hb4⟩
      have hb1 := hb0.trans (hb4.mono hb0.size)
      clear hb4
      refine ⟨_, rfl, hK.out _ _ (HS.out _ hb1) (fun _ => ?_)⟩
      simp only [List.getElem_toArray, List.getElem_cons_zero, List.getElem_cons_succ, Act.put, List.setIfInBounds_toArray, List.set_cons_succ, List.set_cons_zero]
      refine wpAnyH_ready (rs := [7]) (by kernel_rfl) (by simp) (AllReadyH.cons rfl (fun K hK => ?_) AllReadyH.nil)
      rw [if_pos (by rfl)]
      refine wp_fn (f := 61) (xs := #[.agg #[.slice A2 n2 c2], .string s]) (by first | (go_simp; done) | (go_simp; rfl)) ((HC2.out _ hb1).mono ?_)
      rintro e u2 ⟨rfl, hb4⟩
      have hb2 := hb1.trans (hb4.mono hb1.size)
      clear hb4
      refine ⟨_, rfl, hK.out _ _ (HS.out _ hb2) (fun _ => ?_)⟩
      simp only [List.getElem_toArray, List.getElem_cons_zero, List.getElem_cons_succ, Act.put, List.setIfInBounds_toArray, List.set_cons_succ, List.set_cons_zero]
      refine wpAnyH_ready (rs := [10]) (by kernel_rfl) (by simp) (AllReadyH.cons rfl (fun K hK => ?_) AllReadyH.nil)
      rw [if_pos (by rfl)]
      refine wp_fn (f := 61) (xs := #[.agg #[.slice A3 n3 c3], .string s]) (by first | (go_simp; done) | (go_simp; rfl)) ((HC3.out _ hb2).mono ?_)
      rintro e u3 ⟨rfl, hb4⟩
      have hb3 := hb2.trans (hb4.mono hb2.size)
      clear hb4
      refine ⟨_, rfl, hK.out _ _ (HS.out _ hb3) (fun _ => ?_)⟩
      simp only [List.getElem_toArray, List.getElem_cons_zero, List.getElem_cons_succ, Act.put, List.setIfInBounds_toArray, List.set_cons_succ, List.set_cons_zero]
      refine wpAnyH_take (i := 11) rfl (by kernel_rfl) (by kernel_rfl) (by kernel_rfl) (fun _ _ _ h => h) (.inl ⟨rfl, fun w' hw' => (by clear hw'; go_simp; rfl)⟩) (HS.out _ hb3) ?_
      simp only [List.getElem_toArray, List.getElem_cons_zero, List.getElem_cons_succ, Act.put, List.setIfInBounds_toArray, List.set_cons_succ, List.set_cons_zero]
      refine wpAnyH_done (by kernel_rfl) ?_ _
      show wpListIn _ _ _ _ _ _ _ _
      have HK3 := Lib.hid (hkp.out.trans (Kp3.below hb3))
      have HJ3 := Lib.hid (HJ.out _ wr u3 none hj.out ⟨hb3.os, hb3.tape, hb3.output, hb3.size, fun i hi _ => hb3.block i hi⟩ (fun r e => by cases e))
      have HZ3 := Lib.hid (Nat.le_trans hsz.out hb3.size)
      obtain ⟨fn, tmps, assign, body, hy, hR⟩ := HY.out _ x u3 HJ3.out (by rw [← HTK.out]; exact List.take_prefix _ _)
      rw [HXV.out] at hy
      clear hb0 hb1 hb2 hb3 r0 HC1 HC2 HC3 HS
      gi_wp2
      refine hR.mono ?_
      rintro e w3 (⟨rfl, hJ4, hk4⟩ | ⟨rfl, hJx4⟩)
      · have J4 := Lib.hid hJ4
        have K4 := Lib.hid (HK3.out.trans hk4)
        have Z4 := Lib.hid (Nat.le_trans HZ3.out hk4.mv.size)
        clear hJ4 hk4 hR hy
        gi_wp2
        go_roundw
        case rel => exact ⟨k + 1, by omega, by go_num, Lib.hid (by rw [HTK.out]; exact J4.out), K4, Z4⟩
        case measure => simp [intOf]; omega
      · have J4 := Lib.hid hJx4
        clear hJx4 hR hy
        gi_wp2
        refine bodyPost_ret (results_none rfl _ _ _) rfl ?_
        exact ⟨⟨_, rfl⟩, .inr ⟨_, by rw [← HTK.out]; exact List.take_prefix _ _, J4.out⟩⟩
    · have hd : decide ((k : Int) < (n7 : Int)) = false := by simp; omega
      have HF : Hid (J (plsW l1 l2 l3) wr) := Lib.hid (by
        have h := hj.out
        rwa [List.take_of_length_le (by rw [HPL.out, List.length_map]; omega)] at h)
      gi_wp2
      go_end0
      exact ⟨⟨_, rfl⟩, .inl ⟨_, rfl, HF.out⟩⟩

theorem places_foll (n : Nat) (hn1 : 1 ≤ n) {V : World} {Ba Bb Bc n₀ : Nat} {A1 : Option Addr} {n1 c1 : Nat} {l1 : List Rw} {A2 : Option Addr} {n2 c2 : Nat} {l2 : List Rw} {A3 : Option Addr} {n3 c3 : Nat} {l3 : List Rw} (hT : T3 V n₀ Ba Bb Bc A1 n1 c1 l1 A2 n2 c2 l2 A3 n3 c3 l3) (hm1 : n1 ≤ 1000) (hm2 : n2 ≤ 1000) (hm3 : n3 ≤ 1000) :
    SeqFoll n Try.prog 60 #[.pointer (some ⟨Ba, 0, none⟩), .pointer (some ⟨Bb, 0, none⟩), .pointer (some ⟨Bc, 0, none⟩)] (fun x => #[plV x]) (Kp3 n₀ Ba Bb Bc) (fun ys => ys = plsW l1 l2 l3) (fun pre => pre <+: plsW l1 l2 l3) (fun pre x => pre ++ [x] <+: plsW l1 l2 l3) V :=
  fun l J Jx W hW hJ _ hY h0 => places2 n hn1 l Ba Bb Bc n₀ A1 n1 c1 l1 A2 n2 c2 l2 A3 n3 c3 l3 hm1 hm2 hm3 J Jx W hJ hY (hT.kp (Kp3.below hW)) h0

/-- The variable in block b holds a slice v of one's own; of the world V only blocks of T have turned. -/
structure Mg (V : World) (T : Nat → Prop) (b : Nat) (tm e : TypeId) (k : Nat) (v : Value) (n : Nat) (xs : List Value) (W : World) : Prop where
  bx : Boxed W b tm v
  own : W.ownsRow V.heap.size e k v n xs
  mv : Mv T V W
  tb : T b
  lt : ∀ x, T x → x < V.heap.size
section
variable {V W W' : World} {T : Nat → Prop} {b : Nat} {tm e : TypeId} {k n : Nat} {v : Value} {xs : List Value}
theorem Mg.turn (h : Mg V T b tm e k v n xs W) {row : Option Nat} (hg : W.grownBy W' row) (hr : ∀ r, row = some r → V.heap.size ≤ r ∧ ∃ o : Obj, W.heap[r]? = some o ∧ o.isCells = false) : Mg V T b tm e k v n xs W' := by
  refine ⟨h.bx.kept hg (fun e' => ?_), h.own.kept hg ?_, ?_, h.tb, h.lt⟩
  · have h1 := (hr b e'.symm).1
    have := h.lt b h.tb
    omega
  · rcases h.own.2 with ⟨rfl, _⟩ | ⟨g, cap, cur, rfl, _, hgb, _⟩
    · exact .inl rfl
    · refine .inr fun e' => ?_
      obtain ⟨_, o, ho, hc⟩ := hr g (by simpa [Value.ownBlock] using e'.symm)
      rw [hgb] at ho; cases ho; cases hc
  · exact h.mv.then (S' := fun x => V.heap.size ≤ x) (Mv.of_grown hg fun g e' => .inl (hr g e').1) (fun x hx => .inr hx)
theorem Mg.below (h : Mg V T b tm e k v n xs W) (hb : Below W.heap.size W W') : Mg V T b tm e k v n xs W' := h.turn (only_of_below hb none) (fun r e => by cases e)
theorem Mg.own_ge (h : Mg V T b tm e k v n xs W) {g : Nat} (hg : v.ownBlock = some g) : V.heap.size ≤ g := (h.own.lt g hg).1
/-- Another one is written. -/
theorem Mg.other (h : Mg V T b tm e k v n xs W) {s : Nat} (hs : T s ∨ (V.heap.size ≤ s ∧ v.ownBlock ≠ some s)) (hne : s ≠ b) (o : Nat) (u : Value) : Mg V T b tm e k v n xs (W.setCell ⟨s, o, none⟩ u) := by
  refine ⟨(Below.heap_setCell W ⟨s, o, none⟩ u b (fun e => hne e.symm)).trans h.bx, ?_, ?_, h.tb, h.lt⟩
  · have hgq : W.grownBy (W.setCell ⟨s, o, none⟩ u) (some s) := ⟨rfl, rfl, rfl, by simp [World.setCell], fun i hi hne => Below.heap_setCell W ⟨s, o, none⟩ u i (fun e => hne (by rw [e]))⟩
    refine h.own.kept hgq ?_
    rcases hs with hs | hs
    · rcases hq : v.ownBlock with _ | g
      · exact .inl rfl
      · refine .inr fun e => ?_
        injection e with e
        have h1 := h.own_ge hq
        have h2 := h.lt s hs
        omega
    · exact .inr hs.2
  · refine h.mv.set_ (p := ⟨s, o, none⟩) ?_ u
    rcases hs with hs | hs
    · exact .inl hs
    · exact .inr hs.1
/-- Behind an append, and the store of what it gives back. -/
theorem Mg.app (h : Mg V T b tm e k v n xs W) {tmp : Obj} {w1 : World} {v' : Value} {m : Nat} {ys : List Value} (hown : w1.ownsRow V.heap.size e k v' m ys) (hg : (W.alloc tmp).grownBy w1 v.ownBlock) :
    Boxed w1 b tm v ∧ Mg V T b tm e k v' m ys (w1.setCell ⟨b, 0, none⟩ v') ∧ KeepsFrom V.heap.size W (w1.setCell ⟨b, 0, none⟩ v') ∧ Mv (fun x => x = b ∨ V.heap.size ≤ x) W (w1.setCell ⟨b, 0, none⟩ v') := by
  have hge : ∀ g, v.ownBlock = some g → V.heap.size ≤ g := fun g e' => (h.own.lt g e').1
  have hge' : ∀ g, v'.ownBlock = some g → V.heap.size ≤ g := fun g e' => (hown.lt g e').1
  have hlt := h.lt b h.tb
  have hv1 : Boxed w1 b tm v := (h.bx.alloc tmp).kept hg (fun e' => by have := hge b e'.symm; omega)
  have hmv : Mv (fun x => x = b ∨ V.heap.size ≤ x) W (w1.setCell ⟨b, 0, none⟩ v') := by
    have h1 : Mv (fun x => x = b ∨ V.heap.size ≤ x) W (W.alloc tmp) := (Mv.refl _ _).alloc tmp
    have h2 : Mv (fun x => x = b ∨ V.heap.size ≤ x) (W.alloc tmp) w1 := Mv.of_grown hg fun g e' => .inl (.inr (hge g e'))
    exact (h1.trans h2).set_ (p := ⟨b, 0, none⟩) (.inl (.inl rfl)) v'
  refine ⟨hv1, ⟨hv1.set v', hown.kept (grownBy_setCell' w1 b v') ?_, h.mv.then hmv fun x hx => ?_, h.tb, h.lt⟩, ⟨hmv.size, fun j o hB hj hc => ?_⟩, hmv⟩
  · rcases hq : v'.ownBlock with _ | g
    · exact .inl rfl
    · exact .inr (fun e' => by injection e' with e'; have := hge' g hq; omega)
  · rcases hx with rfl | hx
    · exact .inl h.tb
    · exact .inr hx
  · have hjl := (Array.getElem?_eq_some_iff.1 hj).1
    have h1 : (W.alloc tmp).heap[j]? = some o := (Below.heap_alloc W tmp j hjl).trans hj
    have h2 : w1.heap[j]? = some o := (hg.block j (by simp; omega) (fun e' => by
      rcases h.own.2 with ⟨rfl, _⟩ | ⟨g, cap, cur, rfl, _, hgb, _⟩
      · simp [Value.ownBlock] at e'
      · obtain rfl : j = g := by simpa [Value.ownBlock] using e'
        rw [hgb] at hj; cases hj; cases hc)).trans h1
    exact (Below.heap_setCell w1 ⟨b, 0, none⟩ v' j (fun e' => by have e2 : j = b := e'; omega)).trans h2
theorem Mg.app_str (h : Mg V T b tm e k v n xs W) (htm : tm ≠ 9) (he : e ≠ 9) {tmp : Obj} {w1 : World} (hg : (W.alloc tmp).grownBy w1 v.ownBlock) (v' : Value) :
    ∀ (j : Nat) (c : Array Value) (fr : Nat × Nat), W.heap[j]? = some (Obj.cells c 9 fr) → (w1.setCell ⟨b, 0, none⟩ v').heap[j]? = some (Obj.cells c 9 fr) := fun j c fr hj => by
  have hjl := (Array.getElem?_eq_some_iff.1 hj).1
  refine (Below.heap_setCell w1 ⟨b, 0, none⟩ v' j (fun e' => ?_)).trans ?_
  · have e2 : j = b := e'
    subst e2
    rw [show W.heap[j]? = _ from h.bx] at hj
    injection hj with hj
    injection hj with _ h2
    exact htm h2
  · refine (hg.block j (by simp; omega) (fun e' => ?_)).trans ((Below.heap_alloc W tmp j hjl).trans hj)
    rcases h.own.2 with ⟨rfl, _⟩ | ⟨g, cap, cur, rfl, _, hgb, _⟩
    · simp [Value.ownBlock] at e'
    · obtain rfl : j = g := by simpa [Value.ownBlock] using e'
      rw [hgb] at hj
      injection hj with hj
      injection hj with _ h2
      exact he h2
/-- A cell of a block of another type is written. -/
theorem set_str {c0 : Array Value} {t0 : TypeId} {fr0 : Nat × Nat} {s : Nat} (hs : W.heap[s]? = some (Obj.cells c0 t0 fr0)) (ht : t0 ≠ 9) (o : Nat) (u : Value) :
    ∀ (j : Nat) (c : Array Value) (fr : Nat × Nat), W.heap[j]? = some (Obj.cells c 9 fr) → (W.setCell ⟨s, o, none⟩ u).heap[j]? = some (Obj.cells c 9 fr) := fun j c fr hj => by
  refine (Below.heap_setCell W ⟨s, o, none⟩ u j (fun e' => ?_)).trans hj
  have e2 : j = s := e'
  subst e2
  rw [hs] at hj
  injection hj with hj
  injection hj with _ h2
  exact ht h2
end

/-- What is left of a slice behind its first. -/
def tlA (a : Option Addr) (cs : Nat) : Option Addr := if cs = 1 then a else a.map (·.add 3)
theorem slice_one (A : Option Addr) (m cs : Nat) (hm : m + 1 ≤ cs) (w : World) : (Instr.slice 34 (.slice A (m + 1) cs) (some (.int .i64 1)) none none).run Try.prog w = .ok (.slice (tlA A cs) m (cs - 1)) w := by
  have h1 : (1 : Int) ≤ ((m + 1 : Nat) : Int) := by omega
  have hsz := Try.sizeOf81 w
  have hu := Try.underlying34
  go_simp
  rw [if_pos (by omega)]
  rfl
theorem sq_tail {W : World} {B : Nat} {A : Option Addr} {m cs : Nat} {x : Ch} {r : List Ch} (h : SqC W B A (m + 1) cs (x :: r)) : SqC W B (tlA A cs) m (cs - 1) r := by
  obtain ⟨b, o, e, hlt, hr⟩ := h.pos (by omega)
  have hc := h.cap
  have hl := h.len
  subst e
  refine ⟨by simpa using hl, by omega, by have := h.max; omega, ?_, ch_sz, fun hn => ?_⟩
  · intro e
    unfold tlA at e
    split at e
    · cases e
    · cases e
  · refine ⟨b, o + 3, ?_, hlt, ?_⟩
    · unfold tlA
      rw [if_neg (by omega)]
      rfl
    · rw [List.flatMap_cons, rangeAt_app] at hr
      exact hr.2
end Go.Proofs.Ytkdmlffnkomdhaa
namespace Go.Proofs.Ytkdmlffnkomdhaa
set_option linter.unusedVariables false
set_option linter.unusedSimpArgs false
set_option pp.deepTerms true
set_option pp.maxSteps 200000
open Go.RowKit Go.WideShapes Go.ChangeShapes Go.Deep Go.Shelf
attribute [local go_sem] Oper.semAt_some
attribute [local irreducible] wpQuiet

/-- What one place adds; what is made. -/
def hasM (by' : List Ch) (x : Pl) : Sd := if conflW x then ⟨isC (findW Ch.p by' x.p), textC (findW Ch.p by' x.p)⟩ else agreedW x
def pieceM (by' : List Ch) (x : Pl) : List Rw := if (hasM by' x).is then [⟨x.p, (hasM by' x).t⟩] else []
def madeM (by' : List Ch) (pre : List Pl) : List Rw := pre.flatMap (pieceM by')
theorem madeM_snoc (by' : List Ch) (pre : List Pl) (x : Pl) : madeM by' (pre ++ [x]) = madeM by' pre ++ pieceM by' x := by
  unfold madeM
  rw [List.flatMap_append]
  simp
theorem madeM_le {by' : List Ch} {pre all : List Pl} (h : pre <+: all) : (madeM by' pre).length ≤ (madeM by' all).length := by
  obtain ⟨t, rfl⟩ := h
  unfold madeM
  rw [List.flatMap_append, List.length_append]
  omega
def mergedW (lb lo lt : List Rw) (by' : List Ch) : List Rw := madeM by' (plsW lb lo lt)
def mergedE (lb lo lt : List Rw) (by' : List Ch) : Int := if 32 < (mergedW lb lo lt by').length then 6 else 0
theorem cfs_snoc (pre : List Pl) (x : Pl) : cfs (pre ++ [x]) = cfs pre ++ (if conflW x then [x] else []) := by
  unfold cfs
  rw [List.filter_append]
  cases h : conflW x <;> simp [h]
theorem said_next {by' : List Ch} {L pre : List Pl} {x : Pl} (hp : pre ++ [x] <+: L) (hx : conflW x = true) (hf : by'.map Ch.p = (cfs L).map Pl.p) :
    ∃ c r, by'.drop (cfs pre).length = c :: r ∧ by'.drop ((cfs pre).length + 1) = r ∧ c.p = x.p ∧ c ∈ by' := by
  obtain ⟨t, rfl⟩ := hp
  have h1 : cfs (pre ++ [x] ++ t) = cfs pre ++ x :: cfs t := by
    unfold cfs
    rw [List.filter_append, List.filter_append]
    simp [hx]
  rw [h1, List.map_append, List.map_cons] at hf
  have hl : by'.length = (cfs pre).length + ((cfs t).length + 1) := by
    have := congrArg List.length hf
    simpa using this
  have hk : (cfs pre).length < by'.length := by omega
  refine ⟨by'[(cfs pre).length], by'.drop ((cfs pre).length + 1), List.drop_eq_getElem_cons hk, rfl, ?_, List.getElem_mem hk⟩
  have h2 : (by'.map Ch.p)[(cfs pre).length]? = some x.p := by
    rw [hf, List.getElem?_append_right (by simp)]
    simp
  rw [List.getElem?_map, List.getElem?_eq_getElem hk] at h2
  simpa using h2

theorem hb_cell {W : World} {B : Nat} {c : Array Value} {t : TypeId} {fr : Nat × Nat} (h : W.heap[B]? = some (Obj.cells c t fr)) {j : Nat} {v : Value} (hv : c[j]? = some v) : W.cell? ⟨B, j, none⟩ = some v := by
  unfold World.cell?
  rw [show (⟨B, j, none⟩ : Addr).block = B from rfl, h]
  simpa using hv
theorem hb_free {W : World} {B : Nat} {c : Array Value} {t : TypeId} {j : Nat} (h : W.heap[B]? = some (Obj.cells c t (0, 0))) : W.frozen? ⟨B, j, none⟩ = false := by
  unfold World.frozen?
  rw [show (⟨B, j, none⟩ : Addr).block = B from rfl, h]
  simp
theorem hb_set1 {W : World} {B : Nat} {u0 u1 : Value} {t : TypeId} (h : W.heap[B]? = some (Obj.cells #[u0, u1] t (0, 0))) (v0 : Value) : (W.setCell ⟨B, 0, none⟩ v0).heap[B]? = some (Obj.cells #[v0, u1] t (0, 0)) := by
  simp [World.setCell, Array.getElem?_modify, h]
theorem hb_set {W : World} {B : Nat} {u0 u1 : Value} {t : TypeId} (h : W.heap[B]? = some (Obj.cells #[u0, u1] t (0, 0))) (v0 v1 : Value) : ((W.setCell ⟨B, 0, none⟩ v0).setCell ⟨B, 1, none⟩ v1).drew.heap[B]? = some (Obj.cells #[v0, v1] t (0, 0)) := by
  have h1 := hb_set1 h v0
  show ((W.setCell ⟨B, 0, none⟩ v0).setCell ⟨B, 1, none⟩ v1).heap[B]? = _
  generalize W.setCell ⟨B, 0, none⟩ v0 = W1 at h1 ⊢
  simp [World.setCell, Array.getElem?_modify, h1]
theorem Mg.own_ne {V W : World} {T : Nat → Prop} {b : Nat} {tm e : TypeId} {k n : Nat} {v : Value} {xs : List Value} (h : Mg V T b tm e k v n xs W) {s : Nat} {c0 : Array Value} {t0 : TypeId} {fr0 : Nat × Nat} (hs : W.heap[s]? = some (Obj.cells c0 t0 fr0)) (ht : t0 ≠ e) : v.ownBlock ≠ some s := by
  rcases h.own.2 with ⟨rfl, _⟩ | ⟨g, cap, cur, rfl, _, hgb, _⟩
  · simp [Value.ownBlock]
  · intro e'
    obtain rfl : s = g := by simpa [Value.ownBlock] using e'.symm
    rw [hgb] at hs
    injection hs with hs
    injection hs with _ h2
    exact ht h2.symm

theorem results_Mgd (tmps : Array Value) (W : World) (b4 b5 : Nat) (v : Value) (k : Int) (h4 : tmps.getD 4 undef = .pointer (some ⟨b4, 0, none⟩)) (h5 : tmps.getD 5 undef = .pointer (some ⟨b5, 0, none⟩)) (x4 : W.cell? ⟨b4, 0, none⟩ = some v) (x5 : W.cell? ⟨b5, 0, none⟩ = some (.int .i64 k)) :
    (results Try.f45 tmps).run Try.prog W = .ok (.tuple #[.agg #[v], .int .i64 k]) W := by
  have h4' : tmps[4]?.getD undef = .pointer (some ⟨b4, 0, none⟩) := by simpa using h4
  have h5' : tmps[5]?.getD undef = .pointer (some ⟨b5, 0, none⟩) := by simpa using h5
  simp [results, Try.f45, go_sem, h4', h5', x4, x5]
theorem ends2_Mgd {W : World} {R : Ending → World → Prop} (tmps : Array Value) (D b4 b5 : Nat) (v : Value) (k : Int) {t4 t5 : TypeId} (h4 : tmps.getD 4 undef = .pointer (some ⟨b4, 0, none⟩)) (h5 : tmps.getD 5 undef = .pointer (some ⟨b5, 0, none⟩)) (hK : W.heap[D]? = some (.deferred (some []))) (x4 : Boxed W b4 t4 v) (x5 : Boxed W b5 t5 (.int .i64 k))
    (h : R (.returned (.tuple #[.agg #[v], .int .i64 k])) (W.putObj D (.deferred none))) : bodyPostM Fence.wide 8 Try.prog Try.f45 R Exit.ret { tmps := tmps, defers := [{ target := Target.collected D, args := #[] }] } W := by
  have y4 : Boxed (W.putObj D (.deferred none)) b4 t4 v := x4.kept (grownBy_putObj' W D _) (fun e => by injection e with e; subst e; rw [show W.heap[b4]? = _ from x4] at hK; cases hK)
  have y5 : Boxed (W.putObj D (.deferred none)) b5 t5 (.int .i64 k) := x5.kept (grownBy_putObj' W D _) (fun e => by injection e with e; subst e; rw [show W.heap[b5]? = _ from x5] at hK; cases hK)
  exact ⟨by simp, .inl ⟨D, _, rfl, run_takeDeferred hK, _, results_Mgd tmps _ b4 b5 v k h4 h5 y4.cell y5.cell, h⟩⟩
/-- What is laid ahead of the loop. -/
structure FvM (w : World) (A : Option Addr) (n c : Nat) (V : World) : Prop where
  s : Boxed V w.heap.size 34 (.slice A n c)
  r4 : Boxed V (w.heap.size + 1) 24 (.slice none 0 0)
  r5 : Boxed V (w.heap.size + 1 + 1) 31 (.int .i64 0)
  m : Boxed V (w.heap.size + 1 + 1 + 1) 24 (.slice none 0 0)
  bel : Below w.heap.size w V
  sz : V.heap.size = w.heap.size + 4

set_option maxRecDepth 100000 in
set_option maxHeartbeats 8000000 in
theorem merged_any {w : World} {n₀ Ba Bb Bc : Nat} {A1 : Option Addr} {n1 c1 : Nat} {l1 : List Rw} {A2 : Option Addr} {n2 c2 : Nat} {l2 : List Rw} {A3 : Option Addr} {n3 c3 : Nat} {l3 : List Rw} (hT : T3 w n₀ Ba Bb Bc A1 n1 c1 l1 A2 n2 c2 l2 A3 n3 c3 l3) (hm1 : n1 ≤ 1000) (hm2 : n2 ≤ 1000) (hm3 : n3 ≤ 1000)
    {A : Option Addr} {n c : Nat} {by' : List Ch} (hs : SqC w w.heap.size A n c by') (hn : n ≤ 1000) (hfit : by'.map Ch.p = (cfs (plsW l1 l2 l3)).map Pl.p) (hup : Up Ch.p by') :
    Calls Try.prog 45 #[.func (.func 60) #[] #[.pointer (some ⟨Ba, 0, none⟩), .pointer (some ⟨Bb, 0, none⟩), .pointer (some ⟨Bc, 0, none⟩)], .slice A n c] w fun en w' => (∃ A9 n9 c9, en = .returned (.tuple #[.agg #[.slice A9 n9 c9], .int .i64 (mergedE l1 l2 l3 by')]) ∧ SqR w' w'.heap.size A9 n9 c9 (if mergedE l1 l2 l3 by' = 0 then mergedW l1 l2 l3 by' else [])) ∧ Below w.heap.size w w' := by
  obtain ⟨Lr, hLr⟩ : ∃ Lr, (if mergedE l1 l2 l3 by' = 0 then mergedW l1 l2 l3 by' else []) = Lr := ⟨_, rfl⟩
  obtain ⟨er, her⟩ : ∃ er, mergedE l1 l2 l3 by' = er := ⟨_, rfl⟩
  have HLR := Lib.hid hLr
  have HER := Lib.hid her
  rw [hLr, her]
  clear hLr her
  refine (callsIn_wide (n := 8)).1 ?_
  refine callsIn_of_wp_marks Try.func45 rfl trivial ?_ rfl
  simp only [Try.ntmps45, List.size_toArray, List.length_cons, List.length_nil, Nat.reduceAdd, Nat.reduceSub, Array.replicate_succ, Array.replicate_zero, List.push_toArray, List.append_toArray, List.nil_append, List.cons_append]
  refine wpIn_wide.2 ?_
  obtain ⟨V, hV⟩ : ∃ V, (((w.alloc (.cells #[.slice A n c] 34)).alloc (.cells #[.slice none 0 0] 24)).alloc (.cells #[.int .i64 0] 31)).alloc (.cells #[.slice none 0 0] 24) = V := ⟨_, rfl⟩
  have FV : Hid (FvM w A n c V) := Lib.hid (by
    rw [← hV]
    refine ⟨?_, ?_, ?_, ?_, ?_, by simp⟩
    · exact (((Boxed.new w _ _).alloc _).alloc _).alloc _
    · have h := ((Boxed.new (w.alloc (.cells #[.slice A n c] 34)) 24 (.slice none 0 0)).alloc (.cells #[.int .i64 0] 31)).alloc (.cells #[.slice none 0 0] 24)
      simpa only [World.size_alloc] using h
    · have h := (Boxed.new ((w.alloc (.cells #[.slice A n c] 34)).alloc (.cells #[.slice none 0 0] 24)) 31 (.int .i64 0)).alloc (.cells #[.slice none 0 0] 24)
      simpa only [World.size_alloc] using h
    · have h := Boxed.new (((w.alloc (.cells #[.slice A n c] 34)).alloc (.cells #[.slice none 0 0] 24)).alloc (.cells #[.int .i64 0] 31)) 24 (.slice none 0 0)
      simpa only [World.size_alloc] using h
    · exact ((((Below.refl _ _).alloc (Nat.le_refl _) _).alloc (by simp) _).alloc (by simp; omega) _).alloc (by simp; omega) _)
  have TV := Lib.hid (hT.kp (Kp3.below FV.out.bel))
  have SV := Lib.hid (hs.below FV.out.bel)
  have HF := Lib.hid hfit
  have HU := Lib.hid hup
  have HBL : Hid (n₀ ≤ w.heap.size ∧ Ba < w.heap.size ∧ Bb < w.heap.size ∧ Bc < w.heap.size) := Lib.hid ⟨hT.n0, hT.xa.lt, hT.xb.lt, hT.xc.lt⟩
  have hbl := hs.len
  have HV := Lib.hid hV
  clear hV hT hs hfit hup
  go_wp2_with fail
  rw [HV.out]
  clear HV
  refine wpIn_wide.1 (wpIn_rangeFunc_foll (n := 8) (gf := 60) (lb := #[.pointer (some ⟨Ba, 0, none⟩), .pointer (some ⟨Bb, 0, none⟩), .pointer (some ⟨Bc, 0, none⟩)]) rfl (enters_of Try.func60 (by kernel_rfl) rfl)
    (places_foll 7 (by omega) TV.out hm1 hm2 hm3) (fun h k => h.trans k) ?keep (Below.refl _ _) (fun _ => rfl)
    (fun pre W => (∃ v, Mg V (fun b => b = w.heap.size + 1 + 1 + 1 ∨ b = w.heap.size) (w.heap.size + 1 + 1 + 1) 24 70 2 v (madeM by' pre).length ((madeM by' pre).flatMap Rw.cells) W) ∧ (madeM by' pre).length ≤ 32 ∧ ∃ As cs, Boxed W w.heap.size 34 (.slice As (n - (cfs pre).length) cs) ∧ SqC V w.heap.size As (n - (cfs pre).length) cs (by'.drop (cfs pre).length))
    (fun c pre W => c = .ret ∧ 32 < (madeM by' pre).length ∧ Boxed W (w.heap.size + 1) 24 (.slice none 0 0) ∧ Boxed W (w.heap.size + 1 + 1) 31 (.int .i64 6) ∧ Mv (fun x => w.heap.size ≤ x) V W)
    (fun s W W' row hs hg hr => ⟨hs.1.imp fun v h => h.turn hg hr, hs.2.1, hs.2.2.imp fun As h => h.imp fun cs h => ⟨h.1.kept hg (fun e => by have := (hr _ e.symm).1; have := FV.out.sz; omega), h.2⟩⟩)
    (fun c s W W' row hs hg hr => ?ownx) ?h0
    (fun x a' W => ∃ B, Bx V B x W ∧ a' = { tmps := #[.func (.func 60) #[] #[.pointer (some ⟨Ba, 0, none⟩), .pointer (some ⟨Bb, 0, none⟩), .pointer (some ⟨Bc, 0, none⟩)], .slice A n c, undef, .pointer (some ⟨w.heap.size, 0, none⟩), .pointer (some ⟨w.heap.size + 1, 0, none⟩), .pointer (some ⟨w.heap.size + 1 + 1, 0, none⟩), .pointer (some ⟨w.heap.size + 1 + 1 + 1, 0, none⟩), .pointer (some ⟨B, 0, none⟩), undef, .func (.func 60) #[] #[.pointer (some ⟨Ba, 0, none⟩), .pointer (some ⟨Bb, 0, none⟩), .pointer (some ⟨Bc, 0, none⟩)], plV x, undef, undef, undef, undef, undef, undef, undef, undef, undef, undef, undef, undef, undef, undef, undef, undef, undef, undef, undef, undef, undef, undef, undef, undef, undef, undef, undef, undef, undef, undef, undef, undef, undef, undef], defers := [] })
    ?hax ?assign ?body ?done ?stop)
  case keep =>
    intro W k o o' hk ho hc hw
    obtain ⟨g0, g1, g2, g3⟩ := HBL.out
    have g4 := FV.out.sz
    refine ⟨Mv.of_grown (grownBy_putObj' W k o') (fun g e => by cases e; exact .inl ⟨by omega, by omega, by omega, by omega⟩), fun j cs fr hj => ?_⟩
    refine ((grownBy_putObj' W k o').block j (Array.getElem?_eq_some_iff.1 hj).1 (fun e => ?_)).trans hj
    injection e with e
    subst e
    rw [ho] at hj
    cases hj
    cases hc
  case ownx =>
    have g4 := FV.out.sz
    exact ⟨hs.1, hs.2.1, hs.2.2.1.kept hg (fun e => by have := (hr _ e.symm).1; omega), hs.2.2.2.1.kept hg (fun e => by have := (hr _ e.symm).1; omega), hs.2.2.2.2.then (S' := fun x => V.heap.size ≤ x) (Mv.of_grown hg fun g e => .inl (hr g e).1) (fun x hx => .inr hx)⟩
  case h0 =>
    have g4 := FV.out.sz
    exact ⟨⟨.slice none 0 0, FV.out.m, World.ownsRow_nil _ _ _ _, Mv.refl _ _, .inl rfl, fun x hx => by rcases hx with rfl | rfl <;> omega⟩, Nat.zero_le _, A, c, FV.out.s, SV.out⟩
  case hax =>
    intro x a' _ W W' row hs hg hr
    obtain ⟨B, hB, ha⟩ := hs
    exact ⟨B, Bx.own V B x () W W' row hB hg hr, ha⟩
  case assign =>
    rintro lp pre x W K hi hK
    have HI := Lib.hid hi
    have hsz := hi.1.elim fun v h => h.mv.size
    clear hi
    gi_wp2
    have hb : Below W.heap.size W (W.alloc (.cells x.cells.toArray 77)) := (Below.refl _ _).alloc (Nat.le_refl _) _
    refine hK _ _ (keeps_below hb) (Kp3.below hb) ⟨HI.out.1.imp fun v h => h.below hb, HI.out.2.1, HI.out.2.2.imp fun As h => h.imp fun cs h => ⟨h.1.alloc _, h.2⟩⟩ ⟨W.heap.size, ⟨heap_alloc_new W _, hsz⟩, rfl⟩
  case body =>
    rintro lp pre x a' W ⟨⟨v, hmg⟩, hlen, As, cs, hsb, hsq⟩ ⟨B, hbx, rfl⟩ hpr
    obtain ⟨Av, cv, hv⟩ := own_shape hmg.own
    subst v
    have HMG := Lib.hid hmg
    have HBX := Lib.hid hbx
    have HSB := Lib.hid hsb
    have HSQ := Lib.hid hsq
    have HPR := Lib.hid hpr
    have hfn1 : Fence.wide.fn 38 := trivial
    have hfn2 : Fence.wide.fn 69 := trivial
    have q0 := hbx.cell (j := 0) rfl
    have q1 := hbx.cell (j := 1) rfl
    have q2 := hbx.cell (j := 2) rfl
    have q3 := hbx.cell (j := 3) rfl
    have q4 := hbx.cell (j := 4) rfl
    have q5 := hbx.cell (j := 5) rfl
    have q6 := hbx.cell (j := 6) rfl
    obtain ⟨r, hr⟩ : ∃ r, agreedW x = r := ⟨_, rfl⟩
    obtain ⟨cx, hcx⟩ : ∃ cx, conflW x = cx := ⟨_, rfl⟩
    have hag := agreed_any x W
    rw [hr] at hag
    have HAG := Lib.hid hag
    have HR := Lib.hid hr
    have HCX := Lib.hid hcx
    clear hmg hbx hsb hsq hpr hag hr hcx
    gi_upto_region 5 with (first | (gi_at_call 69; with_reducible refine CallsIn.mono (CallsIn.inRound lp (callsIn_wide.2 HAG.out)) ?_; rintro e w5 ⟨rfl, hb5⟩; have BW5 := Lib.hid hb5; clear hb5) | fail)
    obtain ⟨w6, hw6⟩ : ∃ w6, w5.alloc (.cells #[.bool r.is, .string r.t] 41) = w6 := ⟨_, rfl⟩
    have BW6 := Lib.hid (show Below W.heap.size W w6 by rw [← hw6]; exact BW5.out.alloc BW5.out.size _)
    have HC6 : Hid (w6.heap[w5.heap.size]? = some (Obj.cells #[.bool r.is, .string r.t] 41 (0, 0))) := Lib.hid (by rw [← hw6]; exact heap_alloc_new w5 _)
    have HGE : Hid (V.heap.size ≤ w5.heap.size) := Lib.hid (Nat.le_trans HMG.out.mv.size BW5.out.size)
    rw [hw6]
    clear hw6
    obtain ⟨Hb, hHb⟩ : ∃ Hb, w5.heap.size = Hb := ⟨_, rfl⟩
    rw [hHb] at HC6 HGE ⊢
    clear hHb q0 q1 q2 q3 q4 q5 q6
    have BX6 := Lib.hid (HBX.out.below BW6.out)
    have z0 := BX6.out.cell (j := 0) rfl
    have z1 := BX6.out.cell (j := 1) rfl
    have z2 := BX6.out.cell (j := 2) rfl
    have z3 := BX6.out.cell (j := 3) rfl
    have z4 := BX6.out.cell (j := 4) rfl
    have z5 := BX6.out.cell (j := 5) rfl
    have z6 := BX6.out.cell (j := 6) rfl
    have hct := conflicts_any x w6
    rw [HCX.out] at hct
    have HCT := Lib.hid hct
    clear hct
    cases cx
    · have HPI := Lib.hid (show pieceM by' x = if r.is then [⟨x.p, r.t⟩] else [] by unfold pieceM hasM; rw [HCX.out, HR.out]; rfl)
      have hcf : cfs (pre ++ [x]) = cfs pre := by rw [cfs_snoc, HCX.out]; simp
      have HCF := Lib.hid hcf
      clear hcf
      gi_upto_region 8 with (first | (gi_at_call 38; with_reducible refine CallsIn.mono (CallsIn.inRound lp (callsIn_wide.2 HCT.out)) ?_; rintro e wz ⟨rfl, hb7⟩; have B67 := Lib.hid hb7; clear hb7) | fail)
      have BWZ := Lib.hid (BW6.out.trans (B67.out.mono BW6.out.size))
      have KF := Lib.hid (keeps_below (B := V.heap.size) BWZ.out)
      have KP := Lib.hid (Kp3.below (n₀ := n₀) (Ba := Ba) (Bb := Bb) (Bc := Bc) BWZ.out)
      have MG := Lib.hid (HMG.out.below BWZ.out)
      have BX := Lib.hid (HBX.out.below BWZ.out)
      have HC : Hid (wz.heap[Hb]? = some (Obj.cells #[.bool r.is, .string r.t] 41 (0, 0))) := Lib.hid (by rw [B67.out.block _ (Array.getElem?_eq_some_iff.1 HC6.out).1]; exact HC6.out)
      have SB : Hid (∃ As' cs', Boxed wz w.heap.size 34 (.slice As' (n - (cfs (pre ++ [x])).length) cs') ∧ SqC V w.heap.size As' (n - (cfs (pre ++ [x])).length) cs' (by'.drop (cfs (pre ++ [x])).length)) := Lib.hid (by rw [HCF.out]; exact ⟨As, cs, (BWZ.out.block _ HSB.out.lt).trans HSB.out, HSQ.out⟩)
      obtain ⟨ri, rt⟩ := r
      simp only at HPI HC
      clear z0 z1 z2 z3 z4 z5 z6
      cases ri
      · have HPN := Lib.hid (show madeM by' (pre ++ [x]) = madeM by' pre by rw [madeM_snoc, HPI.out]; simp)
        have h0 : wz.cell? ⟨Hb, 0, none⟩ = some (.bool false) := hb_cell HC.out (j := 0) rfl
        gi_wp2
        exact ⟨KF.out, KP.out, ⟨.slice Av (madeM by' pre).length cv, by rw [HPN.out]; exact MG.out⟩, by rw [HPN.out]; exact hlen, SB.out⟩
      · obtain ⟨rr, hrr⟩ : ∃ rr : Rw, rr = ⟨x.p, rt⟩ := ⟨_, rfl⟩
        have HPN := Lib.hid (show madeM by' (pre ++ [x]) = madeM by' pre ++ [rr] by rw [madeM_snoc, HPI.out, hrr]; simp)
        have h0 : wz.cell? ⟨Hb, 0, none⟩ = some (.bool true) := hb_cell HC.out (j := 0) rfl
        have h1 : wz.cell? ⟨Hb, 1, none⟩ = some (.string rt) := hb_cell HC.out (j := 1) rfl
        have p0 : wz.cell? ⟨B, 0, none⟩ = some (.string x.p) := BX.out.cell (j := 0) rfl
        have m0 := MG.out.bx.cell
        have m1 := MG.out.bx.frozen
        have B4 : Hid (Boxed wz (w.heap.size + 1) 24 (.slice none 0 0)) := Lib.hid ((MG.out.mv.block _ FV.out.r4.lt (fun e => by rcases e with e | e <;> omega)).trans FV.out.r4)
        have B5 : Hid (Boxed wz (w.heap.size + 1 + 1) 31 (.int .i64 0)) := Lib.hid ((MG.out.mv.block _ FV.out.r5.lt (fun e => by rcases e with e | e <;> omega)).trans FV.out.r5)
        by_cases h32 : (madeM by' pre).length = 32
        · have d32 : (((madeM by' pre).length : Int) == 32) = true := by simp; omega
          have z4 := B4.out.cell
          have u4 := B4.out.frozen
          have z5 := B5.out.cell
          have u5 := B5.out.frozen
          gi_wp2
          have E4 := (B4.out.set (.slice none 0 0)).kept (grownBy_setCell' _ (w.heap.size + 1 + 1) (.int .i64 6)) (by simp)
          have E5 := (B5.out.kept (grownBy_setCell' _ (w.heap.size + 1) (.slice none 0 0)) (by simp)).set (.int .i64 6)
          refine ⟨KF.out.trans (((KeepsOthers.setCell _ _ _).from _).trans ((KeepsOthers.setCell _ _ _).from _)), rfl, by rw [HPN.out, List.length_append]; simp; omega, E4, E5, ?_⟩
          exact ((MG.out.mv.mono (S' := fun x => w.heap.size ≤ x) fun b hb => .inl (by rcases hb with e | e <;> omega)).set_ (p := ⟨w.heap.size + 1, 0, none⟩) (.inl (by show w.heap.size ≤ w.heap.size + 1; omega)) _).set_ (p := ⟨w.heap.size + 1 + 1, 0, none⟩) (.inl (by show w.heap.size ≤ w.heap.size + 1 + 1; omega)) _
        · have d32 : (((madeM by' pre).length : Int) == 32) = false := by simp; omega
          obtain ⟨i0, hi, hz, hz1, hz2⟩ := info_parts info_row
          subst rr
          have hone := fun w' => one_row ⟨x.p, rt⟩ w'
          gi_wp2_with (first
            | (gi_at_builtin; refine wpListIn_append_own (wz.alloc (.cells (Rw.cells ⟨x.p, rt⟩).toArray 70)) rfl _ _ 22 rfl V.heap.size 70 i0 _ 2 32 Try.underlying22 hi hz hz1 hz2 rfl (by omega) (.slice Av (madeM by' pre).length cv) (madeM by' pre).length ((madeM by' pre).flatMap Rw.cells) rfl (MG.out.own.alloc _) ⟨wz.heap.size, 0, none⟩ 1 1 (Rw.cells ⟨x.p, rt⟩) rfl rfl (World.news_of_block (heap_alloc_new wz _)) (by intro u hu; exact rw_one [⟨x.p, rt⟩] u (by simpa using hu)) (by unfold maxLen; omega) (by omega) (by have := MG.out.mv.size; simp; omega) ?_; intro v' w1 hown5 hg5 hni5; obtain ⟨A5, c5, hv5⟩ := own_shape hown5; subst v'; have APP := Lib.hid (MG.out.app (W := wz) (tmp := .cells (Rw.cells ⟨x.p, rt⟩).toArray 70) hown5 hg5); have STR := Lib.hid (MG.out.app_str (by decide) (by decide) hg5 (.slice A5 ((madeM by' pre).length + 1) c5)); have SBK := Lib.hid (fun As' m' cs' (hq : Boxed wz w.heap.size 34 (.slice As' m' cs')) => (show Boxed (w1.setCell ⟨w.heap.size + 1 + 1 + 1, 0, none⟩ (.slice A5 ((madeM by' pre).length + 1) c5)) w.heap.size 34 (.slice As' m' cs') from (((hq.alloc _).kept hg5 (fun e => by have := MG.out.own_ge e.symm; have := FV.out.sz; omega)).kept (grownBy_setCell' _ (w.heap.size + 1 + 1 + 1) _) (by simp; omega)))); have x0 := APP.out.1.cell; have x1 := APP.out.1.frozen; clear hown5 hg5 hni5)
            | fail)
          refine ⟨KF.out.trans APP.out.2.2.1, KP.out.trans ⟨APP.out.2.2.2.mono fun b hb => .inl ?_, STR.out⟩, ⟨.slice A5 ((madeM by' pre).length + 1) c5, ?_⟩, by rw [HPN.out, List.length_append]; simp; omega, ?_⟩
          · obtain ⟨g0, g1, g2, g3⟩ := HBL.out
            have g4 := FV.out.sz
            rcases hb with rfl | hb
            · exact ⟨by omega, by omega, by omega, by omega⟩
            · exact ⟨by omega, by omega, by omega, by omega⟩
          · rw [HPN.out, List.length_append, List.flatMap_append]
            simpa using APP.out.2.1
          · obtain ⟨As', cs', hq1, hq2⟩ := SB.out
            exact ⟨As', cs', SBK.out _ _ _ hq1, hq2⟩
    · obtain ⟨ch, rest, hd1, hd2, hcp, hcm⟩ := said_next HPR.out HCX.out HF.out
      have hfd : findW Ch.p by' x.p = some ch := by rw [← hcp]; exact findW_self HU.out hcm
      have HPI := Lib.hid (show pieceM by' x = if ch.is then [⟨x.p, ch.t⟩] else [] by unfold pieceM hasM; rw [HCX.out, hfd]; rfl)
      have hcf : (cfs (pre ++ [x])).length = (cfs pre).length + 1 := by rw [cfs_snoc, HCX.out]; simp
      have HCF := Lib.hid hcf
      have hsq := HSQ.out
      rw [hd1] at hsq
      obtain ⟨m1, hm1'⟩ : ∃ m1, n - (cfs pre).length = m1 + 1 := ⟨rest.length, by have := hsq.len; simpa using this.symm⟩
      rw [hm1'] at hsq
      have hsb := HSB.out
      rw [hm1'] at hsb
      have HSQ1 := Lib.hid hsq
      have HSB1 := Lib.hid hsb
      have HD2 := Lib.hid hd2
      have HM1 := Lib.hid hm1'
      obtain ⟨b, o, hAs, hbl, hrg⟩ := hsq.pos (by omega)
      subst As
      rw [List.flatMap_cons, rangeAt_app] at hrg
      obtain ⟨cp, ci, ct⟩ := ch
      have HRG := Lib.hid hrg.1
      clear hd1 hd2 hcp hcm hfd hcf hsq hsb hm1' hrg
      simp only at HPI
      gi_upto_region 6 with (first | (gi_at_call 38; with_reducible refine CallsIn.mono (CallsIn.inRound lp (callsIn_wide.2 HCT.out)) ?_; rintro e w7 ⟨rfl, hb7⟩; have B67 := Lib.hid hb7; clear hb7) | fail)
      clear z0 z1 z2 z3 z4 z5 z6
      have BW7 := Lib.hid (BW6.out.trans (B67.out.mono BW6.out.size))
      have MG7 := Lib.hid (HMG.out.below BW7.out)
      have BX7 := Lib.hid (HBX.out.below BW7.out)
      have HC7 : Hid (w7.heap[Hb]? = some (Obj.cells #[.bool r.is, .string r.t] 41 (0, 0))) := Lib.hid (by rw [B67.out.block _ (Array.getElem?_eq_some_iff.1 HC6.out).1]; exact HC6.out)
      have SB7 : Hid (Boxed w7 w.heap.size 34 (.slice (some ⟨b, o, none⟩) (m1 + 1) cs)) := Lib.hid ((BW7.out.block _ HSB1.out.lt).trans HSB1.out)
      have hbT : ¬ (b = w.heap.size + 1 + 1 + 1 ∨ b = w.heap.size) := by omega
      have s0 := SB7.out.cell
      have e1 : w7.cell? ⟨b, o + 1, none⟩ = some (.bool ci) := MG7.out.mv.cell (HRG.out 1 _ rfl) hbT
      have e2 : w7.cell? ⟨b, o + 2, none⟩ = some (.string ct) := MG7.out.mv.cell (HRG.out 2 _ rfl) hbT
      have hp1 : (0 : Int) < (m1 : Int) + 1 := by omega
      refine wpIn_region_bar 9 9 (fun w' => w'.cell? ⟨w.heap.size, 0, none⟩ = some (.slice (some ⟨b, o, none⟩) (m1 + 1) cs) ∧ w'.cell? ⟨b, o + 1, none⟩ = some (.bool ci) ∧ w'.cell? ⟨b, o + 2, none⟩ = some (.string ct)) (by kernel_rfl) (by kernel_rfl) (by kernel_rfl) ⟨s0, e1, e2⟩ ?_
      simp only [List.take_succ_cons, List.take_zero, List.drop_succ_cons, List.drop_zero, List.take_nil, List.drop_nil]
      refine ⟨_, .inl ⟨rfl, fun w' hw' => (by obtain ⟨h1, h2, h3⟩ := hw'; go_simp; (try rfl))⟩, ?_⟩
      refine ⟨_, .inl ⟨rfl, fun w' hw' => (by obtain ⟨h1, h2, h3⟩ := hw'; go_simp; (try rfl))⟩, ?_⟩
      refine ⟨_, .inl ⟨rfl, fun w' hw' => (by obtain ⟨h1, h2, h3⟩ := hw'; go_simp; (try rfl))⟩, ?_⟩
      refine ⟨_, .inl ⟨rfl, fun w' hw' => (by obtain ⟨h1, h2, h3⟩ := hw'; go_simp; (try rfl))⟩, ?_⟩
      refine ⟨_, .inl ⟨rfl, fun w' hw' => (by obtain ⟨h1, h2, h3⟩ := hw'; go_simp; (try rfl))⟩, ?_⟩
      refine ⟨_, .inl ⟨rfl, fun w' hw' => (by obtain ⟨h1, h2, h3⟩ := hw'; go_simp; (try rfl))⟩, ?_⟩
      refine ⟨_, .inl ⟨rfl, fun w' hw' => (by obtain ⟨h1, h2, h3⟩ := hw'; go_simp; (try rfl))⟩, ?_⟩
      refine ⟨_, .inl ⟨rfl, fun w' hw' => (by obtain ⟨h1, h2, h3⟩ := hw'; go_simp; (try rfl))⟩, ?_⟩
      refine ⟨_, .inl ⟨rfl, fun w' hw' => (by obtain ⟨h1, h2, h3⟩ := hw'; go_simp; (try rfl))⟩, ?_⟩
      rw [wpHead_nil, wpMid_nil]
      simp only [Act.put, List.setIfInBounds_toArray, List.set_cons_succ, List.set_cons_zero]
      have y0 : w7.cell? ⟨Hb, 0, none⟩ = some (.bool r.is) := hb_cell HC7.out (j := 0) rfl
      have y1 : w7.cell? ⟨Hb, 1, none⟩ = some (.string r.t) := hb_cell HC7.out (j := 1) rfl
      have f0 := hb_free (j := 0) HC7.out
      have f1 := hb_free (j := 1) HC7.out
      go_wp2
      refine Calm.normal ?_
      obtain ⟨w8, hw8⟩ : ∃ w8, ((w7.setCell ⟨Hb, 0, none⟩ (.bool ci)).setCell ⟨Hb, 1, none⟩ (.string ct)).drew = w8 := ⟨_, rfl⟩
      have ge := HGE.out
      have g4 := FV.out.sz
      have hne := MG7.out.own_ne HC7.out (by decide)
      have MG8 : Hid (Mg V (fun b => b = w.heap.size + 1 + 1 + 1 ∨ b = w.heap.size) (w.heap.size + 1 + 1 + 1) 24 70 2 (.slice Av (madeM by' pre).length cv) (madeM by' pre).length ((madeM by' pre).flatMap Rw.cells) w8) := Lib.hid (by
        rw [← hw8]
        exact ((MG7.out.other (.inr ⟨ge, hne⟩) (by omega) 0 (.bool ci)).other (.inr ⟨ge, hne⟩) (by omega) 1 (.string ct)).below ((Below.refl _ _).drew))
      have SB8 : Hid (Boxed w8 w.heap.size 34 (.slice (some ⟨b, o, none⟩) (m1 + 1) cs)) := Lib.hid (by
        rw [← hw8]
        exact ((Below.heap_setCell _ ⟨Hb, 1, none⟩ _ _ (by show w.heap.size ≠ Hb; omega)).trans ((Below.heap_setCell w7 ⟨Hb, 0, none⟩ _ _ (by show w.heap.size ≠ Hb; omega)).trans SB7.out)))
      have HC8 : Hid (w8.heap[Hb]? = some (Obj.cells #[.bool ci, .string ct] 41 (0, 0))) := Lib.hid (by rw [← hw8]; exact hb_set HC7.out _ _)
      have BX8 : Hid (Bx V B x w8) := Lib.hid (by
        rw [← hw8]
        refine ⟨(Below.heap_setCell _ ⟨Hb, 1, none⟩ _ _ ?_).trans ((Below.heap_setCell w7 ⟨Hb, 0, none⟩ _ _ ?_).trans BX7.out.blk), BX7.out.ge⟩ <;>
        · show B ≠ Hb
          intro e
          have h1 := BX7.out.blk
          rw [e, HC7.out] at h1
          injection h1 with h1
          injection h1 with _ h2
          cases h2)
      have KF8 : Hid (KeepsFrom V.heap.size W w8) := Lib.hid (by
        rw [← hw8]
        exact (keeps_below BW7.out).trans ((((KeepsOthers.setCell _ _ _).from _).trans ((KeepsOthers.setCell _ _ _).from _)).trans (keeps_below (Below.refl _ _).drew)))
      have KP8 : Hid (Kp3 n₀ Ba Bb Bc W w8) := Lib.hid (by
        obtain ⟨g0, g1, g2, g3⟩ := HBL.out
        rw [← hw8]
        refine (Kp3.below BW7.out).trans (Kp3.trans (W' := (w7.setCell ⟨Hb, 0, none⟩ (.bool ci)).setCell ⟨Hb, 1, none⟩ (.string ct)) ⟨((Mv.refl _ _).set_ (p := ⟨Hb, 0, none⟩) (.inl ⟨by show n₀ ≤ Hb; omega, by show Hb ≠ Ba; omega, by show Hb ≠ Bb; omega, by show Hb ≠ Bc; omega⟩) _).set_ (p := ⟨Hb, 1, none⟩) (.inl ⟨by show n₀ ≤ Hb; omega, by show Hb ≠ Ba; omega, by show Hb ≠ Bb; omega, by show Hb ≠ Bc; omega⟩) _, ?_⟩ (Kp3.below (Below.refl _ _).drew))
        intro j c fr hj
        exact set_str (hb_set1 HC7.out _) (by decide) 1 (.string ct) j c fr (set_str HC7.out (by decide) 0 (.bool ci) j c fr hj))
      rw [hw8]
      clear hw8 s0 e1 e2 y0 y1 f0 f1 hne
      have s0 := SB8.out.cell
      have s1 := SB8.out.frozen
      have hsl := fun w' => slice_one (some ⟨b, o, none⟩) m1 cs (by have := HSQ1.out.cap; omega) w'
      obtain ⟨At, hAt⟩ : ∃ At, tlA (some ⟨b, o, none⟩) cs = At := ⟨_, rfl⟩
      obtain ⟨ct', hct'⟩ : ∃ ct', cs - 1 = ct' := ⟨_, rfl⟩
      have HTL := Lib.hid (by have T := sq_tail HSQ1.out; rw [hAt, hct'] at T; exact T : SqC V w.heap.size At m1 ct' rest)
      rw [hAt, hct'] at hsl
      clear hAt hct'
      gi_upto_region 8 with fail
      obtain ⟨wz, hwz⟩ : ∃ wz, w8.setCell ⟨w.heap.size, 0, none⟩ (.slice At m1 ct') = wz := ⟨_, rfl⟩
      have MG : Hid (Mg V (fun b => b = w.heap.size + 1 + 1 + 1 ∨ b = w.heap.size) (w.heap.size + 1 + 1 + 1) 24 70 2 (.slice Av (madeM by' pre).length cv) (madeM by' pre).length ((madeM by' pre).flatMap Rw.cells) wz) := Lib.hid (by
        rw [← hwz]
        exact MG8.out.other (.inl (.inr rfl)) (by omega) 0 _)
      have HC : Hid (wz.heap[Hb]? = some (Obj.cells #[.bool ci, .string ct] 41 (0, 0))) := Lib.hid (by rw [← hwz]; exact (Below.heap_setCell w8 ⟨w.heap.size, 0, none⟩ _ _ (by show Hb ≠ w.heap.size; omega)).trans HC8.out)
      have BX : Hid (Bx V B x wz) := Lib.hid (by rw [← hwz]; exact ⟨(Below.heap_setCell w8 ⟨w.heap.size, 0, none⟩ _ _ (by show B ≠ w.heap.size; have := BX8.out.ge; omega)).trans BX8.out.blk, BX8.out.ge⟩)
      have KF : Hid (KeepsFrom V.heap.size W wz) := Lib.hid (by rw [← hwz]; exact KF8.out.trans ((KeepsOthers.setCell _ _ _).from _))
      have KP : Hid (Kp3 n₀ Ba Bb Bc W wz) := Lib.hid (by
        obtain ⟨g0, g1, g2, g3⟩ := HBL.out
        rw [← hwz]
        exact KP8.out.trans ⟨(Mv.refl _ _).set_ (p := ⟨w.heap.size, 0, none⟩) (.inl ⟨by show n₀ ≤ w.heap.size; omega, by show w.heap.size ≠ Ba; omega, by show w.heap.size ≠ Bb; omega, by show w.heap.size ≠ Bc; omega⟩) _, set_str SB8.out (by decide) 0 _⟩)
      have SB : Hid (∃ As' cs', Boxed wz w.heap.size 34 (.slice As' (n - (cfs (pre ++ [x])).length) cs') ∧ SqC V w.heap.size As' (n - (cfs (pre ++ [x])).length) cs' (by'.drop (cfs (pre ++ [x])).length)) := Lib.hid (by
        have hh := HM1.out
        rw [HCF.out, HD2.out, show n - ((cfs pre).length + 1) = m1 by omega, ← hwz]
        exact ⟨At, ct', SB8.out.set _, HTL.out⟩)
      rw [hwz]
      clear hwz s0 s1 hsl hp1 hbT ge g4
      obtain ⟨ri, hri⟩ : ∃ ri, ri = ci := ⟨_, rfl⟩
      subst hri
      obtain ⟨rt, hrt⟩ : ∃ rt, rt = ct := ⟨_, rfl⟩
      subst hrt
      cases ri
      · have HPN := Lib.hid (show madeM by' (pre ++ [x]) = madeM by' pre by rw [madeM_snoc, HPI.out]; simp)
        have h0 : wz.cell? ⟨Hb, 0, none⟩ = some (.bool false) := hb_cell HC.out (j := 0) rfl
        gi_wp2
        exact ⟨KF.out, KP.out, ⟨.slice Av (madeM by' pre).length cv, by rw [HPN.out]; exact MG.out⟩, by rw [HPN.out]; exact hlen, SB.out⟩
      · obtain ⟨rr, hrr⟩ : ∃ rr : Rw, rr = ⟨x.p, rt⟩ := ⟨_, rfl⟩
        have HPN := Lib.hid (show madeM by' (pre ++ [x]) = madeM by' pre ++ [rr] by rw [madeM_snoc, HPI.out, hrr]; simp)
        have h0 : wz.cell? ⟨Hb, 0, none⟩ = some (.bool true) := hb_cell HC.out (j := 0) rfl
        have h1 : wz.cell? ⟨Hb, 1, none⟩ = some (.string rt) := hb_cell HC.out (j := 1) rfl
        have p0 : wz.cell? ⟨B, 0, none⟩ = some (.string x.p) := BX.out.cell (j := 0) rfl
        have m0 := MG.out.bx.cell
        have m1 := MG.out.bx.frozen
        have B4 : Hid (Boxed wz (w.heap.size + 1) 24 (.slice none 0 0)) := Lib.hid ((MG.out.mv.block _ FV.out.r4.lt (fun e => by rcases e with e | e <;> omega)).trans FV.out.r4)
        have B5 : Hid (Boxed wz (w.heap.size + 1 + 1) 31 (.int .i64 0)) := Lib.hid ((MG.out.mv.block _ FV.out.r5.lt (fun e => by rcases e with e | e <;> omega)).trans FV.out.r5)
        by_cases h32 : (madeM by' pre).length = 32
        · have d32 : (((madeM by' pre).length : Int) == 32) = true := by simp; omega
          have z4 := B4.out.cell
          have u4 := B4.out.frozen
          have z5 := B5.out.cell
          have u5 := B5.out.frozen
          gi_wp2
          have E4 := (B4.out.set (.slice none 0 0)).kept (grownBy_setCell' _ (w.heap.size + 1 + 1) (.int .i64 6)) (by simp)
          have E5 := (B5.out.kept (grownBy_setCell' _ (w.heap.size + 1) (.slice none 0 0)) (by simp)).set (.int .i64 6)
          refine ⟨KF.out.trans (((KeepsOthers.setCell _ _ _).from _).trans ((KeepsOthers.setCell _ _ _).from _)), rfl, by rw [HPN.out, List.length_append]; simp; omega, E4, E5, ?_⟩
          exact ((MG.out.mv.mono (S' := fun x => w.heap.size ≤ x) fun b hb => .inl (by rcases hb with e | e <;> omega)).set_ (p := ⟨w.heap.size + 1, 0, none⟩) (.inl (by show w.heap.size ≤ w.heap.size + 1; omega)) _).set_ (p := ⟨w.heap.size + 1 + 1, 0, none⟩) (.inl (by show w.heap.size ≤ w.heap.size + 1 + 1; omega)) _
        · have d32 : (((madeM by' pre).length : Int) == 32) = false := by simp; omega
          obtain ⟨i0, hi, hz, hz1, hz2⟩ := info_parts info_row
          subst rr
          have hone := fun w' => one_row ⟨x.p, rt⟩ w'
          gi_wp2_with (first
            | (gi_at_builtin; refine wpListIn_append_own (wz.alloc (.cells (Rw.cells ⟨x.p, rt⟩).toArray 70)) rfl _ _ 22 rfl V.heap.size 70 i0 _ 2 32 Try.underlying22 hi hz hz1 hz2 rfl (by omega) (.slice Av (madeM by' pre).length cv) (madeM by' pre).length ((madeM by' pre).flatMap Rw.cells) rfl (MG.out.own.alloc _) ⟨wz.heap.size, 0, none⟩ 1 1 (Rw.cells ⟨x.p, rt⟩) rfl rfl (World.news_of_block (heap_alloc_new wz _)) (by intro u hu; exact rw_one [⟨x.p, rt⟩] u (by simpa using hu)) (by unfold maxLen; omega) (by omega) (by have := MG.out.mv.size; simp; omega) ?_; intro v' w1 hown5 hg5 hni5; obtain ⟨A5, c5, hv5⟩ := own_shape hown5; subst v'; have APP := Lib.hid (MG.out.app (W := wz) (tmp := .cells (Rw.cells ⟨x.p, rt⟩).toArray 70) hown5 hg5); have STR := Lib.hid (MG.out.app_str (by decide) (by decide) hg5 (.slice A5 ((madeM by' pre).length + 1) c5)); have SBK := Lib.hid (fun As' m' cs' (hq : Boxed wz w.heap.size 34 (.slice As' m' cs')) => (show Boxed (w1.setCell ⟨w.heap.size + 1 + 1 + 1, 0, none⟩ (.slice A5 ((madeM by' pre).length + 1) c5)) w.heap.size 34 (.slice As' m' cs') from (((hq.alloc _).kept hg5 (fun e => by have := MG.out.own_ge e.symm; have := FV.out.sz; omega)).kept (grownBy_setCell' _ (w.heap.size + 1 + 1 + 1) _) (by simp; omega)))); have x0 := APP.out.1.cell; have x1 := APP.out.1.frozen; clear hown5 hg5 hni5)
            | fail)
          refine ⟨KF.out.trans APP.out.2.2.1, KP.out.trans ⟨APP.out.2.2.2.mono fun b hb => .inl ?_, STR.out⟩, ⟨.slice A5 ((madeM by' pre).length + 1) c5, ?_⟩, by rw [HPN.out, List.length_append]; simp; omega, ?_⟩
          · obtain ⟨g0, g1, g2, g3⟩ := HBL.out
            have g4 := FV.out.sz
            rcases hb with rfl | hb
            · exact ⟨by omega, by omega, by omega, by omega⟩
            · exact ⟨by omega, by omega, by omega, by omega⟩
          · rw [HPN.out, List.length_append, List.flatMap_append]
            simpa using APP.out.2.1
          · obtain ⟨As', cs', hq1, hq2⟩ := SB.out
            exact ⟨As', cs', SBK.out _ _ _ hq1, hq2⟩
  case done =>
    rintro D ys W hD rfl ⟨⟨v, hmg⟩, hlen, As, cs, hsb, hsq⟩ hK
    obtain ⟨Av, cv, hv⟩ := own_shape hmg.own
    subst v
    have e0 : er = 0 := by rw [← HER.out]; unfold mergedE; rw [if_neg]; unfold mergedW; omega
    subst e0
    have e1 : Lr = madeM by' (plsW l1 l2 l3) := by rw [← HLR.out, HER.out]; rfl
    obtain ⟨L, hL⟩ : ∃ L, madeM by' (plsW l1 l2 l3) = L := ⟨_, rfl⟩
    rw [hL] at hmg hlen e1
    subst e1
    clear hL hsb hsq
    have Y4 : Hid (Boxed W (w.heap.size + 1) 24 (.slice none 0 0)) := Lib.hid ((hmg.mv.block _ FV.out.r4.lt (fun e => by rcases e with e | e <;> omega)).trans FV.out.r4)
    have Y5 : Hid (Boxed W (w.heap.size + 1 + 1) 31 (.int .i64 0)) := Lib.hid ((hmg.mv.block _ FV.out.r5.lt (fun e => by rcases e with e | e <;> omega)).trans FV.out.r5)
    have y0 := hmg.bx.cell
    have z4 := Y4.out.cell
    have z5 := Y5.out.cell
    have u4 := Y4.out.frozen
    have u5 := Y5.out.frozen
    have HMG := Lib.hid hmg
    have HK := Lib.hid hK
    clear hmg hK
    go_wp2
    have g4 := FV.out.sz
    have hne : ∀ b, b < V.heap.size → (Value.slice Av Lr.length cv).ownBlock = none ∨ (Value.slice Av Lr.length cv).ownBlock ≠ some b := fun b hb => by
      rcases hq : (Value.slice Av Lr.length cv).ownBlock with _ | g
      · exact .inl rfl
      · exact .inr fun e => by injection e with e; have := (HMG.out.own.lt g hq).1; omega
    have o1 := HMG.out.own.kept (grownBy_setCell' W (w.heap.size + 1) (.slice Av Lr.length cv)) (hne _ (by omega))
    have o2 := o1.kept (grownBy_setCell' _ (w.heap.size + 1 + 1) (.int .i64 0)) (hne _ (by omega))
    have E5 := (Y4.out.set (.slice Av Lr.length cv)).kept (grownBy_setCell' _ (w.heap.size + 1 + 1) (.int .i64 0)) (by simp)
    have E6 := (Y5.out.kept (grownBy_setCell' _ (w.heap.size + 1) (.slice Av Lr.length cv)) (by simp)).set (.int .i64 0)
    have hK2 : ((W.setCell ⟨w.heap.size + 1, 0, none⟩ (.slice Av Lr.length cv)).setCell ⟨w.heap.size + 1 + 1, 0, none⟩ (.int .i64 0)).heap[D]? = some (.deferred (some [])) :=
      (Below.heap_setCell _ _ _ D (fun e => by have e' : D = w.heap.size + 1 + 1 := e; omega)).trans ((Below.heap_setCell _ _ _ D (fun e => by have e' : D = w.heap.size + 1 := e; omega)).trans HK.out)
    have o3 := ownsRow_putObj o2 (.deferred none) hK2 rfl
    have hmv : Mv (fun x => w.heap.size ≤ x) V _ := ((HMG.out.mv.mono (S' := fun x => w.heap.size ≤ x) fun b hb => .inl (by rcases hb with e | e <;> omega)).set_ (p := ⟨w.heap.size + 1, 0, none⟩) (.inl (by show w.heap.size ≤ w.heap.size + 1; omega)) (.slice Av Lr.length cv)).set_ (p := ⟨w.heap.size + 1 + 1, 0, none⟩) (.inl (by show w.heap.size ≤ w.heap.size + 1 + 1; omega)) (.int .i64 0)
    have hmv2 := hmv.then (S' := fun x => w.heap.size ≤ x) (Mv.of_grown (grownBy_putObj' _ D (.deferred none)) fun g e => .inl (by cases e; omega)) (fun x hx => .inl hx)
    exact ends2_Mgd _ D _ _ _ _ rfl rfl hK2 E5 E6 ⟨⟨Av, Lr.length, cv, rfl, own_sq o3 rw_sz (by omega)⟩, FV.out.bel.trans (hmv2.below (fun b hb => hb) FV.out.bel.size)⟩
  case stop =>
    rintro D c pre W hD hSp ⟨rfl, hlen, hb4, hb5, hmv⟩ hK
    have HK := Lib.hid hK
    have H4 := Lib.hid hb4
    have H5 := Lib.hid hb5
    have HM := Lib.hid hmv
    have e0 : er = 6 := by rw [← HER.out]; unfold mergedE; rw [if_pos]; unfold mergedW; exact Nat.lt_of_lt_of_le hlen (madeM_le hSp)
    subst e0
    have e1 : Lr = [] := by rw [← HLR.out, HER.out]; rfl
    subst e1
    clear hK hb4 hb5 hmv
    refine wpIn_wide.2 ?_
    go_wp2
    have g4 := FV.out.sz
    have hmv2 := HM.out.then (S' := fun x => w.heap.size ≤ x) (Mv.of_grown (grownBy_putObj' _ D (.deferred none)) fun g e => .inl (by cases e; omega)) (fun x hx => .inl hx)
    exact ends2_Mgd _ D _ _ _ _ rfl rfl HK.out H4.out H5.out ⟨⟨none, 0, 0, rfl, Sq.nil_ rw_sz⟩, FV.out.bel.trans (hmv2.below (fun b hb => hb) FV.out.bel.size)⟩
end Go.Proofs.Ytkdmlffnkomdhaa
