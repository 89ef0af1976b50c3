/-
  MERGE: what the iterator over places tells, round by round, whatever the loop's body does that leaves the maps and rows of texts be.
-/
import Derived.RangeFuncNested
import Derived.RangeFuncBound
import Derived.RangeFuncCalls
import Derived.RangeFuncLeaves
import Derived.Shelf.Abstract
import Derived.Shelf.RegionOpen
import Derived.WalkKit
import Derived.OwnWalkIn
import Derived.TacticsInMore
import Derived.LoopNIn
import Derived.LoopIn
import Derived.Test.YtkdmlffnkomdhaaMb
import Derived.Test.YtkdmlffnkomdhaaTm
import Derived.Test.YtkdmlffnkomdhaaYp
namespace Go.Proofs.Ytkdmlffnkomdhaa
set_option linter.unusedVariables false
set_option linter.unusedSimpArgs false
open Go.RowKit Go.WideShapes Go.ChangeShapes Go.Deep Go.Shelf
attribute [local go_sem] Oper.semAt_some

theorem three_maps (A A' A2 : Option Addr) (n c n' c' n2 c2 : Nat) (w : World) : (Instr.buildSlice 71 3 #[(0, .agg #[.slice A n c]), (1, .agg #[.slice A' n' c']), (2, .agg #[.slice A2 n2 c2])]).run Try.prog w = .ok (.slice (some ⟨w.heap.size, 0, none⟩) 3 3) (w.alloc (.cells #[.slice A n c, .slice A' n' c', .slice A2 n2 c2] 24)) := by
  go_simp
theorem three_sq (A A' A2 : Option Addr) (n c n' c' n2 c2 : Nat) (l l' l2 : List Rw) (w : World) : Sq Mp.cells 1 (w.alloc (.cells #[.slice A n c, .slice A' n' c', .slice A2 n2 c2] 24)) (w.alloc (.cells #[.slice A n c, .slice A' n' c', .slice A2 n2 c2] 24)).heap.size (some ⟨w.heap.size, 0, none⟩) 3 3 [⟨A, n, c, l⟩, ⟨A', n', c', l'⟩, ⟨A2, n2, c2, l2⟩] :=
  ⟨rfl, Nat.le_refl _, by unfold maxLen; omega, (fun e => by cases e), mp_sz, fun _ => ⟨_, 0, rfl, by simp, (Lies.new w [.slice A n c, .slice A' n' c', .slice A2 n2 c2] 24).rg⟩⟩
theorem mp_all3 {P : Mp → Prop} {a b c : Mp} (h : P a) (k : P b) (j : P c) : ∀ m ∈ [a, b, c], P m := fun m hm => by
  rcases List.mem_cons.1 hm with rfl | hm
  · exact h
  · exact mp_all2 k j m hm

/-- What the three maps have at a path; the places. -/
def plW (lb lo lt : List Rw) (s : ByteArray) : Pl := ⟨s, sdW lb s, sdW lo s, sdW lt s⟩
def plsW (lb lo lt : List Rw) : List Pl := (pathsW Rw.p [] (lb ++ (lo ++ lt))).map (plW lb lo lt)

/-- What may turn while the loop runs; rows of texts never do. -/
def Tn3 (n₀ Ba Bb Bc : Nat) : Nat → Prop := fun b => n₀ ≤ b ∧ b ≠ Ba ∧ b ≠ Bb ∧ b ≠ Bc
structure Kp3 (n₀ Ba Bb Bc : Nat) (W W' : World) : Prop where
  mv : Mv (Tn3 n₀ Ba Bb Bc) W W'
  str : ∀ (k : Nat) (c : Array Value) (fr : Nat × Nat), W.heap[k]? = some (Obj.cells c 9 fr) → W'.heap[k]? = some (Obj.cells c 9 fr)
section
variable {n₀ Ba Bb Bc : Nat} {W W' W2 : World}
theorem Kp3.refl : Kp3 n₀ Ba Bb Bc W W := ⟨Mv.refl _ _, fun _ _ _ h => h⟩
theorem Kp3.trans (h : Kp3 n₀ Ba Bb Bc W W') (k : Kp3 n₀ Ba Bb Bc W' W2) : Kp3 n₀ Ba Bb Bc W W2 := ⟨h.mv.trans k.mv, fun j c fr hj => k.str j c fr (h.str j c fr hj)⟩
theorem Kp3.below (hb : Below W.heap.size W W') : Kp3 n₀ Ba Bb Bc W W' := ⟨Mv.of_below hb _, fun j c fr hj => by rw [hb.block j (Array.getElem?_eq_some_iff.1 hj).1]; exact hj⟩
theorem own_str {base : Nat} {v : Value} {n : Nat} {xs : List Value} (h : W.ownsRow base 9 1 v n xs) (hk : Kp3 n₀ Ba Bb Bc W W') : W'.ownsRow base 9 1 v n xs := by
  refine ⟨h.1, ?_⟩
  rcases h.2 with h2 | ⟨g, cap, cur, e, hb, hg, h3⟩
  · exact .inl h2
  · exact .inr ⟨g, cap, cur, e, hb, hk.str _ _ _ hg, h3⟩
theorem sq_mv3 {α : Type} {f : α → List Value} {k : Nat} {w w' : World} {B n c : Nat} {A : Option Addr} {l : List α} {S : Nat → Prop} (h : Sq f k w B A n c l) (hB : B ≤ w.heap.size) (hm : Mv S w w') (hS : ∀ b, b < B → ¬ S b) : Sq f k w' B A n c l :=
  ⟨h.len, h.cap, h.max, h.non, h.sz, fun hn => by
    obtain ⟨b, o, e, hlt, hc⟩ := h.pos hn
    exact ⟨b, o, e, hlt, rangeAt_keep hc (hm.block b (by omega) (hS b hlt))⟩⟩
structure T3 (W : World) (n₀ Ba Bb Bc : Nat) (A1 : Option Addr) (n1 c1 : Nat) (l1 : List Rw) (A2 : Option Addr) (n2 c2 : Nat) (l2 : List Rw) (A3 : Option Addr) (n3 c3 : Nat) (l3 : List Rw) : Prop where
  a : SqR W n₀ A1 n1 c1 l1
  b : SqR W n₀ A2 n2 c2 l2
  c : SqR W n₀ A3 n3 c3 l3
  n0 : n₀ ≤ W.heap.size
  xa : Lies W Ba 1 [.slice A1 n1 c1]
  xb : Lies W Bb 1 [.slice A2 n2 c2]
  xc : Lies W Bc 1 [.slice A3 n3 c3]
variable {A1 A2 A3 : Option Addr} {n1 c1 n2 c2 n3 c3 : Nat} {l1 l2 l3 : List Rw}
theorem T3.kp (h : T3 W n₀ Ba Bb Bc A1 n1 c1 l1 A2 n2 c2 l2 A3 n3 c3 l3) (hk : Kp3 n₀ Ba Bb Bc W W') : T3 W' n₀ Ba Bb Bc A1 n1 c1 l1 A2 n2 c2 l2 A3 n3 c3 l3 :=
  ⟨sq_mv3 h.a h.n0 hk.mv (fun b hb hS => by have := hS.1; omega), sq_mv3 h.b h.n0 hk.mv (fun b hb hS => by have := hS.1; omega), sq_mv3 h.c h.n0 hk.mv (fun b hb hS => by have := hS.1; omega), Nat.le_trans h.n0 hk.mv.size,
    h.xa.kp (hk.mv.block _ h.xa.lt fun hS => hS.2.1 rfl) hk.mv.size, h.xb.kp (hk.mv.block _ h.xb.lt fun hS => hS.2.2.1 rfl) hk.mv.size, h.xc.kp (hk.mv.block _ h.xc.lt fun hS => hS.2.2.2 rfl) hk.mv.size⟩
end
set_option maxRecDepth 100000 in
set_option maxHeartbeats 4000000 in
theorem places1 (n : Nat) (hn1 : 1 ≤ n) (l Ba Bb Bc n₀ : Nat) (A1 : Option Addr) (n1 c1 : Nat) (l1 : List Rw) (A2 : Option Addr) (n2 c2 : Nat) (l2 : List Rw) (A3 : Option Addr) (n3 c3 : Nat) (l3 : List Rw) (hm1 : n1 ≤ 1000) (hm2 : n2 ≤ 1000) (hm3 : n3 ≤ 1000)
    (J Jx : List Pl → World → Prop) (W : World) (hJ : AbidesFrom W.heap.size J)
    (hY : ∀ pre x W1, J pre W1 → pre.length < (plsW l1 l2 l3).length → YieldAt Fence.wide (n - 1) Try.prog l #[plV x] W1 fun e W' =>
      (e = .returned (.bool true) ∧ J (pre ++ [x]) W' ∧ Kp3 n₀ Ba Bb Bc W1 W') ∨ (e = .returned (.bool false) ∧ Jx (pre ++ [x]) W'))
    (hT : T3 W n₀ Ba Bb Bc A1 n1 c1 l1 A2 n2 c2 l2 A3 n3 c3 l3) (h0 : J [] W) :
    CallsIn Fence.wide n Try.prog 60 #[.func (.yield l) #[] #[], .pointer (some ⟨Ba, 0, none⟩), .pointer (some ⟨Bb, 0, none⟩), .pointer (some ⟨Bc, 0, none⟩)] W fun e W' => (∃ v, e = .returned v) ∧
      ((∃ ys, ys = plsW l1 l2 l3 ∧ J ys W') ∨ (∃ pre, pre <+: plsW l1 l2 l3 ∧ Jx pre W')) := by
  obtain ⟨wb, hwb⟩ : ∃ wb, W.alloc (.cells #[.slice A1 n1 c1, .slice A2 n2 c2, .slice A3 n3 c3] 24) = wb := ⟨_, rfl⟩
  have BB : Hid (Below W.heap.size W wb) := Lib.hid (by rw [← hwb]; exact (Below.refl _ _).alloc (Nat.le_refl _) _)
  have TB := Lib.hid (hT.kp (Kp3.below BB.out))
  have SQ := Lib.hid (by have T := three_sq A1 A2 A3 n1 c1 n2 c2 n3 c3 l1 l2 l3 W; rw [hwb] at T; exact T : Sq Mp.cells 1 wb wb.heap.size (some ⟨W.heap.size, 0, none⟩) 3 3 [⟨A1, n1, c1, l1⟩, ⟨A2, n2, c2, l2⟩, ⟨A3, n3, c3, l3⟩])
  have raw := Paths_own SQ.out (mp_all3 ⟨TB.out.a.more TB.out.n0, hm1⟩ ⟨TB.out.b.more TB.out.n0, hm2⟩ ⟨TB.out.c.more TB.out.n0, hm3⟩) (by omega)
  obtain ⟨ps, hps⟩ : ∃ ps, ps = pathsW Rw.p [] (l1 ++ (l2 ++ l3)) := ⟨_, rfl⟩
  simp only [List.flatMap_cons, List.flatMap_nil, List.append_nil] at raw
  rw [← hps] at raw
  have HPA := Lib.hid raw
  have HPL : Hid (plsW l1 l2 l3 = ps.map (plW l1 l2 l3)) := Lib.hid (by unfold plsW; rw [hps])
  have q0 := hT.xa.cell (j := 0) rfl
  have q1 := hT.xb.cell (j := 0) rfl
  have q2 := hT.xc.cell (j := 0) rfl
  have HW := Lib.hid hwb
  have HY := Lib.hid hY
  have HJ := Lib.hid hJ
  have H0 := Lib.hid h0
  clear hY hJ h0 raw hps hwb SQ
  refine callsIn_of_wp Try.func60 rfl trivial ?_ rfl
  simp only [Try.ntmps60, List.size_toArray, List.length_cons, List.length_nil, Nat.reduceAdd, Nat.reduceSub, Array.replicate_succ, Array.replicate_zero, List.push_toArray, List.append_toArray, List.nil_append, List.cons_append]
  refine wpIn_wide.2 ?_
  go_wp2_with fail
  rw [HW.out]
  refine HPA.out.mono ?_
  rintro e wp ⟨⟨A7, n7, c7, rfl, hn7, hs7, ho7⟩, hbp⟩
  have HB := Lib.hid (BB.out.trans (hbp.mono BB.out.size))
  have TP := Lib.hid (TB.out.kp (Kp3.below hbp))
  have HO := Lib.hid ho7
  have H1 := Lib.hid (HJ.out [] W wp none H0.out (only_of_below HB.out none) (fun r e => by cases e))
  have hpl := hs7.len
  clear hs7 ho7 hbp q0 q1 q2 HW HPA BB TB H0
  go_wp2_with fail
  refine (wpIn_wide (n := n)).1 ?_
  gi_loopw [13] (fun i wr => ∃ k : Nat, k ≤ n7 ∧ i = .int .i64 (k : Int) ∧ Hid (J ((plsW l1 l2 l3).take k) wr) ∧ Hid (Kp3 n₀ Ba Bb Bc wp wr) ∧ Hid (W.heap.size ≤ wr.heap.size)) (fun i _ => n7 - (intOf i).toNat)
  case atStart => exact ⟨0, Nat.zero_le _, rfl, H1, Lib.hid Kp3.refl, Lib.hid HB.out.size⟩
  case round =>
    obtain ⟨k, hk, rfl, hj, hkp, hsz⟩ := hrel
    have TW := Lib.hid (TP.out.kp hkp.out)
    by_cases hlt : k < n7
    · have hd : decide ((k : Int) < (n7 : Int)) = true := by simp; omega
      have hk0 : (0 : Int) ≤ (k : Int) := Int.natCast_nonneg _
      have hk1 : (k : Int) < (n7 : Int) := by omega
      have hoW := own_str HO.out hkp.out
      obtain ⟨b, o, rfl, hbl, hrg⟩ := (own_sq hoW sc_sz (by omega)).at_ hlt
      obtain ⟨s, hs⟩ : ∃ s, ps[k]'(by omega) = s := ⟨_, rfl⟩
      rw [hs] at hrg
      have r0 : wr.cell? ⟨b, o + k, none⟩ = some (.string s) := by have := hrg 0 _ rfl; simpa using this
      obtain ⟨x, hx⟩ : ∃ x, x = plW l1 l2 l3 s := ⟨_, rfl⟩
      have HLEN : Hid (k < (plsW l1 l2 l3).length) := Lib.hid (by rw [HPL.out, List.length_map]; omega)
      have HTK : Hid ((plsW l1 l2 l3).take (k + 1) = (plsW l1 l2 l3).take k ++ [x]) := Lib.hid (by
        rw [List.take_add_one, List.getElem?_eq_getElem HLEN.out]
        have : (plsW l1 l2 l3)[k]'HLEN.out = x := by
          have h2 : k < (ps.map (plW l1 l2 l3)).length := by rw [List.length_map]; omega
          have : (plsW l1 l2 l3)[k]'HLEN.out = (ps.map (plW l1 l2 l3))[k]'h2 := by congr 1
          rw [this, List.getElem_map, hs, hx]
        rw [this]; first | done | rfl)
      obtain ⟨s1, hs1⟩ : ∃ y, sdW l1 s = y := ⟨_, rfl⟩
      obtain ⟨s2, hs2⟩ : ∃ y, sdW l2 s = y := ⟨_, rfl⟩
      obtain ⟨s3, hs3⟩ : ∃ y, sdW l3 s = y := ⟨_, rfl⟩
      have hxv : x = ⟨s, s1, s2, s3⟩ := by rw [hx, ← hs1, ← hs2, ← hs3]; rfl
      have HXV := Lib.hid hxv
      have HS : Hid (∀ w', Below wr.heap.size wr w' → w'.rangeAt Ba 0 [.slice A1 n1 c1] ∧ w'.rangeAt Bb 0 [.slice A2 n2 c2] ∧ w'.rangeAt Bc 0 [.slice A3 n3 c3]) := Lib.hid fun w' hb => (by
        have T := TW.out.kp (Kp3.below hb)
        exact ⟨T.xa.rg, T.xb.rg, T.xc.rg⟩)
      have HC1 := Lib.hid (fun (w' : World) (hb : Below wr.heap.size wr w') => (by
        have T := TW.out.kp (Kp3.below hb)
        have C := side_any (T.a.more T.n0) (show n1 ≤ 1000000 by omega) s
        rw [hs1] at C
        exact C : Calls Try.prog 61 #[.agg #[.slice A1 n1 c1], .string s] w' fun e w2 => e = .returned (sdV s1) ∧ Below w'.heap.size w' w2))
      have HC2 := Lib.hid (fun (w' : World) (hb : Below wr.heap.size wr w') => (by
        have T := TW.out.kp (Kp3.below hb)
        have C := side_any (T.b.more T.n0) (show n2 ≤ 1000000 by omega) s
        rw [hs2] at C
        exact C : Calls Try.prog 61 #[.agg #[.slice A2 n2 c2], .string s] w' fun e w2 => e = .returned (sdV s2) ∧ Below w'.heap.size w' w2))
      have HC3 := Lib.hid (fun (w' : World) (hb : Below wr.heap.size wr w') => (by
        have T := TW.out.kp (Kp3.below hb)
        have C := side_any (T.c.more T.n0) (show n3 ≤ 1000000 by omega) s
        rw [hs3] at C
        exact C : Calls Try.prog 61 #[.agg #[.slice A3 n3 c3], .string s] w' fun e w2 => e = .returned (sdV s3) ∧ Below w'.heap.size w' w2))
      clear hrg hs hbl hoW hx hs1 hs2 hs3 hxv
      gi_wp2
      have hb0 := (Below.refl wr.heap.size wr).drew
      refine wpIn_region_yield 12 (S := fun w' => w'.rangeAt Ba 0 [.slice A1 n1 c1] ∧ w'.rangeAt Bb 0 [.slice A2 n2 c2] ∧ w'.rangeAt Bc 0 [.slice A3 n3 c3]) (by kernel_rfl) (by kernel_rfl) (HS.out _ hb0) (fun _ => ?_)
      simp only [List.take_succ_cons, List.take_zero, List.drop_succ_cons, List.drop_zero, List.size_toArray, List.length_cons, List.length_nil]
      refine wpAnyH_take (i := 0) rfl (by kernel_rfl) (by kernel_rfl) (by kernel_rfl) (fun _ _ _ h => h) (.inl ⟨rfl, fun w' hw' => (by clear hw'; go_simp; rfl)⟩) (HS.out _ hb0) ?_
      simp only [List.getElem_toArray, List.getElem_cons_zero, List.getElem_cons_succ, Act.put, List.setIfInBounds_toArray, List.set_cons_succ, List.set_cons_zero]
      refine wpAnyH_take (i := 1) rfl (by kernel_rfl) (by kernel_rfl) (by kernel_rfl) (fun _ _ _ h => h) (.inl ⟨rfl, fun w' hw' => (by clear hw'; go_simp; rfl)⟩) (HS.out _ hb0) ?_
      simp only [List.getElem_toArray, List.getElem_cons_zero, List.getElem_cons_succ, Act.put, List.setIfInBounds_toArray, List.set_cons_succ, List.set_cons_zero]
      refine wpAnyH_take (i := 2) rfl (by kernel_rfl) (by kernel_rfl) (by kernel_rfl) (fun _ _ _ h => h) (yieldsIf_load_mid rfl 24 _ rfl (Ba) (0) rfl ([.slice A1 n1 c1]) _ (fun w' hw' => hw'.1) Try.underlying24 rfl (size_map _ _ _)) (HS.out _ hb0) ?_
      simp only [List.getElem_toArray, List.getElem_cons_zero, List.getElem_cons_succ, Act.put, List.setIfInBounds_toArray, List.set_cons_succ, List.set_cons_zero]
      refine wpAnyH_take (i := 3) rfl (by kernel_rfl) (by kernel_rfl) (by kernel_rfl) (fun _ _ _ h => h) (.inl ⟨rfl, fun w' hw' => (by clear hw'; go_simp; rfl)⟩) (HS.out _ hb0) ?_
      simp only [List.getElem_toArray, List.getElem_cons_zero, List.getElem_cons_succ, Act.put, List.setIfInBounds_toArray, List.set_cons_succ, List.set_cons_zero]
      refine wpAnyH_take (i := 5) rfl (by kernel_rfl) (by kernel_rfl) (by kernel_rfl) (fun _ _ _ h => h) (yieldsIf_load_mid rfl 24 _ rfl (Bb) (0) rfl ([.slice A2 n2 c2]) _ (fun w' hw' => hw'.2.1) Try.underlying24 rfl (size_map _ _ _)) (HS.out _ hb0) ?_
      simp only [List.getElem_toArray, List.getElem_cons_zero, List.getElem_cons_succ, Act.put, List.setIfInBounds_toArray, List.set_cons_succ, List.set_cons_zero]
      refine wpAnyH_take (i := 6) rfl (by kernel_rfl) (by kernel_rfl) (by kernel_rfl) (fun _ _ _ h => h) (.inl ⟨rfl, fun w' hw' => (by clear hw'; go_simp; rfl)⟩) (HS.out _ hb0) ?_
      simp only [List.getElem_toArray, List.getElem_cons_zero, List.getElem_cons_succ, Act.put, List.setIfInBounds_toArray, List.set_cons_succ, List.set_cons_zero]
      refine wpAnyH_take (i := 8) rfl (by kernel_rfl) (by kernel_rfl) (by kernel_rfl) (fun _ _ _ h => h) (yieldsIf_load_mid rfl 24 _ rfl (Bc) (0) rfl ([.slice A3 n3 c3]) _ (fun w' hw' => hw'.2.2) Try.underlying24 rfl (size_map _ _ _)) (HS.out _ hb0) ?_
      simp only [List.getElem_toArray, List.getElem_cons_zero, List.getElem_cons_succ, Act.put, List.setIfInBounds_toArray, List.set_cons_succ, List.set_cons_zero]
      refine wpAnyH_take (i := 9) rfl (by kernel_rfl) (by kernel_rfl) (by kernel_rfl) (fun _ _ _ h => h) (.inl ⟨rfl, fun w' hw' => (by clear hw'; go_simp; rfl)⟩) (HS.out _ hb0) ?_
      simp only [List.getElem_toArray, List.getElem_cons_zero, List.getElem_cons_succ, Act.put, List.setIfInBounds_toArray, List.set_cons_succ, List.set_cons_zero]
      refine wpAnyH_ready (rs := [4]) (by kernel_rfl) (by simp) (AllReadyH.cons rfl (fun K hK => ?_) AllReadyH.nil)
      rw [if_pos (by rfl)]
      refine wp_fn (f := 61) (xs := #[.agg #[.slice A1 n1 c1], .string s]) (by first | (go_simp; done) | (go_simp; rfl)) ((HC1.out _ hb0).mono ?_)
      rintro e u1 ⟨rfl, hb4⟩
      have hb1 := hb0.trans (hb4.mono hb0.size)
      clear hb4
      refine ⟨_, rfl, hK.out _ _ (HS.out _ hb1) (fun _ => ?_)⟩
      simp only [List.getElem_toArray, List.getElem_cons_zero, List.getElem_cons_succ, Act.put, List.setIfInBounds_toArray, List.set_cons_succ, List.set_cons_zero]
      refine wpAnyH_ready (rs := [7]) (by kernel_rfl) (by simp) (AllReadyH.cons rfl (fun K hK => ?_) AllReadyH.nil)
      rw [if_pos (by rfl)]
      refine wp_fn (f := 61) (xs := #[.agg #[.slice A2 n2 c2], .string s]) (by first | (go_simp; done) | (go_simp; rfl)) ((HC2.out _ hb1).mono ?_)
      rintro e u2 ⟨rfl, hb4⟩
      have hb2 := hb1.trans (hb4.mono hb1.size)
      clear hb4
      refine ⟨_, rfl, hK.out _ _ (HS.out _ hb2) (fun _ => ?_)⟩
      simp only [List.getElem_toArray, List.getElem_cons_zero, List.getElem_cons_succ, Act.put, List.setIfInBounds_toArray, List.set_cons_succ, List.set_cons_zero]
      refine wpAnyH_ready (rs := [10]) (by kernel_rfl) (by simp) (AllReadyH.cons rfl (fun K hK => ?_) AllReadyH.nil)
      rw [if_pos (by rfl)]
      refine wp_fn (f := 61) (xs := #[.agg #[.slice A3 n3 c3], .string s]) (by first | (go_simp; done) | (go_simp; rfl)) ((HC3.out _ hb2).mono ?_)
      rintro e u3 ⟨rfl, hb4⟩
      have hb3 := hb2.trans (hb4.mono hb2.size)
      clear hb4
      refine ⟨_, rfl, hK.out _ _ (HS.out _ hb3) (fun _ => ?_)⟩
      simp only [List.getElem_toArray, List.getElem_cons_zero, List.getElem_cons_succ, Act.put, List.setIfInBounds_toArray, List.set_cons_succ, List.set_cons_zero]
      refine wpAnyH_take (i := 11) rfl (by kernel_rfl) (by kernel_rfl) (by kernel_rfl) (fun _ _ _ h => h) (.inl ⟨rfl, fun w' hw' => (by clear hw'; go_simp; rfl)⟩) (HS.out _ hb3) ?_
      simp only [List.getElem_toArray, List.getElem_cons_zero, List.getElem_cons_succ, Act.put, List.setIfInBounds_toArray, List.set_cons_succ, List.set_cons_zero]
      refine wpAnyH_done (by kernel_rfl) ?_ _
      show wpListIn _ _ _ _ _ _ _ _
      have HK3 := Lib.hid (hkp.out.trans (Kp3.below hb3))
      have HJ3 := Lib.hid (HJ.out _ wr u3 none hj.out ⟨hb3.os, hb3.tape, hb3.output, hb3.size, fun i hi _ => hb3.block i hi⟩ (fun r e => by cases e))
      have HZ3 := Lib.hid (Nat.le_trans hsz.out hb3.size)
      obtain ⟨fn, tmps, assign, body, hy, hR⟩ := HY.out _ x u3 HJ3.out (by rw [List.length_take]; have := HLEN.out; omega)
      rw [HXV.out] at hy
      clear hb0 hb1 hb2 hb3 r0 HC1 HC2 HC3 HS
      gi_wp2
      refine hR.mono ?_
      rintro e w3 (⟨rfl, hJ4, hk4⟩ | ⟨rfl, hJx4⟩)
      · have J4 := Lib.hid hJ4
        have K4 := Lib.hid (HK3.out.trans hk4)
        have Z4 := Lib.hid (Nat.le_trans HZ3.out hk4.mv.size)
        clear hJ4 hk4 hR hy
        gi_wp2
        go_roundw
        case rel => exact ⟨k + 1, by omega, by go_num, Lib.hid (by rw [HTK.out]; exact J4.out), K4, Z4⟩
        case measure => simp [intOf]; omega
      · have J4 := Lib.hid hJx4
        clear hJx4 hR hy
        gi_wp2
        refine bodyPost_ret (results_none rfl _ _ _) rfl ?_
        exact ⟨⟨_, rfl⟩, .inr ⟨_, by rw [← HTK.out]; exact List.take_prefix _ _, J4.out⟩⟩
    · have hd : decide ((k : Int) < (n7 : Int)) = false := by simp; omega
      have HF : Hid (J (plsW l1 l2 l3) wr) := Lib.hid (by
        have h := hj.out
        rwa [List.take_of_length_le (by rw [HPL.out, List.length_map]; omega)] at h)
      gi_wp2
      go_end0
      exact ⟨⟨_, rfl⟩, .inl ⟨_, rfl, HF.out⟩⟩
end Go.Proofs.Ytkdmlffnkomdhaa
