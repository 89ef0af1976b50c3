/-
  MERGE: the iterator over places, its elements in their order; a variable among others that turn; a slice's tail.
-/
import Derived.Test.YtgpakahmccafdaaMe
import Derived.Test.YtgpakahmccafdaaYp
namespace Go.Proofs.Ytgpakahmccafdaa
set_option linter.unusedVariables false
set_option linter.unusedSimpArgs false
open Go.RowKit Go.WideShapes Go.ChangeShapes Go.Deep Go.Shelf
attribute [local go_sem] Oper.semAt_some

set_option maxRecDepth 100000 in
set_option maxHeartbeats 4000000 in
theorem places2 (n : Nat) (hn1 : 1 ≤ n) (l Ba Bb Bc n₀ : Nat) (A1 : Option Addr) (n1 c1 : Nat) (l1 : List Rw) (A2 : Option Addr) (n2 c2 : Nat) (l2 : List Rw) (A3 : Option Addr) (n3 c3 : Nat) (l3 : List Rw) (hm1 : n1 ≤ 1000) (hm2 : n2 ≤ 1000) (hm3 : n3 ≤ 1000)
    (J Jx : List Pl → World → Prop) (W : World) (hJ : AbidesFrom W.heap.size J)
    (hY : ∀ pre x W1, J pre W1 → pre ++ [x] <+: plsW l1 l2 l3 → YieldAt Fence.wide (n - 1) Try.prog l #[plV x] W1 fun e W' =>
      (e = .returned (.bool true) ∧ J (pre ++ [x]) W' ∧ Kp3 n₀ Ba Bb Bc W1 W') ∨ (e = .returned (.bool false) ∧ Jx (pre ++ [x]) W'))
    (hT : T3 W n₀ Ba Bb Bc A1 n1 c1 l1 A2 n2 c2 l2 A3 n3 c3 l3) (h0 : J [] W) :
    CallsIn Fence.wide n Try.prog 60 #[.func (.yield l) #[] #[], .pointer (some ⟨Ba, 0, none⟩), .pointer (some ⟨Bb, 0, none⟩), .pointer (some ⟨Bc, 0, none⟩)] W fun e W' => (∃ v, e = .returned v) ∧
      ((∃ ys, ys = plsW l1 l2 l3 ∧ J ys W') ∨ (∃ pre, pre <+: plsW l1 l2 l3 ∧ Jx pre W')) := by
  obtain ⟨wb, hwb⟩ : ∃ wb, W.alloc (.cells #[.slice A1 n1 c1, .slice A2 n2 c2, .slice A3 n3 c3] 24) = wb := ⟨_, rfl⟩
  have BB : Hid (Below W.heap.size W wb) := Lib.hid (by rw [← hwb]; exact (Below.refl _ _).alloc (Nat.le_refl _) _)
  have TB := Lib.hid (hT.kp (Kp3.below BB.out))
  have SQ := Lib.hid (by have T := three_sq A1 A2 A3 n1 c1 n2 c2 n3 c3 l1 l2 l3 W; rw [hwb] at T; exact T : Sq Mp.cells 1 wb wb.heap.size (some ⟨W.heap.size, 0, none⟩) 3 3 [⟨A1, n1, c1, l1⟩, ⟨A2, n2, c2, l2⟩, ⟨A3, n3, c3, l3⟩])
  have raw := Paths_own SQ.out (mp_all3 ⟨TB.out.a.more TB.out.n0, hm1⟩ ⟨TB.out.b.more TB.out.n0, hm2⟩ ⟨TB.out.c.more TB.out.n0, hm3⟩) (by omega)
  obtain ⟨ps, hps⟩ : ∃ ps, ps = pathsW Rw.p [] (l1 ++ (l2 ++ l3)) := ⟨_, rfl⟩
  simp only [List.flatMap_cons, List.flatMap_nil, List.append_nil] at raw
  rw [← hps] at raw
  have HPA := Lib.hid raw
  have HPL : Hid (plsW l1 l2 l3 = ps.map (plW l1 l2 l3)) := Lib.hid (by unfold plsW; rw [hps])
  have q0 := hT.xa.cell (j := 0) rfl
  have q1 := hT.xb.cell (j := 0) rfl
  have q2 := hT.xc.cell (j := 0) rfl
  have HW := Lib.hid hwb
  have HY := Lib.hid hY
  have HJ := Lib.hid hJ
  have H0 := Lib.hid h0
  clear hY hJ h0 raw hps hwb SQ
  refine callsIn_of_wp Try.func60 rfl trivial ?_ rfl
  simp only [Try.ntmps60, List.size_toArray, List.length_cons, List.length_nil, Nat.reduceAdd, Nat.reduceSub, Array.replicate_succ, Array.replicate_zero, List.push_toArray, List.append_toArray, List.nil_append, List.cons_append]
  refine wpIn_wide.2 ?_
  go_wp2_with fail
  rw [HW.out]
  refine HPA.out.mono ?_
  rintro e wp ⟨⟨A7, n7, c7, rfl, hn7, hs7, ho7⟩, hbp⟩
  have HB := Lib.hid (BB.out.trans (hbp.mono BB.out.size))
  have TP := Lib.hid (TB.out.kp (Kp3.below hbp))
  have HO := Lib.hid ho7
  have H1 := Lib.hid (HJ.out [] W wp none H0.out (only_of_below HB.out none) (fun r e => by cases e))
  have hpl := hs7.len
  clear hs7 ho7 hbp q0 q1 q2 HW HPA BB TB H0
  go_wp2_with fail
  refine (wpIn_wide (n := n)).1 ?_
  gi_loopw [13] (fun i wr => ∃ k : Nat, k ≤ n7 ∧ i = .int .i64 (k : Int) ∧ Hid (J ((plsW l1 l2 l3).take k) wr) ∧ Hid (Kp3 n₀ Ba Bb Bc wp wr) ∧ Hid (W.heap.size ≤ wr.heap.size)) (fun i _ => n7 - (intOf i).toNat)
  case atStart => exact ⟨0, Nat.zero_le _, rfl, H1, Lib.hid Kp3.refl, Lib.hid HB.out.size⟩
  case round =>
    obtain ⟨k, hk, rfl, hj, hkp, hsz⟩ := hrel
    have TW := Lib.hid (TP.out.kp hkp.out)
    by_cases hlt : k < n7
    · have hd : decide ((k : Int) < (n7 : Int)) = true := by simp; omega
      have hk0 : (0 : Int) ≤ (k : Int) := Int.natCast_nonneg _
      have hk1 : (k : Int) < (n7 : Int) := by omega
      have hoW := own_str HO.out hkp.out
      obtain ⟨b, o, rfl, hbl, hrg⟩ := (own_sq hoW sc_sz (by omega)).at_ hlt
      obtain ⟨s, hs⟩ : ∃ s, ps[k]'(by omega) = s := ⟨_, rfl⟩
      rw [hs] at hrg
      have r0 : wr.cell? ⟨b, o + k, none⟩ = some (.string s) := by have := hrg 0 _ rfl; simpa using this
      obtain ⟨x, hx⟩ : ∃ x, x = plW l1 l2 l3 s := ⟨_, rfl⟩
      have HLEN : Hid (k < (plsW l1 l2 l3).length) := Lib.hid (by rw [HPL.out, List.length_map]; omega)
      have HTK : Hid ((plsW l1 l2 l3).take (k + 1) = (plsW l1 l2 l3).take k ++ [x]) := Lib.hid (by
        rw [List.take_add_one, List.getElem?_eq_getElem HLEN.out]
        have : (plsW l1 l2 l3)[k]'HLEN.out = x := by
          have h2 : k < (ps.map (plW l1 l2 l3)).length := by rw [List.length_map]; omega
          have : (plsW l1 l2 l3)[k]'HLEN.out = (ps.map (plW l1 l2 l3))[k]'h2 := by congr 1
          rw [this, List.getElem_map, hs, hx]
        rw [this]; first | done | rfl)
      obtain ⟨s1, hs1⟩ : ∃ y, sdW l1 s = y := ⟨_, rfl⟩
      obtain ⟨s2, hs2⟩ : ∃ y, sdW l2 s = y := ⟨_, rfl⟩
      obtain ⟨s3, hs3⟩ : ∃ y, sdW l3 s = y := ⟨_, rfl⟩
      have hxv : x = ⟨s, s1, s2, s3⟩ := by rw [hx, ← hs1, ← hs2, ← hs3]; rfl
      have HXV := Lib.hid hxv
      have HS : Hid (∀ w', Below wr.heap.size wr w' → w'.rangeAt Ba 0 [.slice A1 n1 c1] ∧ w'.rangeAt Bb 0 [.slice A2 n2 c2] ∧ w'.rangeAt Bc 0 [.slice A3 n3 c3]) := Lib.hid fun w' hb => (by
        have T := TW.out.kp (Kp3.below hb)
        exact ⟨T.xa.rg, T.xb.rg, T.xc.rg⟩)
      have HC1 := Lib.hid (fun (w' : World) (hb : Below wr.heap.size wr w') => (by
        have T := TW.out.kp (Kp3.below hb)
        have C := side_any (T.a.more T.n0) (show n1 ≤ 1000000 by omega) s
        rw [hs1] at C
        exact C : Calls Try.prog 61 #[.agg #[.slice A1 n1 c1], .string s] w' fun e w2 => e = .returned (sdV s1) ∧ Below w'.heap.size w' w2))
      have HC2 := Lib.hid (fun (w' : World) (hb : Below wr.heap.size wr w') => (by
        have T := TW.out.kp (Kp3.below hb)
        have C := side_any (T.b.more T.n0) (show n2 ≤ 1000000 by omega) s
        rw [hs2] at C
        exact C : Calls Try.prog 61 #[.agg #[.slice A2 n2 c2], .string s] w' fun e w2 => e = .returned (sdV s2) ∧ Below w'.heap.size w' w2))
      have HC3 := Lib.hid (fun (w' : World) (hb : Below wr.heap.size wr w') => (by
        have T := TW.out.kp (Kp3.below hb)
        have C := side_any (T.c.more T.n0) (show n3 ≤ 1000000 by omega) s
        rw [hs3] at C
        exact C : Calls Try.prog 61 #[.agg #[.slice A3 n3 c3], .string s] w' fun e w2 => e = .returned (sdV s3) ∧ Below w'.heap.size w' w2))
      clear hrg hs hbl hoW hx hs1 hs2 hs3 hxv
      gi_wp2
      have hb0 := (Below.refl wr.heap.size wr).drew
      refine wpIn_region_yield 12 (S := fun w' => w'.rangeAt Ba 0 [.slice A1 n1 c1] ∧ w'.rangeAt Bb 0 [.slice A2 n2 c2] ∧ w'.rangeAt Bc 0 [.slice A3 n3 c3]) (by kernel_rfl) (by kernel_rfl) (HS.out _ hb0) (fun _ => ?_)
      simp only [List.take_succ_cons, List.take_zero, List.drop_succ_cons, List.drop_zero, List.size_toArray, List.length_cons, List.length_nil]
      refine wpAnyH_take (i := 0) rfl (by kernel_rfl) (by kernel_rfl) (by kernel_rfl) (fun _ _ _ h => h) (.inl ⟨rfl, fun w' hw' => (by clear hw'; go_simp; rfl)⟩) (HS.out _ hb0) ?_
      simp only [List.getElem_toArray, List.getElem_cons_zero, List.getElem_cons_succ, Act.put, List.setIfInBounds_toArray, List.set_cons_succ, List.set_cons_zero]
      refine wpAnyH_take (i := 1) rfl (by kernel_rfl) (by kernel_rfl) (by kernel_rfl) (fun _ _ _ h => h) (.inl ⟨rfl, fun w' hw' => (by clear hw'; go_simp; rfl)⟩) (HS.out _ hb0) ?_
      simp only [List.getElem_toArray, List.getElem_cons_zero, List.getElem_cons_succ, Act.put, List.setIfInBounds_toArray, List.set_cons_succ, List.set_cons_zero]
      refine wpAnyH_take (i := 2) rfl (by kernel_rfl) (by kernel_rfl) (by kernel_rfl) (fun _ _ _ h => h) (yieldsIf_load_mid rfl 24 _ rfl (Ba) (0) rfl ([.slice A1 n1 c1]) _ (fun w' hw' => hw'.1) Try.underlying24 rfl (size_map _ _ _)) (HS.out _ hb0) ?_
      simp only [List.getElem_toArray, List.getElem_cons_zero, List.getElem_cons_succ, Act.put, List.setIfInBounds_toArray, List.set_cons_succ, List.set_cons_zero]
      refine wpAnyH_take (i := 3) rfl (by kernel_rfl) (by kernel_rfl) (by kernel_rfl) (fun _ _ _ h => h) (.inl ⟨rfl, fun w' hw' => (by clear hw'; go_simp; rfl)⟩) (HS.out _ hb0) ?_
      simp only [List.getElem_toArray, List.getElem_cons_zero, List.getElem_cons_succ, Act.put, List.setIfInBounds_toArray, List.set_cons_succ, List.set_cons_zero]
      refine wpAnyH_take (i := 5) rfl (by kernel_rfl) (by kernel_rfl) (by kernel_rfl) (fun _ _ _ h => h) (yieldsIf_load_mid rfl 24 _ rfl (Bb) (0) rfl ([.slice A2 n2 c2]) _ (fun w' hw' => hw'.2.1) Try.underlying24 rfl (size_map _ _ _)) (HS.out _ hb0) ?_
      simp only [List.getElem_toArray, List.getElem_cons_zero, List.getElem_cons_succ, Act.put, List.setIfInBounds_toArray, List.set_cons_succ, List.set_cons_zero]
      refine wpAnyH_take (i := 6) rfl (by kernel_rfl) (by kernel_rfl) (by kernel_rfl) (fun _ _ _ h => h) (.inl ⟨rfl, fun w' hw' => (by clear hw'; go_simp; rfl)⟩) (HS.out _ hb0) ?_
      simp only [List.getElem_toArray, List.getElem_cons_zero, List.getElem_cons_succ, Act.put, List.setIfInBounds_toArray, List.set_cons_succ, List.set_cons_zero]
      refine wpAnyH_take (i := 8) rfl (by kernel_rfl) (by kernel_rfl) (by kernel_rfl) (fun _ _ _ h => h) (yieldsIf_load_mid rfl 24 _ rfl (Bc) (0) rfl ([.slice A3 n3 c3]) _ (fun w' hw' => hw'.2.2) Try.underlying24 rfl (size_map _ _ _)) (HS.out _ hb0) ?_
      simp only [List.getElem_toArray, List.getElem_cons_zero, List.getElem_cons_succ, Act.put, List.setIfInBounds_toArray, List.set_cons_succ, List.set_cons_zero]
      refine wpAnyH_take (i := 9) rfl (by kernel_rfl) (by kernel_rfl) (by kernel_rfl) (fun _ _ _ h => h) (.inl ⟨rfl, fun w' hw' => (by clear hw'; go_simp; rfl)⟩) (HS.out _ hb0) ?_
      simp only [List.getElem_toArray, List.getElem_cons_zero, List.getElem_cons_succ, Act.put, List.setIfInBounds_toArray, List.set_cons_succ, List.set_cons_zero]
      refine wpAnyH_ready (rs := [4]) (by kernel_rfl) (by simp) (AllReadyH.cons rfl (fun K hK => ?_) AllReadyH.nil)
      rw [if_pos (by rfl)]
      refine wp_fn (f := 61) (xs := #[.agg #[.slice A1 n1 c1], .string s]) (by first | (go_simp; done) | (go_simp; rfl)) ((HC1.out _ hb0).mono ?_)
      rintro e u1 ⟨rfl, hb4⟩
      have hb1 := hb0.trans (hb4.mono hb0.size)
      clear hb4
      refine ⟨_, rfl, hK.out _ _ (HS.out _ hb1) (fun _ => ?_)⟩
      simp only [List.getElem_toArray, List.getElem_cons_zero, List.getElem_cons_succ, Act.put, List.setIfInBounds_toArray, List.set_cons_succ, List.set_cons_zero]
      refine wpAnyH_ready (rs := [7]) (by kernel_rfl) (by simp) (AllReadyH.cons rfl (fun K hK => ?_) AllReadyH.nil)
      rw [if_pos (by rfl)]
      refine wp_fn (f := 61) (xs := #[.agg #[.slice A2 n2 c2], .string s]) (by first | (go_simp; done) | (go_simp; rfl)) ((HC2.out _ hb1).mono ?_)
      rintro e u2 ⟨rfl, hb4⟩
      have hb2 := hb1.trans (hb4.mono hb1.size)
      clear hb4
      refine ⟨_, rfl, hK.out _ _ (HS.out _ hb2) (fun _ => ?_)⟩
      simp only [List.getElem_toArray, List.getElem_cons_zero, List.getElem_cons_succ, Act.put, List.setIfInBounds_toArray, List.set_cons_succ, List.set_cons_zero]
      refine wpAnyH_ready (rs := [10]) (by kernel_rfl) (by simp) (AllReadyH.cons rfl (fun K hK => ?_) AllReadyH.nil)
      rw [if_pos (by rfl)]
      refine wp_fn (f := 61) (xs := #[.agg #[.slice A3 n3 c3], .string s]) (by first | (go_simp; done) | (go_simp; rfl)) ((HC3.out _ hb2).mono ?_)
      rintro e u3 ⟨rfl, hb4⟩
      have hb3 := hb2.trans (hb4.mono hb2.size)
      clear hb4
      refine ⟨_, rfl, hK.out _ _ (HS.out _ hb3) (fun _ => ?_)⟩
      simp only [List.getElem_toArray, List.getElem_cons_zero, List.getElem_cons_succ, Act.put, List.setIfInBounds_toArray, List.set_cons_succ, List.set_cons_zero]
      refine wpAnyH_take (i := 11) rfl (by kernel_rfl) (by kernel_rfl) (by kernel_rfl) (fun _ _ _ h => h) (.inl ⟨rfl, fun w' hw' => (by clear hw'; go_simp; rfl)⟩) (HS.out _ hb3) ?_
      simp only [List.getElem_toArray, List.getElem_cons_zero, List.getElem_cons_succ, Act.put, List.setIfInBounds_toArray, List.set_cons_succ, List.set_cons_zero]
      refine wpAnyH_done (by kernel_rfl) ?_ _
      show wpListIn _ _ _ _ _ _ _ _
      have HK3 := Lib.hid (hkp.out.trans (Kp3.below hb3))
      have HJ3 := Lib.hid (HJ.out _ wr u3 none hj.out ⟨hb3.os, hb3.tape, hb3.output, hb3.size, fun i hi _ => hb3.block i hi⟩ (fun r e => by cases e))
      have HZ3 := Lib.hid (Nat.le_trans hsz.out hb3.size)
      obtain ⟨fn, tmps, assign, body, hy, hR⟩ := HY.out _ x u3 HJ3.out (by rw [← HTK.out]; exact List.take_prefix _ _)
      rw [HXV.out] at hy
      clear hb0 hb1 hb2 hb3 r0 HC1 HC2 HC3 HS
      gi_wp2
      refine hR.mono ?_
      rintro e w3 (⟨rfl, hJ4, hk4⟩ | ⟨rfl, hJx4⟩)
      · have J4 := Lib.hid hJ4
        have K4 := Lib.hid (HK3.out.trans hk4)
        have Z4 := Lib.hid (Nat.le_trans HZ3.out hk4.mv.size)
        clear hJ4 hk4 hR hy
        gi_wp2
        go_roundw
        case rel => exact ⟨k + 1, by omega, by go_num, Lib.hid (by rw [HTK.out]; exact J4.out), K4, Z4⟩
        case measure => simp [intOf]; omega
      · have J4 := Lib.hid hJx4
        clear hJx4 hR hy
        gi_wp2
        refine bodyPost_ret (results_none rfl _ _ _) rfl ?_
        exact ⟨⟨_, rfl⟩, .inr ⟨_, by rw [← HTK.out]; exact List.take_prefix _ _, J4.out⟩⟩
    · have hd : decide ((k : Int) < (n7 : Int)) = false := by simp; omega
      have HF : Hid (J (plsW l1 l2 l3) wr) := Lib.hid (by
        have h := hj.out
        rwa [List.take_of_length_le (by rw [HPL.out, List.length_map]; omega)] at h)
      gi_wp2
      go_end0
      exact ⟨⟨_, rfl⟩, .inl ⟨_, rfl, HF.out⟩⟩

theorem places_foll (n : Nat) (hn1 : 1 ≤ n) {V : World} {Ba Bb Bc n₀ : Nat} {A1 : Option Addr} {n1 c1 : Nat} {l1 : List Rw} {A2 : Option Addr} {n2 c2 : Nat} {l2 : List Rw} {A3 : Option Addr} {n3 c3 : Nat} {l3 : List Rw} (hT : T3 V n₀ Ba Bb Bc A1 n1 c1 l1 A2 n2 c2 l2 A3 n3 c3 l3) (hm1 : n1 ≤ 1000) (hm2 : n2 ≤ 1000) (hm3 : n3 ≤ 1000) :
    SeqFoll n Try.prog 60 #[.pointer (some ⟨Ba, 0, none⟩), .pointer (some ⟨Bb, 0, none⟩), .pointer (some ⟨Bc, 0, none⟩)] (fun x => #[plV x]) (Kp3 n₀ Ba Bb Bc) (fun ys => ys = plsW l1 l2 l3) (fun pre => pre <+: plsW l1 l2 l3) (fun pre x => pre ++ [x] <+: plsW l1 l2 l3) V :=
  fun l J Jx W hW hJ _ hY h0 => places2 n hn1 l Ba Bb Bc n₀ A1 n1 c1 l1 A2 n2 c2 l2 A3 n3 c3 l3 hm1 hm2 hm3 J Jx W hJ hY (hT.kp (Kp3.below hW)) h0

/-- The variable in block b holds a slice v of one's own; of the world V only blocks of T have turned. -/
structure Mg (V : World) (T : Nat → Prop) (b : Nat) (tm e : TypeId) (k : Nat) (v : Value) (n : Nat) (xs : List Value) (W : World) : Prop where
  bx : Boxed W b tm v
  own : W.ownsRow V.heap.size e k v n xs
  mv : Mv T V W
  tb : T b
  lt : ∀ x, T x → x < V.heap.size
section
variable {V W W' : World} {T : Nat → Prop} {b : Nat} {tm e : TypeId} {k n : Nat} {v : Value} {xs : List Value}
theorem Mg.turn (h : Mg V T b tm e k v n xs W) {row : Option Nat} (hg : W.grownBy W' row) (hr : ∀ r, row = some r → V.heap.size ≤ r ∧ ∃ o : Obj, W.heap[r]? = some o ∧ o.isCells = false) : Mg V T b tm e k v n xs W' := by
  refine ⟨h.bx.kept hg (fun e' => ?_), h.own.kept hg ?_, ?_, h.tb, h.lt⟩
  · have h1 := (hr b e'.symm).1
    have := h.lt b h.tb
    omega
  · rcases h.own.2 with ⟨rfl, _⟩ | ⟨g, cap, cur, rfl, _, hgb, _⟩
    · exact .inl rfl
    · refine .inr fun e' => ?_
      obtain ⟨_, o, ho, hc⟩ := hr g (by simpa [Value.ownBlock] using e'.symm)
      rw [hgb] at ho; cases ho; cases hc
  · exact h.mv.then (S' := fun x => V.heap.size ≤ x) (Mv.of_grown hg fun g e' => .inl (hr g e').1) (fun x hx => .inr hx)
theorem Mg.below (h : Mg V T b tm e k v n xs W) (hb : Below W.heap.size W W') : Mg V T b tm e k v n xs W' := h.turn (only_of_below hb none) (fun r e => by cases e)
theorem Mg.own_ge (h : Mg V T b tm e k v n xs W) {g : Nat} (hg : v.ownBlock = some g) : V.heap.size ≤ g := (h.own.lt g hg).1
/-- Another one is written. -/
theorem Mg.other (h : Mg V T b tm e k v n xs W) {s : Nat} (hs : T s ∨ (V.heap.size ≤ s ∧ v.ownBlock ≠ some s)) (hne : s ≠ b) (o : Nat) (u : Value) : Mg V T b tm e k v n xs (W.setCell ⟨s, o, none⟩ u) := by
  refine ⟨(Below.heap_setCell W ⟨s, o, none⟩ u b (fun e => hne e.symm)).trans h.bx, ?_, ?_, h.tb, h.lt⟩
  · have hgq : W.grownBy (W.setCell ⟨s, o, none⟩ u) (some s) := ⟨rfl, rfl, rfl, by simp [World.setCell], fun i hi hne => Below.heap_setCell W ⟨s, o, none⟩ u i (fun e => hne (by rw [e]))⟩
    refine h.own.kept hgq ?_
    rcases hs with hs | hs
    · rcases hq : v.ownBlock with _ | g
      · exact .inl rfl
      · refine .inr fun e => ?_
        injection e with e
        have h1 := h.own_ge hq
        have h2 := h.lt s hs
        omega
    · exact .inr hs.2
  · refine h.mv.set_ (p := ⟨s, o, none⟩) ?_ u
    rcases hs with hs | hs
    · exact .inl hs
    · exact .inr hs.1
/-- Behind an append, and the store of what it gives back. -/
theorem Mg.app (h : Mg V T b tm e k v n xs W) {tmp : Obj} {w1 : World} {v' : Value} {m : Nat} {ys : List Value} (hown : w1.ownsRow V.heap.size e k v' m ys) (hg : (W.alloc tmp).grownBy w1 v.ownBlock) :
    Boxed w1 b tm v ∧ Mg V T b tm e k v' m ys (w1.setCell ⟨b, 0, none⟩ v') ∧ KeepsFrom V.heap.size W (w1.setCell ⟨b, 0, none⟩ v') ∧ Mv (fun x => x = b ∨ V.heap.size ≤ x) W (w1.setCell ⟨b, 0, none⟩ v') := by
  have hge : ∀ g, v.ownBlock = some g → V.heap.size ≤ g := fun g e' => (h.own.lt g e').1
  have hge' : ∀ g, v'.ownBlock = some g → V.heap.size ≤ g := fun g e' => (hown.lt g e').1
  have hlt := h.lt b h.tb
  have hv1 : Boxed w1 b tm v := (h.bx.alloc tmp).kept hg (fun e' => by have := hge b e'.symm; omega)
  have hmv : Mv (fun x => x = b ∨ V.heap.size ≤ x) W (w1.setCell ⟨b, 0, none⟩ v') := by
    have h1 : Mv (fun x => x = b ∨ V.heap.size ≤ x) W (W.alloc tmp) := (Mv.refl _ _).alloc tmp
    have h2 : Mv (fun x => x = b ∨ V.heap.size ≤ x) (W.alloc tmp) w1 := Mv.of_grown hg fun g e' => .inl (.inr (hge g e'))
    exact (h1.trans h2).set_ (p := ⟨b, 0, none⟩) (.inl (.inl rfl)) v'
  refine ⟨hv1, ⟨hv1.set v', hown.kept (grownBy_setCell' w1 b v') ?_, h.mv.then hmv fun x hx => ?_, h.tb, h.lt⟩, ⟨hmv.size, fun j o hB hj hc => ?_⟩, hmv⟩
  · rcases hq : v'.ownBlock with _ | g
    · exact .inl rfl
    · exact .inr (fun e' => by injection e' with e'; have := hge' g hq; omega)
  · rcases hx with rfl | hx
    · exact .inl h.tb
    · exact .inr hx
  · have hjl := (Array.getElem?_eq_some_iff.1 hj).1
    have h1 : (W.alloc tmp).heap[j]? = some o := (Below.heap_alloc W tmp j hjl).trans hj
    have h2 : w1.heap[j]? = some o := (hg.block j (by simp; omega) (fun e' => by
      rcases h.own.2 with ⟨rfl, _⟩ | ⟨g, cap, cur, rfl, _, hgb, _⟩
      · simp [Value.ownBlock] at e'
      · obtain rfl : j = g := by simpa [Value.ownBlock] using e'
        rw [hgb] at hj; cases hj; cases hc)).trans h1
    exact (Below.heap_setCell w1 ⟨b, 0, none⟩ v' j (fun e' => by have e2 : j = b := e'; omega)).trans h2
theorem Mg.app_str (h : Mg V T b tm e k v n xs W) (htm : tm ≠ 9) (he : e ≠ 9) {tmp : Obj} {w1 : World} (hg : (W.alloc tmp).grownBy w1 v.ownBlock) (v' : Value) :
    ∀ (j : Nat) (c : Array Value) (fr : Nat × Nat), W.heap[j]? = some (Obj.cells c 9 fr) → (w1.setCell ⟨b, 0, none⟩ v').heap[j]? = some (Obj.cells c 9 fr) := fun j c fr hj => by
  have hjl := (Array.getElem?_eq_some_iff.1 hj).1
  refine (Below.heap_setCell w1 ⟨b, 0, none⟩ v' j (fun e' => ?_)).trans ?_
  · have e2 : j = b := e'
    subst e2
    rw [show W.heap[j]? = _ from h.bx] at hj
    injection hj with hj
    injection hj with _ h2
    exact htm h2
  · refine (hg.block j (by simp; omega) (fun e' => ?_)).trans ((Below.heap_alloc W tmp j hjl).trans hj)
    rcases h.own.2 with ⟨rfl, _⟩ | ⟨g, cap, cur, rfl, _, hgb, _⟩
    · simp [Value.ownBlock] at e'
    · obtain rfl : j = g := by simpa [Value.ownBlock] using e'
      rw [hgb] at hj
      injection hj with hj
      injection hj with _ h2
      exact he h2
/-- A cell of a block of another type is written. -/
theorem set_str {c0 : Array Value} {t0 : TypeId} {fr0 : Nat × Nat} {s : Nat} (hs : W.heap[s]? = some (Obj.cells c0 t0 fr0)) (ht : t0 ≠ 9) (o : Nat) (u : Value) :
    ∀ (j : Nat) (c : Array Value) (fr : Nat × Nat), W.heap[j]? = some (Obj.cells c 9 fr) → (W.setCell ⟨s, o, none⟩ u).heap[j]? = some (Obj.cells c 9 fr) := fun j c fr hj => by
  refine (Below.heap_setCell W ⟨s, o, none⟩ u j (fun e' => ?_)).trans hj
  have e2 : j = s := e'
  subst e2
  rw [hs] at hj
  injection hj with hj
  injection hj with _ h2
  exact ht h2
end

/-- What is left of a slice behind its first. -/
def tlA (a : Option Addr) (cs : Nat) : Option Addr := if cs = 1 then a else a.map (·.add 3)
theorem slice_one (A : Option Addr) (m cs : Nat) (hm : m + 1 ≤ cs) (w : World) : (Instr.slice 34 (.slice A (m + 1) cs) (some (.int .i64 1)) none none).run Try.prog w = .ok (.slice (tlA A cs) m (cs - 1)) w := by
  have h1 : (1 : Int) ≤ ((m + 1 : Nat) : Int) := by omega
  have hsz := Try.sizeOf81 w
  have hu := Try.underlying34
  go_simp
  rw [if_pos (by omega)]
  rfl
theorem sq_tail {W : World} {B : Nat} {A : Option Addr} {m cs : Nat} {x : Ch} {r : List Ch} (h : SqC W B A (m + 1) cs (x :: r)) : SqC W B (tlA A cs) m (cs - 1) r := by
  obtain ⟨b, o, e, hlt, hr⟩ := h.pos (by omega)
  have hc := h.cap
  have hl := h.len
  subst e
  refine ⟨by simpa using hl, by omega, by have := h.max; omega, ?_, ch_sz, fun hn => ?_⟩
  · intro e
    unfold tlA at e
    split at e
    · cases e
    · cases e
  · refine ⟨b, o + 3, ?_, hlt, ?_⟩
    · unfold tlA
      rw [if_neg (by omega)]
      rfl
    · rw [List.flatMap_cons, rangeAt_app] at hr
      exact hr.2
end Go.Proofs.Ytgpakahmccafdaa
