/-
  MERGE'S REFERENCE: Merge.
-/
import Derived.Test.YtkdmlffnkomdhaaRh
namespace Go.Proofs.Ytkdmlffnkomdhaa
set_option linter.unusedVariables false
set_option linter.unusedSimpArgs false
open Go.RowKit Go.WideShapes Go.ChangeShapes Go.Deep
attribute [local irreducible] wpQuiet

/-- What the reference's merge has at a place. -/
def refMo (x : Pl) : Sd := if !sameSd x.o x.t && sameSd x.b x.o then x.t else x.o
def refMs (e : List Ch) (x : Pl) : Sd := if (findW Ch.p e x.p).isSome then ⟨isC (findW Ch.p e x.p), textC (findW Ch.p e x.p)⟩ else refMo x
def refMp (e : List Ch) (x : Pl) : List Rw := if (refMs e x).is then [⟨x.p, (refMs e x).t⟩] else []
theorem refMo_eq {s : ByteArray} {s1 s2 s3 : Sd} {x1 x2 : Bool} (h1 : sameSd s2 s3 = x1) (h2 : sameSd s1 s2 = x2) : refMo ⟨s, s1, s2, s3⟩ = if !x1 && x2 then s3 else s2 := by
  unfold refMo
  rw [h1, h2]
theorem refMp_said {e : List Ch} {s : ByteArray} {s1 s2 s3 : Sd} {ys zs : Bool} {ty : ByteArray} (h1 : (findW Ch.p e s).isSome = ys) (h2 : isC (findW Ch.p e s) = zs) (h3 : textC (findW Ch.p e s) = ty) :
    refMp e ⟨s, s1, s2, s3⟩ = if ys then (if zs then [⟨s, ty⟩] else []) else (if (refMo ⟨s, s1, s2, s3⟩).is then [⟨s, (refMo ⟨s, s1, s2, s3⟩).t⟩] else []) := by
  unfold refMp refMs
  rw [h1, h2, h3]
  cases ys <;> rfl
theorem sc_noslice {A : Option Addr} {n c : Nat} (x : ByteArray) : Value.slice A n c ∉ Sc x := by simp [Sc]
set_option maxRecDepth 100000 in
set_option maxHeartbeats 8000000 in
theorem refMerge_any {w : World} {A1 : Option Addr} {n1 c1 : Nat} {l1 : List Rw} (h1 : SqR w w.heap.size A1 n1 c1 l1) (hm1 : n1 ≤ 1000) {A2 : Option Addr} {n2 c2 : Nat} {l2 : List Rw} (h2 : SqR w w.heap.size A2 n2 c2 l2) (hm2 : n2 ≤ 1000) {A3 : Option Addr} {n3 c3 : Nat} {l3 : List Rw} (h3 : SqR w w.heap.size A3 n3 c3 l3) (hm3 : n3 ≤ 1000) {A' : Option Addr} {n' c' : Nat} {l4 : List Ch} (h4 : SqC w w.heap.size A' n' c' l4) (hm4 : n' ≤ 1000) :
    Calls Try.prog 23 #[.agg #[.slice A1 n1 c1], .agg #[.slice A2 n2 c2], .agg #[.slice A3 n3 c3], .agg #[.slice A' n' c']] w fun e w' => (∃ A n c, e = .returned (.agg #[.slice A n c]) ∧ SqR w' w'.heap.size A n c ((plsW l1 l2 l3).flatMap (refMp l4))) ∧ Below w.heap.size w w' := by
  obtain ⟨w0, hw0⟩ : ∃ w0, ((((w.alloc (.cells #[.slice A1 n1 c1] 24)).alloc (.cells #[.slice A2 n2 c2] 24)).alloc (.cells #[.slice A3 n3 c3] 24)).alloc (.cells #[.slice A' n' c'] 36)).alloc (.cells #[.slice none 0 0] 24) = w0 := ⟨_, rfl⟩
  have B0 : Hid (Below w.heap.size w w0 ∧ w0.heap.size = w.heap.size + 1 + 1 + 1 + 1 + 1) := Lib.hid (by rw [← hw0]; exact ⟨(((((Below.refl _ _).alloc (Nat.le_refl _) _).alloc (by simp) _).alloc (by simp; omega) _).alloc (by simp; omega) _).alloc (by simp; omega) _, by simp⟩)
  have X0 : Hid (Lies w0 w.heap.size 1 [.slice A1 n1 c1]) := Lib.hid (by rw [← hw0]; exact ((((Lies.new w [.slice A1 n1 c1] 24).alloc _).alloc _).alloc _).alloc _)
  have X1 : Hid (Lies w0 (w.heap.size + 1) 1 [.slice A2 n2 c2]) := Lib.hid (by
    rw [← hw0]
    have h := (((Lies.new (w.alloc (.cells #[.slice A1 n1 c1] 24)) [.slice A2 n2 c2] 24).alloc (.cells #[.slice A3 n3 c3] 24)).alloc (.cells #[.slice A' n' c'] 36)).alloc (.cells #[.slice none 0 0] 24)
    rwa [World.size_alloc] at h)
  have X2 : Hid (Lies w0 (w.heap.size + 1 + 1) 1 [.slice A3 n3 c3]) := Lib.hid (by
    rw [← hw0]
    have h := ((Lies.new ((w.alloc (.cells #[.slice A1 n1 c1] 24)).alloc (.cells #[.slice A2 n2 c2] 24)) [.slice A3 n3 c3] 24).alloc (.cells #[.slice A' n' c'] 36)).alloc (.cells #[.slice none 0 0] 24)
    rwa [World.size_alloc, World.size_alloc] at h)
  have X3 : Hid (Lies w0 (w.heap.size + 1 + 1 + 1) 1 [.slice A' n' c']) := Lib.hid (by
    rw [← hw0]
    have h := (Lies.new (((w.alloc (.cells #[.slice A1 n1 c1] 24)).alloc (.cells #[.slice A2 n2 c2] 24)).alloc (.cells #[.slice A3 n3 c3] 24)) [.slice A' n' c'] 36).alloc (.cells #[.slice none 0 0] 24)
    rwa [World.size_alloc, World.size_alloc, World.size_alloc] at h)
  have X4 : Hid (Lies w0 (w.heap.size + 1 + 1 + 1 + 1) 1 [.slice none 0 0]) := Lib.hid (by
    rw [← hw0]
    have h := Lies.new ((((w.alloc (.cells #[.slice A1 n1 c1] 24)).alloc (.cells #[.slice A2 n2 c2] 24)).alloc (.cells #[.slice A3 n3 c3] 24)).alloc (.cells #[.slice A' n' c'] 36)) [.slice none 0 0] 24
    rwa [World.size_alloc, World.size_alloc, World.size_alloc, World.size_alloc] at h)
  have HS1 : Hid (∀ W, Below w0.heap.size w0 W → SqR W W.heap.size A1 n1 c1 l1) := Lib.hid fun W hW => (h1.below (B0.out.1.trans (hW.mono B0.out.1.size))).more (Nat.le_trans B0.out.1.size hW.size)
  have HS2 : Hid (∀ W, Below w0.heap.size w0 W → SqR W W.heap.size A2 n2 c2 l2) := Lib.hid fun W hW => (h2.below (B0.out.1.trans (hW.mono B0.out.1.size))).more (Nat.le_trans B0.out.1.size hW.size)
  have HS3 : Hid (∀ W, Below w0.heap.size w0 W → SqR W W.heap.size A3 n3 c3 l3) := Lib.hid fun W hW => (h3.below (B0.out.1.trans (hW.mono B0.out.1.size))).more (Nat.le_trans B0.out.1.size hW.size)
  have HS4 : Hid (∀ W, Below w0.heap.size w0 W → SqC W W.heap.size A' n' c' l4) := Lib.hid fun W hW => (h4.below (B0.out.1.trans (hW.mono B0.out.1.size))).more (Nat.le_trans B0.out.1.size hW.size)
  have HQ : Hid (∀ W, Below w0.heap.size w0 W → W.cell? ⟨w.heap.size, 0, none⟩ = some (.slice A1 n1 c1) ∧ W.cell? ⟨w.heap.size + 1, 0, none⟩ = some (.slice A2 n2 c2) ∧ W.cell? ⟨w.heap.size + 1 + 1, 0, none⟩ = some (.slice A3 n3 c3) ∧ W.cell? ⟨w.heap.size + 1 + 1 + 1, 0, none⟩ = some (.slice A' n' c')) := Lib.hid fun W hW =>
    ⟨(X0.out.below hW X0.out.lt).cell (j := 0) rfl, (X1.out.below hW X1.out.lt).cell (j := 0) rfl, (X2.out.below hW X2.out.lt).cell (j := 0) rfl, (X3.out.below hW X3.out.lt).cell (j := 0) rfl⟩
  have HW := Lib.hid hw0
  obtain ⟨w3, hw3⟩ : ∃ w3, w0.alloc (.cells #[.slice none 0 0] 24) = w3 := ⟨_, rfl⟩
  have BM : Hid (Boxed w3 w0.heap.size 24 (.slice none 0 0)) := Lib.hid (by rw [← hw3]; exact Boxed.new _ _ _)
  have G3 := Lib.hid (show Below w0.heap.size w0 w3 by rw [← hw3]; exact (Below.refl _ _).alloc (Nat.le_refl _) _)
  have Z3 := Lib.hid (show w3.heap.size = w0.heap.size + 1 by rw [← hw3]; simp)
  have HW3 := Lib.hid hw3
  have hl1 := h1.len
  have hl2 := h2.len
  have hl3 := h3.len
  have hl4 := h4.len
  obtain ⟨ps, hps⟩ : ∃ ps, pathsW Rw.p [] (l1 ++ (l2 ++ l3)) = ps := ⟨_, rfl⟩
  have HPS := Lib.hid hps
  have HCW : Hid ((plsW l1 l2 l3).flatMap (refMp l4) = ps.flatMap fun s => refMp l4 (plW l1 l2 l3 s)) := Lib.hid (by unfold plsW; rw [hps, List.flatMap_map])
  clear hw0 hw3 h1 h2 h3 h4 hps
  go_enter Try.func23, Try.ntmps23
  go_upto_region 1 with fail
  rw [HW.out]
  clear HW
  go_upto_region 2 with fail
  rw [HW3.out]
  clear HW3
  obtain ⟨q0, q1, q2, -⟩ := HQ.out _ G3.out
  have HP := Lib.hid (refPaths3_any (HS1.out _ G3.out) hm1 (HS2.out _ G3.out) hm2 (HS3.out _ G3.out) hm3)
  obtain ⟨M0, hM0⟩ : ∃ M0, w0.heap.size = M0 := ⟨_, rfl⟩
  have HM0 := Lib.hid hM0
  rw [hM0] at BM ⊢
  clear hM0
  go_wp2_with fail
  refine HP.out.mono ?_
  rintro e w2 ⟨⟨A5, n5, c5, rfl, hn5, hsq⟩, hb2⟩
  have SP : Hid (SqS w2 w2.heap.size A5 n5 c5 ps) := Lib.hid (by rw [← HPS.out]; exact hsq)
  have G2 := Lib.hid (G3.out.trans (hb2.mono G3.out.size))
  have BM2 : Hid (Boxed w2 M0 24 (.slice none 0 0)) := Lib.hid ((hb2.block _ BM.out.lt).trans BM.out)
  have MD0 : Hid (Md w2 M0 24 70 2 (.slice none 0 0) 0 [] w2) := Lib.hid ⟨BM2.out, ⟨rfl, .inl ⟨rfl, rfl⟩⟩, Mv.refl _ _, BM2.out.lt⟩
  have OFF := Lib.hid (fun (hn : 0 < n5) => sq_off SP.out BM2.out sc_noslice (by omega) hn)
  have hlp := hsq.len
  rw [HPS.out] at hlp
  have hn5' : n5 ≤ 3000 := by omega
  clear hsq hb2 HP q0 q1 q2 HPS BM hn5
  go_wp2_with fail
  go_loopw [11] (fun i wr => ∃ (k : Nat) (v : Value) (acc : List Rw), k ≤ n5 ∧ acc.length ≤ k ∧ i = .int .i64 (k : Int) ∧ Hid (((ps.take k).flatMap fun s => refMp l4 (plW l1 l2 l3 s)) = acc) ∧ Hid (Md w2 M0 24 70 2 v acc.length (acc.flatMap Rw.cells) wr)) (fun i _ => n5 - (intOf i).toNat)
  case atStart => exact ⟨0, _, [], Nat.zero_le _, by simp, rfl, Lib.hid rfl, MD0⟩
  case round =>
    obtain ⟨k, v, acc, hk, hac, rfl, hacc, hmd⟩ := hrel
    have GR : Hid (Below w0.heap.size w0 wr) := Lib.hid (G2.out.trans (hmd.out.mv.below (B := w0.heap.size) (fun x hx => by have e : x = M0 := hx; have := HM0.out; omega) G2.out.size))
    by_cases hlt : k < n5
    · have hd : decide ((k : Int) < (n5 : Int)) = true := by simp; omega
      have hk0 : (0 : Int) ≤ (k : Int) := Int.natCast_nonneg _
      have hk1 : (k : Int) < (n5 : Int) := by omega
      obtain ⟨b, o, rfl, hbl, hrg⟩ := SP.out.at_ hlt
      have hbM := OFF.out (by omega) _ rfl
      obtain ⟨s, hs⟩ : ∃ s, ps[k]'(by omega) = s := ⟨_, rfl⟩
      rw [hs] at hrg
      have HB3 := Lib.hid hbl
      have R0 := Lib.hid (show wr.cell? ⟨b, o + k, none⟩ = some (.string s) by
        have := (rangeAt_keep hrg (hmd.out.mv.block b hbl hbM)) 0 _ rfl
        simpa using this)
      have HQ6 : Hid (∀ W, Below wr.heap.size wr W → W.cell? ⟨w.heap.size, 0, none⟩ = some (.slice A1 n1 c1) ∧ W.cell? ⟨w.heap.size + 1, 0, none⟩ = some (.slice A2 n2 c2) ∧ W.cell? ⟨w.heap.size + 1 + 1, 0, none⟩ = some (.slice A3 n3 c3) ∧ W.cell? ⟨b, o + k, none⟩ = some (.string s)) := Lib.hid fun W hW =>
        ⟨(HQ.out _ (GR.out.trans (hW.mono GR.out.size))).1, (HQ.out _ (GR.out.trans (hW.mono GR.out.size))).2.1, (HQ.out _ (GR.out.trans (hW.mono GR.out.size))).2.2.1, (hW.cell (p := ⟨b, o + k, none⟩) (block_lt_of_cell R0.out)).trans R0.out⟩
      have HQ3 : Hid (∀ W, Below wr.heap.size wr W → W.cell? ⟨w.heap.size + 1 + 1 + 1, 0, none⟩ = some (.slice A' n' c')) := Lib.hid fun W hW => (HQ.out _ (GR.out.trans (hW.mono GR.out.size))).2.2.2
      obtain ⟨s1, hs1⟩ : ∃ x, sdW l1 s = x := ⟨_, rfl⟩
      obtain ⟨s2, hs2⟩ : ∃ x, sdW l2 s = x := ⟨_, rfl⟩
      obtain ⟨s3, hs3⟩ : ∃ x, sdW l3 s = x := ⟨_, rfl⟩
      have E1 := Lib.hid hs1
      have E2 := Lib.hid hs2
      have E3 := Lib.hid hs3
      have HT : Hid (((ps.take (k + 1)).flatMap fun s => refMp l4 (plW l1 l2 l3 s)) = acc ++ refMp l4 ⟨s, s1, s2, s3⟩) := Lib.hid (by
        have e : plW l1 l2 l3 s = ⟨s, s1, s2, s3⟩ := by unfold plW; rw [hs1, hs2, hs3]
        have h9 := flat_take (f := fun s => refMp l4 (plW l1 l2 l3 s)) (l := ps) (k := k) (by omega)
        rw [h9, hacc.out, hs, e])
      have HCS := Lib.hid (fun W (hW : Below wr.heap.size wr W) => refSaid_any (HS4.out _ (GR.out.trans (hW.mono GR.out.size))) (show n' ≤ 1000000 by omega) s)
      obtain ⟨ys, hys⟩ : ∃ ys, (findW Ch.p l4 s).isSome = ys := ⟨_, rfl⟩
      obtain ⟨zs, hzs⟩ : ∃ zs, isC (findW Ch.p l4 s) = zs := ⟨_, rfl⟩
      obtain ⟨ty, hty⟩ : ∃ ty, textC (findW Ch.p l4 s) = ty := ⟨_, rfl⟩
      rw [hys, hzs, hty] at HCS
      have HRT := Lib.hid (refMp_said (s1 := s1) (s2 := s2) (s3 := s3) hys hzs hty)
      have OWL := Lib.hid (fun y (hy : v.ownBlock = some y) => hmd.out.own.lt y hy)
      clear hrg hs hs1 hs2 hs3 hacc hbl hbM hys hzs hty
      have HC1 : Hid (∀ W, Below wr.heap.size wr W → Calls Try.prog 41 #[.agg #[.slice A1 n1 c1], .string s] W fun e w' => e = .returned (sdV s1) ∧ Below W.heap.size W w') := Lib.hid fun W hW => by
        rw [← E1.out]; exact refSide_any (HS1.out _ (GR.out.trans (hW.mono GR.out.size))) (by omega) s
      have HC2 : Hid (∀ W, Below wr.heap.size wr W → Calls Try.prog 41 #[.agg #[.slice A2 n2 c2], .string s] W fun e w' => e = .returned (sdV s2) ∧ Below W.heap.size W w') := Lib.hid fun W hW => by
        rw [← E2.out]; exact refSide_any (HS2.out _ (GR.out.trans (hW.mono GR.out.size))) (by omega) s
      have HC3 : Hid (∀ W, Below wr.heap.size wr W → Calls Try.prog 41 #[.agg #[.slice A3 n3 c3], .string s] W fun e w' => e = .returned (sdV s3) ∧ Below W.heap.size W w') := Lib.hid fun W hW => by
        rw [← E3.out]; exact refSide_any (HS3.out _ (GR.out.trans (hW.mono GR.out.size))) (by omega) s
      clear E1 E2 E3
      go_wp2_with fail
      refine wp_region_noPanic ?_
      refine wp_region_held_drew (S := (fun w' => Below wr.heap.size wr w')) (by kernel_rfl) (Below.refl wr.heap.size wr).drew (fun _ => ?_)
      refine wpAnyH_take (i := 0) rfl (by kernel_rfl) (by kernel_rfl) (by kernel_rfl) (fun _ _ _ h => h) (.inl ⟨rfl, fun w' hw' => (by obtain ⟨q0, q1, q2, s0⟩ := HQ6.out w' hw'; clear hw'; go_simp; (try rfl))⟩) (Below.refl wr.heap.size wr).drew ?_
      simp only [List.getElem_toArray, List.getElem_cons_zero, List.getElem_cons_succ, Act.put, List.setIfInBounds_toArray, List.set_cons_succ, List.set_cons_zero]
      refine wpAnyH_take (i := 1) rfl (by kernel_rfl) (by kernel_rfl) (by kernel_rfl) (fun _ _ _ h => h) (.inl ⟨rfl, fun w' hw' => (by obtain ⟨q0, q1, q2, s0⟩ := HQ6.out w' hw'; clear hw'; go_simp; (try rfl))⟩) (Below.refl wr.heap.size wr).drew ?_
      simp only [List.getElem_toArray, List.getElem_cons_zero, List.getElem_cons_succ, Act.put, List.setIfInBounds_toArray, List.set_cons_succ, List.set_cons_zero]
      refine wpAnyH_take (i := 2) rfl (by kernel_rfl) (by kernel_rfl) (by kernel_rfl) (fun _ _ _ h => h) (.inl ⟨rfl, fun w' hw' => (by obtain ⟨q0, q1, q2, s0⟩ := HQ6.out w' hw'; clear hw'; go_simp; (try rfl))⟩) (Below.refl wr.heap.size wr).drew ?_
      simp only [List.getElem_toArray, List.getElem_cons_zero, List.getElem_cons_succ, Act.put, List.setIfInBounds_toArray, List.set_cons_succ, List.set_cons_zero]
      refine wpAnyH_take (i := 3) rfl (by kernel_rfl) (by kernel_rfl) (by kernel_rfl) (fun _ _ _ h => h) (.inl ⟨rfl, fun w' hw' => (by obtain ⟨q0, q1, q2, s0⟩ := HQ6.out w' hw'; clear hw'; go_simp; (try rfl))⟩) (Below.refl wr.heap.size wr).drew ?_
      simp only [List.getElem_toArray, List.getElem_cons_zero, List.getElem_cons_succ, Act.put, List.setIfInBounds_toArray, List.set_cons_succ, List.set_cons_zero]
      refine wpAnyH_take (i := 4) rfl (by kernel_rfl) (by kernel_rfl) (by kernel_rfl) (fun _ _ _ h => h) (.inl ⟨rfl, fun w' hw' => (by obtain ⟨q0, q1, q2, s0⟩ := HQ6.out w' hw'; clear hw'; go_simp; (try rfl))⟩) (Below.refl wr.heap.size wr).drew ?_
      simp only [List.getElem_toArray, List.getElem_cons_zero, List.getElem_cons_succ, Act.put, List.setIfInBounds_toArray, List.set_cons_succ, List.set_cons_zero]
      refine wpAnyH_take (i := 6) rfl (by kernel_rfl) (by kernel_rfl) (by kernel_rfl) (fun _ _ _ h => h) (.inl ⟨rfl, fun w' hw' => (by obtain ⟨q0, q1, q2, s0⟩ := HQ6.out w' hw'; clear hw'; go_simp; (try rfl))⟩) (Below.refl wr.heap.size wr).drew ?_
      simp only [List.getElem_toArray, List.getElem_cons_zero, List.getElem_cons_succ, Act.put, List.setIfInBounds_toArray, List.set_cons_succ, List.set_cons_zero]
      refine wpAnyH_take (i := 7) rfl (by kernel_rfl) (by kernel_rfl) (by kernel_rfl) (fun _ _ _ h => h) (.inl ⟨rfl, fun w' hw' => (by obtain ⟨q0, q1, q2, s0⟩ := HQ6.out w' hw'; clear hw'; go_simp; (try rfl))⟩) (Below.refl wr.heap.size wr).drew ?_
      simp only [List.getElem_toArray, List.getElem_cons_zero, List.getElem_cons_succ, Act.put, List.setIfInBounds_toArray, List.set_cons_succ, List.set_cons_zero]
      refine wpAnyH_take (i := 8) rfl (by kernel_rfl) (by kernel_rfl) (by kernel_rfl) (fun _ _ _ h => h) (.inl ⟨rfl, fun w' hw' => (by obtain ⟨q0, q1, q2, s0⟩ := HQ6.out w' hw'; clear hw'; go_simp; (try rfl))⟩) (Below.refl wr.heap.size wr).drew ?_
      simp only [List.getElem_toArray, List.getElem_cons_zero, List.getElem_cons_succ, Act.put, List.setIfInBounds_toArray, List.set_cons_succ, List.set_cons_zero]
      refine wpAnyH_take (i := 9) rfl (by kernel_rfl) (by kernel_rfl) (by kernel_rfl) (fun _ _ _ h => h) (.inl ⟨rfl, fun w' hw' => (by obtain ⟨q0, q1, q2, s0⟩ := HQ6.out w' hw'; clear hw'; go_simp; (try rfl))⟩) (Below.refl wr.heap.size wr).drew ?_
      simp only [List.getElem_toArray, List.getElem_cons_zero, List.getElem_cons_succ, Act.put, List.setIfInBounds_toArray, List.set_cons_succ, List.set_cons_zero]
      refine wpAnyH_take (i := 10) rfl (by kernel_rfl) (by kernel_rfl) (by kernel_rfl) (fun _ _ _ h => h) (.inl ⟨rfl, fun w' hw' => (by obtain ⟨q0, q1, q2, s0⟩ := HQ6.out w' hw'; clear hw'; go_simp; (try rfl))⟩) (Below.refl wr.heap.size wr).drew ?_
      simp only [List.getElem_toArray, List.getElem_cons_zero, List.getElem_cons_succ, Act.put, List.setIfInBounds_toArray, List.set_cons_succ, List.set_cons_zero]
      refine wpAnyH_take (i := 12) rfl (by kernel_rfl) (by kernel_rfl) (by kernel_rfl) (fun _ _ _ h => h) (.inl ⟨rfl, fun w' hw' => (by obtain ⟨q0, q1, q2, s0⟩ := HQ6.out w' hw'; clear hw'; go_simp; (try rfl))⟩) (Below.refl wr.heap.size wr).drew ?_
      simp only [List.getElem_toArray, List.getElem_cons_zero, List.getElem_cons_succ, Act.put, List.setIfInBounds_toArray, List.set_cons_succ, List.set_cons_zero]
      refine wpAnyH_take (i := 13) rfl (by kernel_rfl) (by kernel_rfl) (by kernel_rfl) (fun _ _ _ h => h) (.inl ⟨rfl, fun w' hw' => (by obtain ⟨q0, q1, q2, s0⟩ := HQ6.out w' hw'; clear hw'; go_simp; (try rfl))⟩) (Below.refl wr.heap.size wr).drew ?_
      simp only [List.getElem_toArray, List.getElem_cons_zero, List.getElem_cons_succ, Act.put, List.setIfInBounds_toArray, List.set_cons_succ, List.set_cons_zero]
      refine wpAnyH_take (i := 14) rfl (by kernel_rfl) (by kernel_rfl) (by kernel_rfl) (fun _ _ _ h => h) (.inl ⟨rfl, fun w' hw' => (by obtain ⟨q0, q1, q2, s0⟩ := HQ6.out w' hw'; clear hw'; go_simp; (try rfl))⟩) (Below.refl wr.heap.size wr).drew ?_
      simp only [List.getElem_toArray, List.getElem_cons_zero, List.getElem_cons_succ, Act.put, List.setIfInBounds_toArray, List.set_cons_succ, List.set_cons_zero]
      refine wpAnyH_take (i := 15) rfl (by kernel_rfl) (by kernel_rfl) (by kernel_rfl) (fun _ _ _ h => h) (.inl ⟨rfl, fun w' hw' => (by obtain ⟨q0, q1, q2, s0⟩ := HQ6.out w' hw'; clear hw'; go_simp; (try rfl))⟩) (Below.refl wr.heap.size wr).drew ?_
      simp only [List.getElem_toArray, List.getElem_cons_zero, List.getElem_cons_succ, Act.put, List.setIfInBounds_toArray, List.set_cons_succ, List.set_cons_zero]
      refine wpAnyH_take (i := 16) rfl (by kernel_rfl) (by kernel_rfl) (by kernel_rfl) (fun _ _ _ h => h) (.inl ⟨rfl, fun w' hw' => (by obtain ⟨q0, q1, q2, s0⟩ := HQ6.out w' hw'; clear hw'; go_simp; (try rfl))⟩) (Below.refl wr.heap.size wr).drew ?_
      simp only [List.getElem_toArray, List.getElem_cons_zero, List.getElem_cons_succ, Act.put, List.setIfInBounds_toArray, List.set_cons_succ, List.set_cons_zero]
      refine wpAnyH_free (fun a0 l0 f l a w' => ∃ (fc0 fc1 fc2 : Bool) (fo0 fo1 fo2 : Option Nat), f = 3 + ((!fc0).toNat + ((!fc1).toNat + ((!fc2).toNat + (fo0.isNone.toNat + (fo1.isNone.toNat + fo2.isNone.toNat))))) ∧ ((fc1 = true → fc0 = true) ∧ (fc2 = true → fc1 = true) ∧ True) ∧ l = ((((((l0.setIfInBounds 5 (fc0)).setIfInBounds 11 (fc1)).setIfInBounds 17 (fc2)).setIfInBounds 18 (fo0.isSome)).setIfInBounds 19 (fo1.isSome)).setIfInBounds 20 (fo2.isSome)) ∧ a = { tmps := ((((((a0.tmps.setIfInBounds 35 (cond fc0 (sdV s1) (a0.tmps.getD 35 undef))).setIfInBounds 41 (cond fc1 (sdV s2) (a0.tmps.getD 41 undef))).setIfInBounds 47 (cond fc2 (sdV s3) (a0.tmps.getD 47 undef))).setIfInBounds 12 (ptrO (a0.tmps.getD 12 undef) fo0)).setIfInBounds 13 (ptrO (a0.tmps.getD 13 undef) fo1)).setIfInBounds 14 (ptrO (a0.tmps.getD 14 undef) fo2)), defers := a0.defers } ∧ Fr wr 2 [zO (Sd.cells ⟨false, ⟨#[]⟩⟩) fo0, zO (Sd.cells ⟨false, ⟨#[]⟩⟩) fo1, zO (Sd.cells ⟨false, ⟨#[]⟩⟩) fo2] w') 3 [(5, []), (11, [5]), (17, [11]), (18, []), (19, []), (20, [])] ?_ ?_ ?_ 6 ?_
      · rintro f l a wz ⟨fc0, fc1, fc2, fo0, fo1, fo2, hf, hch, rfl, -, -⟩
        cases fc0 <;> cases fc1 <;> cases fc2 <;> rcases fo0 with _ | _ <;> rcases fo1 with _ | _ <;> rcases fo2 with _ | _ <;> first | (exfalso; simp at hf; done) | (exfalso; simp at hf; omega) | (exfalso; simp at hch; done) | kernel_rfl
      · rintro f l a wz ⟨fc0, fc1, fc2, fo0, fo1, fo2, hf, hch, rfl, rfl, hF⟩ jp hjp hn hp
        simp only [List.mem_cons, List.not_mem_nil, or_false] at hjp
        rcases hjp with rfl | rfl | rfl | rfl | rfl | rfl
        · have hc : fc0 = false := hn
          subst hc
          refine wpOp_of rfl rfl (fun K hK => ?_)
          simp only [List.getElem_toArray, List.getElem_cons_zero, List.getElem_cons_succ, Act.put, List.setIfInBounds_toArray, List.set_cons_succ, List.set_cons_zero, cond_true, cond_false, List.getElem_toArray]
          refine wp_fn (f := 41) (xs := #[.agg #[.slice A1 n1 c1], .string s]) (by first | (go_simp; done) | (go_simp; rfl)) ((HC1.out wz hF.below).mono ?_)
          rintro e wy ⟨rfl, hb⟩
          refine ⟨_, rfl, hK _ _ ⟨(hF.below.trans (hb.mono hF.below.size)), true, fc1, fc2, fo0, fo1, fo2, ?_, ⟨fun _ => rfl, hch.2.1, trivial⟩, ?_, ?_, hF.call hb⟩⟩
          · simp at hf ⊢; omega
          · kernel_rfl
          · kernel_rfl
        · have hc : fc1 = false := hn
          have hq : (fc0 && true) = true := hp
          subst hc
          refine wpOp_of rfl rfl (fun K hK => ?_)
          simp only [List.getElem_toArray, List.getElem_cons_zero, List.getElem_cons_succ, Act.put, List.setIfInBounds_toArray, List.set_cons_succ, List.set_cons_zero, cond_true, cond_false, List.getElem_toArray]
          refine wp_fn (f := 41) (xs := #[.agg #[.slice A2 n2 c2], .string s]) (by first | (go_simp; done) | (go_simp; rfl)) ((HC2.out wz hF.below).mono ?_)
          rintro e wy ⟨rfl, hb⟩
          refine ⟨_, rfl, hK _ _ ⟨(hF.below.trans (hb.mono hF.below.size)), fc0, true, fc2, fo0, fo1, fo2, ?_, ⟨fun _ => by simpa using hq, fun _ => rfl, trivial⟩, ?_, ?_, hF.call hb⟩⟩
          · simp at hf ⊢; omega
          · kernel_rfl
          · kernel_rfl
        · have hc : fc2 = false := hn
          have hq : (fc1 && true) = true := hp
          subst hc
          refine wpOp_of rfl rfl (fun K hK => ?_)
          simp only [List.getElem_toArray, List.getElem_cons_zero, List.getElem_cons_succ, Act.put, List.setIfInBounds_toArray, List.set_cons_succ, List.set_cons_zero, cond_true, cond_false, List.getElem_toArray]
          refine wp_fn (f := 41) (xs := #[.agg #[.slice A3 n3 c3], .string s]) (by first | (go_simp; done) | (go_simp; rfl)) ((HC3.out wz hF.below).mono ?_)
          rintro e wy ⟨rfl, hb⟩
          refine ⟨_, rfl, hK _ _ ⟨(hF.below.trans (hb.mono hF.below.size)), fc0, fc1, true, fo0, fo1, fo2, ?_, ⟨hch.1, fun _ => by simpa using hq, trivial⟩, ?_, ?_, hF.call hb⟩⟩
          · simp at hf ⊢; omega
          · kernel_rfl
          · kernel_rfl
        · have hc : fo0.isSome = false := hn
          obtain rfl : fo0 = none := by cases fo0 <;> simp_all
          refine wpOp_of rfl rfl (fun K hK => ?_)
          simp only [List.getElem_toArray, List.getElem_cons_zero, List.getElem_cons_succ, Act.put, List.setIfInBounds_toArray, List.set_cons_succ, List.set_cons_zero, cond_true, cond_false, List.getElem_toArray]
          refine wp_alloc_as _ rfl _ zero_sd ?_
          refine hK _ _ ⟨(hF.alloc 0 (Sd.cells ⟨false, ⟨#[]⟩⟩) 41 rfl).below, fc0, fc1, fc2, some wz.heap.size, fo1, fo2, ?_, hch, ?_, ?_, hF.alloc 0 (Sd.cells ⟨false, ⟨#[]⟩⟩) 41 rfl⟩
          · simp at hf ⊢; omega
          · kernel_rfl
          · kernel_rfl
        · have hc : fo1.isSome = false := hn
          obtain rfl : fo1 = none := by cases fo1 <;> simp_all
          refine wpOp_of rfl rfl (fun K hK => ?_)
          simp only [List.getElem_toArray, List.getElem_cons_zero, List.getElem_cons_succ, Act.put, List.setIfInBounds_toArray, List.set_cons_succ, List.set_cons_zero, cond_true, cond_false, List.getElem_toArray]
          refine wp_alloc_as _ rfl _ zero_sd ?_
          refine hK _ _ ⟨(hF.alloc 1 (Sd.cells ⟨false, ⟨#[]⟩⟩) 41 rfl).below, fc0, fc1, fc2, fo0, some wz.heap.size, fo2, ?_, hch, ?_, ?_, hF.alloc 1 (Sd.cells ⟨false, ⟨#[]⟩⟩) 41 rfl⟩
          · simp at hf ⊢; omega
          · kernel_rfl
          · kernel_rfl
        · have hc : fo2.isSome = false := hn
          obtain rfl : fo2 = none := by cases fo2 <;> simp_all
          refine wpOp_of rfl rfl (fun K hK => ?_)
          simp only [List.getElem_toArray, List.getElem_cons_zero, List.getElem_cons_succ, Act.put, List.setIfInBounds_toArray, List.set_cons_succ, List.set_cons_zero, cond_true, cond_false, List.getElem_toArray]
          refine wp_alloc_as _ rfl _ zero_sd ?_
          refine hK _ _ ⟨(hF.alloc 2 (Sd.cells ⟨false, ⟨#[]⟩⟩) 41 rfl).below, fc0, fc1, fc2, fo0, fo1, some wz.heap.size, ?_, hch, ?_, ?_, hF.alloc 2 (Sd.cells ⟨false, ⟨#[]⟩⟩) 41 rfl⟩
          · simp at hf ⊢; omega
          · kernel_rfl
          · kernel_rfl
      · rintro l a wz ⟨fc0, fc1, fc2, fo0, fo1, fo2, hf, hch, rfl, rfl, hF⟩
        obtain rfl := nat0 (c := fc0) (by omega)
        obtain rfl := nat0 (c := fc1) (by omega)
        obtain rfl := nat0 (c := fc2) (by omega)
        obtain ⟨b0, rfl⟩ := opt0 (o := fo0) (by omega)
        obtain ⟨b1, rfl⟩ := opt0 (o := fo1) (by omega)
        obtain ⟨b2, rfl⟩ := opt0 (o := fo2) (by omega)
        simp only [List.getElem_toArray, List.getElem_cons_zero, List.getElem_cons_succ, Act.put, List.setIfInBounds_toArray, List.set_cons_succ, List.set_cons_zero, cond_true, cond_false, List.getElem_toArray, ptrO, Option.isSome_some]
        clear hf hch
        have F0 : Hid (Fr wr 2 [some (b0, (Sd.cells ⟨false, ⟨#[]⟩⟩)), some (b1, (Sd.cells ⟨false, ⟨#[]⟩⟩)), some (b2, (Sd.cells ⟨false, ⟨#[]⟩⟩))] wz) := Lib.hid hF
        clear hF
        obtain ⟨wz0, hw0⟩ : ∃ w9, World.setCells wz b0 0 (Sd.cells s1) = w9 := ⟨_, rfl⟩
        have F1 : Hid (Fr wr 2 [some (b0, (Sd.cells s1)), some (b1, (Sd.cells ⟨false, ⟨#[]⟩⟩)), some (b2, (Sd.cells ⟨false, ⟨#[]⟩⟩))] wz0) := Lib.hid (by rw [← hw0]; exact F0.out.store 0 b0 rfl (Sd.cells s1) rfl)
        refine wpAnyH_ready (rs := [21]) (by kernel_rfl) (by simp) (AllReadyH.cons rfl (fun K hK => ?_) AllReadyH.nil)
        rw [if_pos (by rfl)]
        refine wp_store_as _ _ _ rfl b0 0 (Sd.cells s1) rfl rfl (F0.out.there 0 b0 rfl) (size_sd _) rfl hw0 ?_
        clear hw0
        refine hK.out _ _ F1.out.below (fun _ => ?_)
        simp only [List.getElem_toArray, List.getElem_cons_zero, List.getElem_cons_succ, Act.put, List.setIfInBounds_toArray, List.set_cons_succ, List.set_cons_zero]
        clear F0
        obtain ⟨wz1, hw1⟩ : ∃ w9, World.setCells wz0 b1 0 (Sd.cells s2) = w9 := ⟨_, rfl⟩
        have F2 : Hid (Fr wr 2 [some (b0, (Sd.cells s1)), some (b1, (Sd.cells s2)), some (b2, (Sd.cells ⟨false, ⟨#[]⟩⟩))] wz1) := Lib.hid (by rw [← hw1]; exact F1.out.store 1 b1 rfl (Sd.cells s2) rfl)
        refine wpAnyH_ready (rs := [22]) (by kernel_rfl) (by simp) (AllReadyH.cons rfl (fun K hK => ?_) AllReadyH.nil)
        rw [if_pos (by rfl)]
        refine wp_store_as _ _ _ rfl b1 0 (Sd.cells s2) rfl rfl (F1.out.there 1 b1 rfl) (size_sd _) rfl hw1 ?_
        clear hw1
        refine hK.out _ _ F2.out.below (fun _ => ?_)
        simp only [List.getElem_toArray, List.getElem_cons_zero, List.getElem_cons_succ, Act.put, List.setIfInBounds_toArray, List.set_cons_succ, List.set_cons_zero]
        clear F1
        obtain ⟨wz2, hw2⟩ : ∃ w9, World.setCells wz1 b2 0 (Sd.cells s3) = w9 := ⟨_, rfl⟩
        have F3 : Hid (Fr wr 2 [some (b0, (Sd.cells s1)), some (b1, (Sd.cells s2)), some (b2, (Sd.cells s3))] wz2) := Lib.hid (by rw [← hw2]; exact F2.out.store 2 b2 rfl (Sd.cells s3) rfl)
        refine wpAnyH_ready (rs := [23]) (by kernel_rfl) (by simp) (AllReadyH.cons rfl (fun K hK => ?_) AllReadyH.nil)
        rw [if_pos (by rfl)]
        refine wp_store_as _ _ _ rfl b2 0 (Sd.cells s3) rfl rfl (F2.out.there 2 b2 rfl) (size_sd _) rfl hw2 ?_
        clear hw2
        refine hK.out _ _ F3.out.below (fun _ => ?_)
        simp only [List.getElem_toArray, List.getElem_cons_zero, List.getElem_cons_succ, Act.put, List.setIfInBounds_toArray, List.set_cons_succ, List.set_cons_zero]
        clear F2
        refine wpAnyH_done (by kernel_rfl) ?_ _
        refine NoPanic.normal ?_
        generalize wz2 = w9 at F3 ⊢
        have HF := F3
        have F9 := HF.out
        have G9 := Lib.hid F9.below
        have y0 := (F9.bx 0 b0 s1.cells rfl).1
        have y1 := (F9.bx 1 b1 s2.cells rfl).1
        have y2 := (F9.bx 2 b2 s3.cells rfl).1
        clear F9 HF HC1 HC2 HC3
        have a2 := y1.rg 0 _ rfl
        have a3 := y1.rg 1 _ rfl
        simp only [Nat.zero_add] at a2 a3
        obtain ⟨wx, hwx⟩ : ∃ wx, w9.alloc (.cells #[.bool s2.is, .string s2.t] 41) = wx := ⟨_, rfl⟩
        have LX : Hid (Lies wx w9.heap.size 2 s2.cells) := Lib.hid (by rw [← hwx]; exact Lies.new w9 s2.cells 41)
        have C9 := Lib.hid (show Below w9.heap.size w9 wx by rw [← hwx]; exact (Below.refl _ _).alloc (Nat.le_refl _) _)
        have BX := Lib.hid (G9.out.trans (C9.out.mono G9.out.size))
        have HWX := Lib.hid hwx
        clear hwx
        go_upto_region 8 with fail
        rw [HWX.out]
        clear HWX a2 a3
        have HZ := Lib.hid G9.out.size
        have Y0 := y0.below C9.out y0.lt
        have Y1 := y1.below C9.out y1.lt
        have Y2 := y2.below C9.out y2.lt
        have a0 := Y0.rg 0 _ rfl
        have a1 := Y0.rg 1 _ rfl
        have a2 := Y1.rg 0 _ rfl
        have a3 := Y1.rg 1 _ rfl
        have a4 := Y2.rg 0 _ rfl
        have a5 := Y2.rg 1 _ rfl
        simp only [Nat.zero_add] at a0 a1 a2 a3 a4 a5
        obtain ⟨X, hX⟩ : ∃ X, w9.heap.size = X := ⟨_, rfl⟩
        rw [hX] at LX HZ ⊢
        clear y0 y1 y2 Y0 Y1 Y2 C9 G9 hX
        obtain ⟨x1, hx1⟩ : ∃ x, sameSd s2 s3 = x := ⟨_, rfl⟩
        obtain ⟨x2, hx2⟩ : ∃ x, sameSd s1 s2 = x := ⟨_, rfl⟩
        have n1' := fun w => neq_sds s2 s3 w
        have n2' := fun w => eql_sds s1 s2 w
        rw [hx1] at n1'
        rw [hx2] at n2'
        have hgd := sd_guard
        have HSX := Lib.hid (refMo_eq (s := s) hx1 hx2)
        clear hx1 hx2
        cases x1
        · cases x2
          · go_upto_region 10 with fail
            clear a0 a1 a2 a3 a4 a5
            obtain ⟨w6, hw6⟩ : ∃ w6, w6 = wx := ⟨_, rfl⟩
            have Y6 : Hid (Lies w6 X 2 s2.cells) := Lib.hid (by rw [hw6]; exact LX.out)
            have B6 : Hid (Below wr.heap.size wr w6) := Lib.hid (by rw [hw6]; exact BX.out)
            rw [← hw6]
            clear hw6 LX BX
            have hb66 := B6.out
            obtain ⟨-, -, -, t0⟩ := HQ6.out _ hb66
            have q3 := HQ3.out _ hb66
            go_wp2_with fail
            go_region_held3 (fun w' => w'.cell? ⟨w.heap.size + 1 + 1 + 1, 0, none⟩ = some (.slice A' n' c') ∧ w'.cell? ⟨b, o + k, none⟩ = some (.string s) ∧ Below wr.heap.size wr w')
              (first | exact ⟨q3, t0, hb66.drew⟩ | with_reducible exact K7.out | fail)
              (first
                | (go_at_call 47; have T := HCS.out _ hb66.drew; with_reducible refine Calls.mono T ?_; clear T; rintro e w7 ⟨rfl, hb4⟩; have hb5 := (show Below wr.heap.size wr w7 from hb66.drew.trans (hb4.mono hb66.drew.size)); have hb67 := (show Below w6.heap.size w6 w7 from ((Below.refl w6.heap.size w6).drew).trans (hb4.mono (Below.refl w6.heap.size w6).drew.size)); have K7 := Lib.hid (show w7.cell? ⟨w.heap.size + 1 + 1 + 1, 0, none⟩ = some (.slice A' n' c') ∧ w7.cell? ⟨b, o + k, none⟩ = some (.string s) ∧ Below wr.heap.size wr w7 from ⟨HQ3.out _ hb5, (HQ6.out _ hb5).2.2.2, hb5⟩); have Y7 := Lib.hid (Y6.out.below hb67 Y6.out.lt); clear hb4 hb5 hb67)
                | fail)
            clear q3 t0 hb66
            obtain ⟨q3, t0, hb77⟩ := K7.out
            have MD7 := Lib.hid (hmd.out.below hb77)
            have B7 := Lib.hid hb77
            clear q3 hb77 K7 HCS HQ3
            obtain ⟨sx, hsx⟩ : ∃ sx, s2 = sx := ⟨_, rfl⟩
            have HSY : Hid (refMo ⟨s, s1, s2, s3⟩ = sx) := Lib.hid (by rw [HSX.out, ← hsx]; rfl)
            rw [hsx] at Y7
            clear hsx Y6 B6 HSX
            cases ys
            · obtain ⟨si, tt⟩ := sx
              have MD8 := MD7
              have m0 := MD8.out.bx.cell
              have yx := Y7.out
              have z0 := Y7.out.cell (j := 0) rfl
              have z1 := Y7.out.cell (j := 1) rfl
              obtain ⟨w8, hw8⟩ : ∃ w8, w8 = w7 := ⟨_, rfl⟩
              rw [← hw8] at MD8 m0 yx z0 z1 t0 ⊢
              clear hw8 MD7 Y7 B7
              cases si
              · have HRD := Lib.hid (show refMp l4 ⟨s, s1, s2, s3⟩ = [] by rw [HRT.out, HSY.out]; rfl)
                go_wp2_with fail
                clear z0 z1
                go_roundw
                case rel => exact ⟨k + 1, v, acc, by omega, by omega, by go_num, Lib.hid (by rw [HT.out, HRD.out, List.append_nil]), MD8⟩
                case measure => simp [intOf]; omega
              · obtain ⟨r, hr⟩ : ∃ r : Rw, r = ⟨s, tt⟩ := ⟨_, rfl⟩
                have HRD := Lib.hid (show refMp l4 ⟨s, s1, s2, s3⟩ = [⟨s, tt⟩] by rw [HRT.out, HSY.out]; rfl)
                go_upto_region 14 with fail
                clear z0 z1
                refine wp_region_bar 9 11 (fun w' => w'.cell? ⟨M0, 0, none⟩ = some v ∧ w'.cell? ⟨b, o + k, none⟩ = some (.string s) ∧ w'.rangeAt X 0 [.bool true, .string tt]) (by kernel_rfl) (by kernel_rfl) ⟨m0, t0, yx.rg⟩ ?_
                simp only [List.take_succ_cons, List.take_zero, List.drop_succ_cons, List.drop_zero]
                refine ⟨_, .inl ⟨rfl, fun w' hw' => (by obtain ⟨h1, h2, h3⟩ := hw'; have a0 := h3 0 _ rfl; have a1 := h3 1 _ rfl; clear h3; go_simp; (try rfl))⟩, ?_⟩
                refine ⟨_, .inl ⟨rfl, fun w' hw' => (by obtain ⟨h1, h2, h3⟩ := hw'; have a0 := h3 0 _ rfl; have a1 := h3 1 _ rfl; clear h3; go_simp; (try rfl))⟩, ?_⟩
                refine ⟨_, .inl ⟨rfl, fun w' hw' => (by obtain ⟨h1, h2, h3⟩ := hw'; have a0 := h3 0 _ rfl; have a1 := h3 1 _ rfl; clear h3; go_simp; (try rfl))⟩, ?_⟩
                refine ⟨_, .inl ⟨rfl, fun w' hw' => (by obtain ⟨h1, h2, h3⟩ := hw'; have a0 := h3 0 _ rfl; have a1 := h3 1 _ rfl; clear h3; go_simp; (try rfl))⟩, ?_⟩
                refine ⟨_, .inl ⟨rfl, fun w' hw' => (by obtain ⟨h1, h2, h3⟩ := hw'; have a0 := h3 0 _ rfl; have a1 := h3 1 _ rfl; clear h3; go_simp; (try rfl))⟩, ?_⟩
                refine ⟨_, .inl ⟨rfl, fun w' hw' => (by obtain ⟨h1, h2, h3⟩ := hw'; have a0 := h3 0 _ rfl; have a1 := h3 1 _ rfl; clear h3; go_simp; (try rfl))⟩, ?_⟩
                refine ⟨_, .inl ⟨rfl, fun w' hw' => (by obtain ⟨h1, h2, h3⟩ := hw'; have a0 := h3 0 _ rfl; have a1 := h3 1 _ rfl; clear h3; go_simp; (try rfl))⟩, ?_⟩
                refine ⟨_, .inl ⟨rfl, fun w' hw' => (by obtain ⟨h1, h2, h3⟩ := hw'; have a0 := h3 0 _ rfl; have a1 := h3 1 _ rfl; clear h3; go_simp; (try rfl))⟩, ?_⟩
                refine ⟨_, .inl ⟨rfl, fun w' hw' => (by obtain ⟨h1, h2, h3⟩ := hw'; have a0 := h3 0 _ rfl; have a1 := h3 1 _ rfl; clear h3; go_simp; (try rfl))⟩, ?_⟩
                rw [wpHead_nil]
                rw [wpMid_cons]
                refine ⟨rfl, ?_⟩
                simp only [Act.put, List.setIfInBounds_toArray, List.set_cons_succ, List.set_cons_zero]
                refine wp_one_row (.tmp 82) rfl r (by rw [hr]; rfl) ?_
                have hbA : Below w8.heap.size w8 (w8.drew.alloc (.cells r.cells.toArray 70)) := (Below.refl _ _).drew.alloc (Nat.le_refl _) _
                have hMl : M0 < w8.heap.size := MD8.out.bx.lt
                have hbl : b < w8.heap.size := block_lt_of_cell t0
                refine ⟨⟨(hbA.cell (p := ⟨M0, 0, none⟩) hMl).trans m0, (hbA.cell (p := ⟨b, _, none⟩) hbl).trans t0, rangeAt_keep yx.rg (hbA.block _ yx.lt)⟩, ?_⟩
                rw [wpMid_cons]
                refine ⟨rfl, ?_⟩
                simp only [Act.put, List.setIfInBounds_toArray, List.set_cons_succ, List.set_cons_zero]
                obtain ⟨i0, hi, hz, hz1, hz2⟩ := info_parts info_row
                have hmd1 := (MD8.out.below ((Below.refl _ _).drew.alloc (Nat.le_refl _) (.cells r.cells.toArray 70)))
                have hbs := MD8.out.mv.size
                have hown' := OWL.out
                refine wp_append_lies (w8.drew.alloc (.cells r.cells.toArray 70)) (.tmp 75) (.tmp 83) 22 rfl w2.heap.size 70 i0 _ 2 32 Try.underlying22 hi hz hz1 hz2 rfl (by omega) v acc.length (acc.flatMap Rw.cells) rfl hmd1.own ⟨w8.heap.size, 0, none⟩ 1 1 r.cells rfl rfl (World.news_of_block (heap_alloc_new w8.drew _)) (by intro u hu; exact rw_one [r] u (by simpa using hu)) (by omega) (by unfold maxLen; omega) (by omega) (by simp; omega) (w8.heap.size + 1) (by simp) ?_
                intro g2 c9 w10 hown5 hg5 hat5 hlt5
                have hg6 : (w8.alloc (.cells r.cells.toArray 70)).grownBy w10 v.ownBlock := ⟨hg5.os, hg5.tape, hg5.output, hg5.size, hg5.block⟩
                obtain ⟨hb1, hmd3, hkf, hmv3⟩ := MD8.out.app (W := w8) (tmp := .cells r.cells.toArray 70) hown5 hg6
                have hkb : ∀ y, y < w8.heap.size → (y < w2.heap.size ∨ wr.heap.size ≤ y) → w10.heap[y]? = w8.heap[y]? := fun y hy hy2 => (hg6.block y (by simp; omega) (fun e => by have := hown' y e.symm; omega)).trans (Below.heap_alloc w8 _ y hy)
                refine ⟨⟨hb1.cell, (World.cell?_of_block (a := ⟨b, _, none⟩) (hkb b hbl (.inl HB3.out))).trans t0, rangeAt_keep yx.rg (hkb _ yx.lt (.inr HZ.out))⟩, ?_⟩
                rw [wpMid_nil]
                have x0 := hb1.cell
                have x1 := hb1.frozen
                have HM3 := Lib.hid hmd3
                clear hmd3 hkf hmv3 hown5 hg5 hg6 hat5 hlt5 hb1 hkb hbA hMl hbl hmd1 hbs m0 t0 yx hi hz hz1 hz2 hown'
                simp only [Act.put, List.setIfInBounds_toArray, List.set_cons_succ, List.set_cons_zero]
                go_wp2
                refine NoPanic.normal ?_
                clear x0 x1
                go_wp2_with fail
                go_roundw
                case rel => exact ⟨k + 1, _, acc ++ [r], by omega, by rw [List.length_append]; simp; omega, by go_num, Lib.hid (by rw [HT.out, HRD.out, hr]), Lib.hid (by rw [List.length_append, List.flatMap_append]; exact (by simpa using HM3.out))⟩
                case measure => simp [intOf]; omega
            · have f0 := Y7.out.frozen (j := 0) (by omega)
              have f1 := Y7.out.frozen (j := 1) (by omega)
              have v0 := Y7.out.cell (j := 0) rfl
              have v1 := Y7.out.cell (j := 1) rfl
              have Y8 : Hid (Lies ((w7.setCell ⟨X, 0, none⟩ (.bool zs)).setCell ⟨X, 1, none⟩ (.string ty)) X 2 [.bool zs, .string ty]) := Lib.hid (lies_set2 Y7.out v0 v1)
              have B8 : Hid (Below wr.heap.size wr ((w7.setCell ⟨X, 0, none⟩ (.bool zs)).setCell ⟨X, 1, none⟩ (.string ty))) := Lib.hid ((B7.out.setCell (p := ⟨X, 0, none⟩) HZ.out _).setCell (p := ⟨X, 1, none⟩) HZ.out _)
              go_upto_region 13 with fail
              clear f0 f1 v0 v1 t0
              generalize (w7.setCell ⟨X, 0, none⟩ (.bool zs)).setCell ⟨X, 1, none⟩ (.string ty) = w8 at Y8 B8 ⊢
              have MD8 := Lib.hid (hmd.out.below B8.out)
              have m0 := MD8.out.bx.cell
              obtain ⟨-, -, -, t0⟩ := HQ6.out _ B8.out
              have yx := Y8.out
              have z0 := Y8.out.cell (j := 0) rfl
              have z1 := Y8.out.cell (j := 1) rfl
              clear MD7 B7 Y7 Y8 B8
              obtain ⟨tt, htt⟩ : ∃ tt, ty = tt := ⟨_, rfl⟩
              rw [htt] at yx z1 HRT ⊢
              clear htt
              cases zs
              · have HRD := Lib.hid (show refMp l4 ⟨s, s1, s2, s3⟩ = [] by rw [HRT.out]; rfl)
                go_wp2_with fail
                clear z0 z1
                go_roundw
                case rel => exact ⟨k + 1, v, acc, by omega, by omega, by go_num, Lib.hid (by rw [HT.out, HRD.out, List.append_nil]), MD8⟩
                case measure => simp [intOf]; omega
              · obtain ⟨r, hr⟩ : ∃ r : Rw, r = ⟨s, tt⟩ := ⟨_, rfl⟩
                have HRD := Lib.hid (show refMp l4 ⟨s, s1, s2, s3⟩ = [⟨s, tt⟩] by rw [HRT.out]; rfl)
                go_upto_region 14 with fail
                clear z0 z1
                refine wp_region_bar 9 11 (fun w' => w'.cell? ⟨M0, 0, none⟩ = some v ∧ w'.cell? ⟨b, o + k, none⟩ = some (.string s) ∧ w'.rangeAt X 0 [.bool true, .string tt]) (by kernel_rfl) (by kernel_rfl) ⟨m0, t0, yx.rg⟩ ?_
                simp only [List.take_succ_cons, List.take_zero, List.drop_succ_cons, List.drop_zero]
                refine ⟨_, .inl ⟨rfl, fun w' hw' => (by obtain ⟨h1, h2, h3⟩ := hw'; have a0 := h3 0 _ rfl; have a1 := h3 1 _ rfl; clear h3; go_simp; (try rfl))⟩, ?_⟩
                refine ⟨_, .inl ⟨rfl, fun w' hw' => (by obtain ⟨h1, h2, h3⟩ := hw'; have a0 := h3 0 _ rfl; have a1 := h3 1 _ rfl; clear h3; go_simp; (try rfl))⟩, ?_⟩
                refine ⟨_, .inl ⟨rfl, fun w' hw' => (by obtain ⟨h1, h2, h3⟩ := hw'; have a0 := h3 0 _ rfl; have a1 := h3 1 _ rfl; clear h3; go_simp; (try rfl))⟩, ?_⟩
                refine ⟨_, .inl ⟨rfl, fun w' hw' => (by obtain ⟨h1, h2, h3⟩ := hw'; have a0 := h3 0 _ rfl; have a1 := h3 1 _ rfl; clear h3; go_simp; (try rfl))⟩, ?_⟩
                refine ⟨_, .inl ⟨rfl, fun w' hw' => (by obtain ⟨h1, h2, h3⟩ := hw'; have a0 := h3 0 _ rfl; have a1 := h3 1 _ rfl; clear h3; go_simp; (try rfl))⟩, ?_⟩
                refine ⟨_, .inl ⟨rfl, fun w' hw' => (by obtain ⟨h1, h2, h3⟩ := hw'; have a0 := h3 0 _ rfl; have a1 := h3 1 _ rfl; clear h3; go_simp; (try rfl))⟩, ?_⟩
                refine ⟨_, .inl ⟨rfl, fun w' hw' => (by obtain ⟨h1, h2, h3⟩ := hw'; have a0 := h3 0 _ rfl; have a1 := h3 1 _ rfl; clear h3; go_simp; (try rfl))⟩, ?_⟩
                refine ⟨_, .inl ⟨rfl, fun w' hw' => (by obtain ⟨h1, h2, h3⟩ := hw'; have a0 := h3 0 _ rfl; have a1 := h3 1 _ rfl; clear h3; go_simp; (try rfl))⟩, ?_⟩
                refine ⟨_, .inl ⟨rfl, fun w' hw' => (by obtain ⟨h1, h2, h3⟩ := hw'; have a0 := h3 0 _ rfl; have a1 := h3 1 _ rfl; clear h3; go_simp; (try rfl))⟩, ?_⟩
                rw [wpHead_nil]
                rw [wpMid_cons]
                refine ⟨rfl, ?_⟩
                simp only [Act.put, List.setIfInBounds_toArray, List.set_cons_succ, List.set_cons_zero]
                refine wp_one_row (.tmp 82) rfl r (by rw [hr]; rfl) ?_
                have hbA : Below w8.heap.size w8 (w8.drew.alloc (.cells r.cells.toArray 70)) := (Below.refl _ _).drew.alloc (Nat.le_refl _) _
                have hMl : M0 < w8.heap.size := MD8.out.bx.lt
                have hbl : b < w8.heap.size := block_lt_of_cell t0
                refine ⟨⟨(hbA.cell (p := ⟨M0, 0, none⟩) hMl).trans m0, (hbA.cell (p := ⟨b, _, none⟩) hbl).trans t0, rangeAt_keep yx.rg (hbA.block _ yx.lt)⟩, ?_⟩
                rw [wpMid_cons]
                refine ⟨rfl, ?_⟩
                simp only [Act.put, List.setIfInBounds_toArray, List.set_cons_succ, List.set_cons_zero]
                obtain ⟨i0, hi, hz, hz1, hz2⟩ := info_parts info_row
                have hmd1 := (MD8.out.below ((Below.refl _ _).drew.alloc (Nat.le_refl _) (.cells r.cells.toArray 70)))
                have hbs := MD8.out.mv.size
                have hown' := OWL.out
                refine wp_append_lies (w8.drew.alloc (.cells r.cells.toArray 70)) (.tmp 75) (.tmp 83) 22 rfl w2.heap.size 70 i0 _ 2 32 Try.underlying22 hi hz hz1 hz2 rfl (by omega) v acc.length (acc.flatMap Rw.cells) rfl hmd1.own ⟨w8.heap.size, 0, none⟩ 1 1 r.cells rfl rfl (World.news_of_block (heap_alloc_new w8.drew _)) (by intro u hu; exact rw_one [r] u (by simpa using hu)) (by omega) (by unfold maxLen; omega) (by omega) (by simp; omega) (w8.heap.size + 1) (by simp) ?_
                intro g2 c9 w10 hown5 hg5 hat5 hlt5
                have hg6 : (w8.alloc (.cells r.cells.toArray 70)).grownBy w10 v.ownBlock := ⟨hg5.os, hg5.tape, hg5.output, hg5.size, hg5.block⟩
                obtain ⟨hb1, hmd3, hkf, hmv3⟩ := MD8.out.app (W := w8) (tmp := .cells r.cells.toArray 70) hown5 hg6
                have hkb : ∀ y, y < w8.heap.size → (y < w2.heap.size ∨ wr.heap.size ≤ y) → w10.heap[y]? = w8.heap[y]? := fun y hy hy2 => (hg6.block y (by simp; omega) (fun e => by have := hown' y e.symm; omega)).trans (Below.heap_alloc w8 _ y hy)
                refine ⟨⟨hb1.cell, (World.cell?_of_block (a := ⟨b, _, none⟩) (hkb b hbl (.inl HB3.out))).trans t0, rangeAt_keep yx.rg (hkb _ yx.lt (.inr HZ.out))⟩, ?_⟩
                rw [wpMid_nil]
                have x0 := hb1.cell
                have x1 := hb1.frozen
                have HM3 := Lib.hid hmd3
                clear hmd3 hkf hmv3 hown5 hg5 hg6 hat5 hlt5 hb1 hkb hbA hMl hbl hmd1 hbs m0 t0 yx hi hz hz1 hz2 hown'
                simp only [Act.put, List.setIfInBounds_toArray, List.set_cons_succ, List.set_cons_zero]
                go_wp2
                refine NoPanic.normal ?_
                clear x0 x1
                go_wp2_with fail
                go_roundw
                case rel => exact ⟨k + 1, _, acc ++ [r], by omega, by rw [List.length_append]; simp; omega, by go_num, Lib.hid (by rw [HT.out, HRD.out, hr]), Lib.hid (by rw [List.length_append, List.flatMap_append]; exact (by simpa using HM3.out))⟩
                case measure => simp [intOf]; omega
          · have f0 := LX.out.frozen (j := 0) (by omega)
            have f1 := LX.out.frozen (j := 1) (by omega)
            have v0 := LX.out.cell (j := 0) rfl
            have v1 := LX.out.cell (j := 1) rfl
            have Y6 : Hid (Lies ((wx.setCell ⟨X, 0, none⟩ (.bool s3.is)).setCell ⟨X, 1, none⟩ (.string s3.t)) X 2 s3.cells) := Lib.hid (lies_set2 LX.out v0 v1)
            have B6 : Hid (Below wr.heap.size wr ((wx.setCell ⟨X, 0, none⟩ (.bool s3.is)).setCell ⟨X, 1, none⟩ (.string s3.t))) := Lib.hid ((BX.out.setCell (p := ⟨X, 0, none⟩) HZ.out _).setCell (p := ⟨X, 1, none⟩) HZ.out _)
            go_upto_region 10 with fail
            clear f0 f1 v0 v1 a0 a1 a2 a3 a4 a5
            generalize (wx.setCell ⟨X, 0, none⟩ (.bool s3.is)).setCell ⟨X, 1, none⟩ (.string s3.t) = w6 at Y6 B6 ⊢
            clear LX BX
            have hb66 := B6.out
            obtain ⟨-, -, -, t0⟩ := HQ6.out _ hb66
            have q3 := HQ3.out _ hb66
            go_wp2_with fail
            go_region_held3 (fun w' => w'.cell? ⟨w.heap.size + 1 + 1 + 1, 0, none⟩ = some (.slice A' n' c') ∧ w'.cell? ⟨b, o + k, none⟩ = some (.string s) ∧ Below wr.heap.size wr w')
              (first | exact ⟨q3, t0, hb66.drew⟩ | with_reducible exact K7.out | fail)
              (first
                | (go_at_call 47; have T := HCS.out _ hb66.drew; with_reducible refine Calls.mono T ?_; clear T; rintro e w7 ⟨rfl, hb4⟩; have hb5 := (show Below wr.heap.size wr w7 from hb66.drew.trans (hb4.mono hb66.drew.size)); have hb67 := (show Below w6.heap.size w6 w7 from ((Below.refl w6.heap.size w6).drew).trans (hb4.mono (Below.refl w6.heap.size w6).drew.size)); have K7 := Lib.hid (show w7.cell? ⟨w.heap.size + 1 + 1 + 1, 0, none⟩ = some (.slice A' n' c') ∧ w7.cell? ⟨b, o + k, none⟩ = some (.string s) ∧ Below wr.heap.size wr w7 from ⟨HQ3.out _ hb5, (HQ6.out _ hb5).2.2.2, hb5⟩); have Y7 := Lib.hid (Y6.out.below hb67 Y6.out.lt); clear hb4 hb5 hb67)
                | fail)
            clear q3 t0 hb66
            obtain ⟨q3, t0, hb77⟩ := K7.out
            have MD7 := Lib.hid (hmd.out.below hb77)
            have B7 := Lib.hid hb77
            clear q3 hb77 K7 HCS HQ3
            obtain ⟨sx, hsx⟩ : ∃ sx, s3 = sx := ⟨_, rfl⟩
            have HSY : Hid (refMo ⟨s, s1, s2, s3⟩ = sx) := Lib.hid (by rw [HSX.out, ← hsx]; rfl)
            rw [hsx] at Y7
            clear hsx Y6 B6 HSX
            cases ys
            · obtain ⟨si, tt⟩ := sx
              have MD8 := MD7
              have m0 := MD8.out.bx.cell
              have yx := Y7.out
              have z0 := Y7.out.cell (j := 0) rfl
              have z1 := Y7.out.cell (j := 1) rfl
              obtain ⟨w8, hw8⟩ : ∃ w8, w8 = w7 := ⟨_, rfl⟩
              rw [← hw8] at MD8 m0 yx z0 z1 t0 ⊢
              clear hw8 MD7 Y7 B7
              cases si
              · have HRD := Lib.hid (show refMp l4 ⟨s, s1, s2, s3⟩ = [] by rw [HRT.out, HSY.out]; rfl)
                go_wp2_with fail
                clear z0 z1
                go_roundw
                case rel => exact ⟨k + 1, v, acc, by omega, by omega, by go_num, Lib.hid (by rw [HT.out, HRD.out, List.append_nil]), MD8⟩
                case measure => simp [intOf]; omega
              · obtain ⟨r, hr⟩ : ∃ r : Rw, r = ⟨s, tt⟩ := ⟨_, rfl⟩
                have HRD := Lib.hid (show refMp l4 ⟨s, s1, s2, s3⟩ = [⟨s, tt⟩] by rw [HRT.out, HSY.out]; rfl)
                go_upto_region 14 with fail
                clear z0 z1
                refine wp_region_bar 9 11 (fun w' => w'.cell? ⟨M0, 0, none⟩ = some v ∧ w'.cell? ⟨b, o + k, none⟩ = some (.string s) ∧ w'.rangeAt X 0 [.bool true, .string tt]) (by kernel_rfl) (by kernel_rfl) ⟨m0, t0, yx.rg⟩ ?_
                simp only [List.take_succ_cons, List.take_zero, List.drop_succ_cons, List.drop_zero]
                refine ⟨_, .inl ⟨rfl, fun w' hw' => (by obtain ⟨h1, h2, h3⟩ := hw'; have a0 := h3 0 _ rfl; have a1 := h3 1 _ rfl; clear h3; go_simp; (try rfl))⟩, ?_⟩
                refine ⟨_, .inl ⟨rfl, fun w' hw' => (by obtain ⟨h1, h2, h3⟩ := hw'; have a0 := h3 0 _ rfl; have a1 := h3 1 _ rfl; clear h3; go_simp; (try rfl))⟩, ?_⟩
                refine ⟨_, .inl ⟨rfl, fun w' hw' => (by obtain ⟨h1, h2, h3⟩ := hw'; have a0 := h3 0 _ rfl; have a1 := h3 1 _ rfl; clear h3; go_simp; (try rfl))⟩, ?_⟩
                refine ⟨_, .inl ⟨rfl, fun w' hw' => (by obtain ⟨h1, h2, h3⟩ := hw'; have a0 := h3 0 _ rfl; have a1 := h3 1 _ rfl; clear h3; go_simp; (try rfl))⟩, ?_⟩
                refine ⟨_, .inl ⟨rfl, fun w' hw' => (by obtain ⟨h1, h2, h3⟩ := hw'; have a0 := h3 0 _ rfl; have a1 := h3 1 _ rfl; clear h3; go_simp; (try rfl))⟩, ?_⟩
                refine ⟨_, .inl ⟨rfl, fun w' hw' => (by obtain ⟨h1, h2, h3⟩ := hw'; have a0 := h3 0 _ rfl; have a1 := h3 1 _ rfl; clear h3; go_simp; (try rfl))⟩, ?_⟩
                refine ⟨_, .inl ⟨rfl, fun w' hw' => (by obtain ⟨h1, h2, h3⟩ := hw'; have a0 := h3 0 _ rfl; have a1 := h3 1 _ rfl; clear h3; go_simp; (try rfl))⟩, ?_⟩
                refine ⟨_, .inl ⟨rfl, fun w' hw' => (by obtain ⟨h1, h2, h3⟩ := hw'; have a0 := h3 0 _ rfl; have a1 := h3 1 _ rfl; clear h3; go_simp; (try rfl))⟩, ?_⟩
                refine ⟨_, .inl ⟨rfl, fun w' hw' => (by obtain ⟨h1, h2, h3⟩ := hw'; have a0 := h3 0 _ rfl; have a1 := h3 1 _ rfl; clear h3; go_simp; (try rfl))⟩, ?_⟩
                rw [wpHead_nil]
                rw [wpMid_cons]
                refine ⟨rfl, ?_⟩
                simp only [Act.put, List.setIfInBounds_toArray, List.set_cons_succ, List.set_cons_zero]
                refine wp_one_row (.tmp 82) rfl r (by rw [hr]; rfl) ?_
                have hbA : Below w8.heap.size w8 (w8.drew.alloc (.cells r.cells.toArray 70)) := (Below.refl _ _).drew.alloc (Nat.le_refl _) _
                have hMl : M0 < w8.heap.size := MD8.out.bx.lt
                have hbl : b < w8.heap.size := block_lt_of_cell t0
                refine ⟨⟨(hbA.cell (p := ⟨M0, 0, none⟩) hMl).trans m0, (hbA.cell (p := ⟨b, _, none⟩) hbl).trans t0, rangeAt_keep yx.rg (hbA.block _ yx.lt)⟩, ?_⟩
                rw [wpMid_cons]
                refine ⟨rfl, ?_⟩
                simp only [Act.put, List.setIfInBounds_toArray, List.set_cons_succ, List.set_cons_zero]
                obtain ⟨i0, hi, hz, hz1, hz2⟩ := info_parts info_row
                have hmd1 := (MD8.out.below ((Below.refl _ _).drew.alloc (Nat.le_refl _) (.cells r.cells.toArray 70)))
                have hbs := MD8.out.mv.size
                have hown' := OWL.out
                refine wp_append_lies (w8.drew.alloc (.cells r.cells.toArray 70)) (.tmp 75) (.tmp 83) 22 rfl w2.heap.size 70 i0 _ 2 32 Try.underlying22 hi hz hz1 hz2 rfl (by omega) v acc.length (acc.flatMap Rw.cells) rfl hmd1.own ⟨w8.heap.size, 0, none⟩ 1 1 r.cells rfl rfl (World.news_of_block (heap_alloc_new w8.drew _)) (by intro u hu; exact rw_one [r] u (by simpa using hu)) (by omega) (by unfold maxLen; omega) (by omega) (by simp; omega) (w8.heap.size + 1) (by simp) ?_
                intro g2 c9 w10 hown5 hg5 hat5 hlt5
                have hg6 : (w8.alloc (.cells r.cells.toArray 70)).grownBy w10 v.ownBlock := ⟨hg5.os, hg5.tape, hg5.output, hg5.size, hg5.block⟩
                obtain ⟨hb1, hmd3, hkf, hmv3⟩ := MD8.out.app (W := w8) (tmp := .cells r.cells.toArray 70) hown5 hg6
                have hkb : ∀ y, y < w8.heap.size → (y < w2.heap.size ∨ wr.heap.size ≤ y) → w10.heap[y]? = w8.heap[y]? := fun y hy hy2 => (hg6.block y (by simp; omega) (fun e => by have := hown' y e.symm; omega)).trans (Below.heap_alloc w8 _ y hy)
                refine ⟨⟨hb1.cell, (World.cell?_of_block (a := ⟨b, _, none⟩) (hkb b hbl (.inl HB3.out))).trans t0, rangeAt_keep yx.rg (hkb _ yx.lt (.inr HZ.out))⟩, ?_⟩
                rw [wpMid_nil]
                have x0 := hb1.cell
                have x1 := hb1.frozen
                have HM3 := Lib.hid hmd3
                clear hmd3 hkf hmv3 hown5 hg5 hg6 hat5 hlt5 hb1 hkb hbA hMl hbl hmd1 hbs m0 t0 yx hi hz hz1 hz2 hown'
                simp only [Act.put, List.setIfInBounds_toArray, List.set_cons_succ, List.set_cons_zero]
                go_wp2
                refine NoPanic.normal ?_
                clear x0 x1
                go_wp2_with fail
                go_roundw
                case rel => exact ⟨k + 1, _, acc ++ [r], by omega, by rw [List.length_append]; simp; omega, by go_num, Lib.hid (by rw [HT.out, HRD.out, hr]), Lib.hid (by rw [List.length_append, List.flatMap_append]; exact (by simpa using HM3.out))⟩
                case measure => simp [intOf]; omega
            · have f0 := Y7.out.frozen (j := 0) (by omega)
              have f1 := Y7.out.frozen (j := 1) (by omega)
              have v0 := Y7.out.cell (j := 0) rfl
              have v1 := Y7.out.cell (j := 1) rfl
              have Y8 : Hid (Lies ((w7.setCell ⟨X, 0, none⟩ (.bool zs)).setCell ⟨X, 1, none⟩ (.string ty)) X 2 [.bool zs, .string ty]) := Lib.hid (lies_set2 Y7.out v0 v1)
              have B8 : Hid (Below wr.heap.size wr ((w7.setCell ⟨X, 0, none⟩ (.bool zs)).setCell ⟨X, 1, none⟩ (.string ty))) := Lib.hid ((B7.out.setCell (p := ⟨X, 0, none⟩) HZ.out _).setCell (p := ⟨X, 1, none⟩) HZ.out _)
              go_upto_region 13 with fail
              clear f0 f1 v0 v1 t0
              generalize (w7.setCell ⟨X, 0, none⟩ (.bool zs)).setCell ⟨X, 1, none⟩ (.string ty) = w8 at Y8 B8 ⊢
              have MD8 := Lib.hid (hmd.out.below B8.out)
              have m0 := MD8.out.bx.cell
              obtain ⟨-, -, -, t0⟩ := HQ6.out _ B8.out
              have yx := Y8.out
              have z0 := Y8.out.cell (j := 0) rfl
              have z1 := Y8.out.cell (j := 1) rfl
              clear MD7 B7 Y7 Y8 B8
              obtain ⟨tt, htt⟩ : ∃ tt, ty = tt := ⟨_, rfl⟩
              rw [htt] at yx z1 HRT ⊢
              clear htt
              cases zs
              · have HRD := Lib.hid (show refMp l4 ⟨s, s1, s2, s3⟩ = [] by rw [HRT.out]; rfl)
                go_wp2_with fail
                clear z0 z1
                go_roundw
                case rel => exact ⟨k + 1, v, acc, by omega, by omega, by go_num, Lib.hid (by rw [HT.out, HRD.out, List.append_nil]), MD8⟩
                case measure => simp [intOf]; omega
              · obtain ⟨r, hr⟩ : ∃ r : Rw, r = ⟨s, tt⟩ := ⟨_, rfl⟩
                have HRD := Lib.hid (show refMp l4 ⟨s, s1, s2, s3⟩ = [⟨s, tt⟩] by rw [HRT.out]; rfl)
                go_upto_region 14 with fail
                clear z0 z1
                refine wp_region_bar 9 11 (fun w' => w'.cell? ⟨M0, 0, none⟩ = some v ∧ w'.cell? ⟨b, o + k, none⟩ = some (.string s) ∧ w'.rangeAt X 0 [.bool true, .string tt]) (by kernel_rfl) (by kernel_rfl) ⟨m0, t0, yx.rg⟩ ?_
                simp only [List.take_succ_cons, List.take_zero, List.drop_succ_cons, List.drop_zero]
                refine ⟨_, .inl ⟨rfl, fun w' hw' => (by obtain ⟨h1, h2, h3⟩ := hw'; have a0 := h3 0 _ rfl; have a1 := h3 1 _ rfl; clear h3; go_simp; (try rfl))⟩, ?_⟩
                refine ⟨_, .inl ⟨rfl, fun w' hw' => (by obtain ⟨h1, h2, h3⟩ := hw'; have a0 := h3 0 _ rfl; have a1 := h3 1 _ rfl; clear h3; go_simp; (try rfl))⟩, ?_⟩
                refine ⟨_, .inl ⟨rfl, fun w' hw' => (by obtain ⟨h1, h2, h3⟩ := hw'; have a0 := h3 0 _ rfl; have a1 := h3 1 _ rfl; clear h3; go_simp; (try rfl))⟩, ?_⟩
                refine ⟨_, .inl ⟨rfl, fun w' hw' => (by obtain ⟨h1, h2, h3⟩ := hw'; have a0 := h3 0 _ rfl; have a1 := h3 1 _ rfl; clear h3; go_simp; (try rfl))⟩, ?_⟩
                refine ⟨_, .inl ⟨rfl, fun w' hw' => (by obtain ⟨h1, h2, h3⟩ := hw'; have a0 := h3 0 _ rfl; have a1 := h3 1 _ rfl; clear h3; go_simp; (try rfl))⟩, ?_⟩
                refine ⟨_, .inl ⟨rfl, fun w' hw' => (by obtain ⟨h1, h2, h3⟩ := hw'; have a0 := h3 0 _ rfl; have a1 := h3 1 _ rfl; clear h3; go_simp; (try rfl))⟩, ?_⟩
                refine ⟨_, .inl ⟨rfl, fun w' hw' => (by obtain ⟨h1, h2, h3⟩ := hw'; have a0 := h3 0 _ rfl; have a1 := h3 1 _ rfl; clear h3; go_simp; (try rfl))⟩, ?_⟩
                refine ⟨_, .inl ⟨rfl, fun w' hw' => (by obtain ⟨h1, h2, h3⟩ := hw'; have a0 := h3 0 _ rfl; have a1 := h3 1 _ rfl; clear h3; go_simp; (try rfl))⟩, ?_⟩
                refine ⟨_, .inl ⟨rfl, fun w' hw' => (by obtain ⟨h1, h2, h3⟩ := hw'; have a0 := h3 0 _ rfl; have a1 := h3 1 _ rfl; clear h3; go_simp; (try rfl))⟩, ?_⟩
                rw [wpHead_nil]
                rw [wpMid_cons]
                refine ⟨rfl, ?_⟩
                simp only [Act.put, List.setIfInBounds_toArray, List.set_cons_succ, List.set_cons_zero]
                refine wp_one_row (.tmp 82) rfl r (by rw [hr]; rfl) ?_
                have hbA : Below w8.heap.size w8 (w8.drew.alloc (.cells r.cells.toArray 70)) := (Below.refl _ _).drew.alloc (Nat.le_refl _) _
                have hMl : M0 < w8.heap.size := MD8.out.bx.lt
                have hbl : b < w8.heap.size := block_lt_of_cell t0
                refine ⟨⟨(hbA.cell (p := ⟨M0, 0, none⟩) hMl).trans m0, (hbA.cell (p := ⟨b, _, none⟩) hbl).trans t0, rangeAt_keep yx.rg (hbA.block _ yx.lt)⟩, ?_⟩
                rw [wpMid_cons]
                refine ⟨rfl, ?_⟩
                simp only [Act.put, List.setIfInBounds_toArray, List.set_cons_succ, List.set_cons_zero]
                obtain ⟨i0, hi, hz, hz1, hz2⟩ := info_parts info_row
                have hmd1 := (MD8.out.below ((Below.refl _ _).drew.alloc (Nat.le_refl _) (.cells r.cells.toArray 70)))
                have hbs := MD8.out.mv.size
                have hown' := OWL.out
                refine wp_append_lies (w8.drew.alloc (.cells r.cells.toArray 70)) (.tmp 75) (.tmp 83) 22 rfl w2.heap.size 70 i0 _ 2 32 Try.underlying22 hi hz hz1 hz2 rfl (by omega) v acc.length (acc.flatMap Rw.cells) rfl hmd1.own ⟨w8.heap.size, 0, none⟩ 1 1 r.cells rfl rfl (World.news_of_block (heap_alloc_new w8.drew _)) (by intro u hu; exact rw_one [r] u (by simpa using hu)) (by omega) (by unfold maxLen; omega) (by omega) (by simp; omega) (w8.heap.size + 1) (by simp) ?_
                intro g2 c9 w10 hown5 hg5 hat5 hlt5
                have hg6 : (w8.alloc (.cells r.cells.toArray 70)).grownBy w10 v.ownBlock := ⟨hg5.os, hg5.tape, hg5.output, hg5.size, hg5.block⟩
                obtain ⟨hb1, hmd3, hkf, hmv3⟩ := MD8.out.app (W := w8) (tmp := .cells r.cells.toArray 70) hown5 hg6
                have hkb : ∀ y, y < w8.heap.size → (y < w2.heap.size ∨ wr.heap.size ≤ y) → w10.heap[y]? = w8.heap[y]? := fun y hy hy2 => (hg6.block y (by simp; omega) (fun e => by have := hown' y e.symm; omega)).trans (Below.heap_alloc w8 _ y hy)
                refine ⟨⟨hb1.cell, (World.cell?_of_block (a := ⟨b, _, none⟩) (hkb b hbl (.inl HB3.out))).trans t0, rangeAt_keep yx.rg (hkb _ yx.lt (.inr HZ.out))⟩, ?_⟩
                rw [wpMid_nil]
                have x0 := hb1.cell
                have x1 := hb1.frozen
                have HM3 := Lib.hid hmd3
                clear hmd3 hkf hmv3 hown5 hg5 hg6 hat5 hlt5 hb1 hkb hbA hMl hbl hmd1 hbs m0 t0 yx hi hz hz1 hz2 hown'
                simp only [Act.put, List.setIfInBounds_toArray, List.set_cons_succ, List.set_cons_zero]
                go_wp2
                refine NoPanic.normal ?_
                clear x0 x1
                go_wp2_with fail
                go_roundw
                case rel => exact ⟨k + 1, _, acc ++ [r], by omega, by rw [List.length_append]; simp; omega, by go_num, Lib.hid (by rw [HT.out, HRD.out, hr]), Lib.hid (by rw [List.length_append, List.flatMap_append]; exact (by simpa using HM3.out))⟩
                case measure => simp [intOf]; omega
        · go_upto_region 10 with fail
          clear a0 a1 a2 a3 a4 a5
          obtain ⟨w6, hw6⟩ : ∃ w6, w6 = wx := ⟨_, rfl⟩
          have Y6 : Hid (Lies w6 X 2 s2.cells) := Lib.hid (by rw [hw6]; exact LX.out)
          have B6 : Hid (Below wr.heap.size wr w6) := Lib.hid (by rw [hw6]; exact BX.out)
          rw [← hw6]
          clear hw6 LX BX
          have hb66 := B6.out
          obtain ⟨-, -, -, t0⟩ := HQ6.out _ hb66
          have q3 := HQ3.out _ hb66
          go_wp2_with fail
          go_region_held3 (fun w' => w'.cell? ⟨w.heap.size + 1 + 1 + 1, 0, none⟩ = some (.slice A' n' c') ∧ w'.cell? ⟨b, o + k, none⟩ = some (.string s) ∧ Below wr.heap.size wr w')
            (first | exact ⟨q3, t0, hb66.drew⟩ | with_reducible exact K7.out | fail)
            (first
              | (go_at_call 47; have T := HCS.out _ hb66.drew; with_reducible refine Calls.mono T ?_; clear T; rintro e w7 ⟨rfl, hb4⟩; have hb5 := (show Below wr.heap.size wr w7 from hb66.drew.trans (hb4.mono hb66.drew.size)); have hb67 := (show Below w6.heap.size w6 w7 from ((Below.refl w6.heap.size w6).drew).trans (hb4.mono (Below.refl w6.heap.size w6).drew.size)); have K7 := Lib.hid (show w7.cell? ⟨w.heap.size + 1 + 1 + 1, 0, none⟩ = some (.slice A' n' c') ∧ w7.cell? ⟨b, o + k, none⟩ = some (.string s) ∧ Below wr.heap.size wr w7 from ⟨HQ3.out _ hb5, (HQ6.out _ hb5).2.2.2, hb5⟩); have Y7 := Lib.hid (Y6.out.below hb67 Y6.out.lt); clear hb4 hb5 hb67)
              | fail)
          clear q3 t0 hb66
          obtain ⟨q3, t0, hb77⟩ := K7.out
          have MD7 := Lib.hid (hmd.out.below hb77)
          have B7 := Lib.hid hb77
          clear q3 hb77 K7 HCS HQ3
          obtain ⟨sx, hsx⟩ : ∃ sx, s2 = sx := ⟨_, rfl⟩
          have HSY : Hid (refMo ⟨s, s1, s2, s3⟩ = sx) := Lib.hid (by rw [HSX.out, ← hsx]; rfl)
          rw [hsx] at Y7
          clear hsx Y6 B6 HSX
          cases ys
          · obtain ⟨si, tt⟩ := sx
            have MD8 := MD7
            have m0 := MD8.out.bx.cell
            have yx := Y7.out
            have z0 := Y7.out.cell (j := 0) rfl
            have z1 := Y7.out.cell (j := 1) rfl
            obtain ⟨w8, hw8⟩ : ∃ w8, w8 = w7 := ⟨_, rfl⟩
            rw [← hw8] at MD8 m0 yx z0 z1 t0 ⊢
            clear hw8 MD7 Y7 B7
            cases si
            · have HRD := Lib.hid (show refMp l4 ⟨s, s1, s2, s3⟩ = [] by rw [HRT.out, HSY.out]; rfl)
              go_wp2_with fail
              clear z0 z1
              go_roundw
              case rel => exact ⟨k + 1, v, acc, by omega, by omega, by go_num, Lib.hid (by rw [HT.out, HRD.out, List.append_nil]), MD8⟩
              case measure => simp [intOf]; omega
            · obtain ⟨r, hr⟩ : ∃ r : Rw, r = ⟨s, tt⟩ := ⟨_, rfl⟩
              have HRD := Lib.hid (show refMp l4 ⟨s, s1, s2, s3⟩ = [⟨s, tt⟩] by rw [HRT.out, HSY.out]; rfl)
              go_upto_region 14 with fail
              clear z0 z1
              refine wp_region_bar 9 11 (fun w' => w'.cell? ⟨M0, 0, none⟩ = some v ∧ w'.cell? ⟨b, o + k, none⟩ = some (.string s) ∧ w'.rangeAt X 0 [.bool true, .string tt]) (by kernel_rfl) (by kernel_rfl) ⟨m0, t0, yx.rg⟩ ?_
              simp only [List.take_succ_cons, List.take_zero, List.drop_succ_cons, List.drop_zero]
              refine ⟨_, .inl ⟨rfl, fun w' hw' => (by obtain ⟨h1, h2, h3⟩ := hw'; have a0 := h3 0 _ rfl; have a1 := h3 1 _ rfl; clear h3; go_simp; (try rfl))⟩, ?_⟩
              refine ⟨_, .inl ⟨rfl, fun w' hw' => (by obtain ⟨h1, h2, h3⟩ := hw'; have a0 := h3 0 _ rfl; have a1 := h3 1 _ rfl; clear h3; go_simp; (try rfl))⟩, ?_⟩
              refine ⟨_, .inl ⟨rfl, fun w' hw' => (by obtain ⟨h1, h2, h3⟩ := hw'; have a0 := h3 0 _ rfl; have a1 := h3 1 _ rfl; clear h3; go_simp; (try rfl))⟩, ?_⟩
              refine ⟨_, .inl ⟨rfl, fun w' hw' => (by obtain ⟨h1, h2, h3⟩ := hw'; have a0 := h3 0 _ rfl; have a1 := h3 1 _ rfl; clear h3; go_simp; (try rfl))⟩, ?_⟩
              refine ⟨_, .inl ⟨rfl, fun w' hw' => (by obtain ⟨h1, h2, h3⟩ := hw'; have a0 := h3 0 _ rfl; have a1 := h3 1 _ rfl; clear h3; go_simp; (try rfl))⟩, ?_⟩
              refine ⟨_, .inl ⟨rfl, fun w' hw' => (by obtain ⟨h1, h2, h3⟩ := hw'; have a0 := h3 0 _ rfl; have a1 := h3 1 _ rfl; clear h3; go_simp; (try rfl))⟩, ?_⟩
              refine ⟨_, .inl ⟨rfl, fun w' hw' => (by obtain ⟨h1, h2, h3⟩ := hw'; have a0 := h3 0 _ rfl; have a1 := h3 1 _ rfl; clear h3; go_simp; (try rfl))⟩, ?_⟩
              refine ⟨_, .inl ⟨rfl, fun w' hw' => (by obtain ⟨h1, h2, h3⟩ := hw'; have a0 := h3 0 _ rfl; have a1 := h3 1 _ rfl; clear h3; go_simp; (try rfl))⟩, ?_⟩
              refine ⟨_, .inl ⟨rfl, fun w' hw' => (by obtain ⟨h1, h2, h3⟩ := hw'; have a0 := h3 0 _ rfl; have a1 := h3 1 _ rfl; clear h3; go_simp; (try rfl))⟩, ?_⟩
              rw [wpHead_nil]
              rw [wpMid_cons]
              refine ⟨rfl, ?_⟩
              simp only [Act.put, List.setIfInBounds_toArray, List.set_cons_succ, List.set_cons_zero]
              refine wp_one_row (.tmp 82) rfl r (by rw [hr]; rfl) ?_
              have hbA : Below w8.heap.size w8 (w8.drew.alloc (.cells r.cells.toArray 70)) := (Below.refl _ _).drew.alloc (Nat.le_refl _) _
              have hMl : M0 < w8.heap.size := MD8.out.bx.lt
              have hbl : b < w8.heap.size := block_lt_of_cell t0
              refine ⟨⟨(hbA.cell (p := ⟨M0, 0, none⟩) hMl).trans m0, (hbA.cell (p := ⟨b, _, none⟩) hbl).trans t0, rangeAt_keep yx.rg (hbA.block _ yx.lt)⟩, ?_⟩
              rw [wpMid_cons]
              refine ⟨rfl, ?_⟩
              simp only [Act.put, List.setIfInBounds_toArray, List.set_cons_succ, List.set_cons_zero]
              obtain ⟨i0, hi, hz, hz1, hz2⟩ := info_parts info_row
              have hmd1 := (MD8.out.below ((Below.refl _ _).drew.alloc (Nat.le_refl _) (.cells r.cells.toArray 70)))
              have hbs := MD8.out.mv.size
              have hown' := OWL.out
              refine wp_append_lies (w8.drew.alloc (.cells r.cells.toArray 70)) (.tmp 75) (.tmp 83) 22 rfl w2.heap.size 70 i0 _ 2 32 Try.underlying22 hi hz hz1 hz2 rfl (by omega) v acc.length (acc.flatMap Rw.cells) rfl hmd1.own ⟨w8.heap.size, 0, none⟩ 1 1 r.cells rfl rfl (World.news_of_block (heap_alloc_new w8.drew _)) (by intro u hu; exact rw_one [r] u (by simpa using hu)) (by omega) (by unfold maxLen; omega) (by omega) (by simp; omega) (w8.heap.size + 1) (by simp) ?_
              intro g2 c9 w10 hown5 hg5 hat5 hlt5
              have hg6 : (w8.alloc (.cells r.cells.toArray 70)).grownBy w10 v.ownBlock := ⟨hg5.os, hg5.tape, hg5.output, hg5.size, hg5.block⟩
              obtain ⟨hb1, hmd3, hkf, hmv3⟩ := MD8.out.app (W := w8) (tmp := .cells r.cells.toArray 70) hown5 hg6
              have hkb : ∀ y, y < w8.heap.size → (y < w2.heap.size ∨ wr.heap.size ≤ y) → w10.heap[y]? = w8.heap[y]? := fun y hy hy2 => (hg6.block y (by simp; omega) (fun e => by have := hown' y e.symm; omega)).trans (Below.heap_alloc w8 _ y hy)
              refine ⟨⟨hb1.cell, (World.cell?_of_block (a := ⟨b, _, none⟩) (hkb b hbl (.inl HB3.out))).trans t0, rangeAt_keep yx.rg (hkb _ yx.lt (.inr HZ.out))⟩, ?_⟩
              rw [wpMid_nil]
              have x0 := hb1.cell
              have x1 := hb1.frozen
              have HM3 := Lib.hid hmd3
              clear hmd3 hkf hmv3 hown5 hg5 hg6 hat5 hlt5 hb1 hkb hbA hMl hbl hmd1 hbs m0 t0 yx hi hz hz1 hz2 hown'
              simp only [Act.put, List.setIfInBounds_toArray, List.set_cons_succ, List.set_cons_zero]
              go_wp2
              refine NoPanic.normal ?_
              clear x0 x1
              go_wp2_with fail
              go_roundw
              case rel => exact ⟨k + 1, _, acc ++ [r], by omega, by rw [List.length_append]; simp; omega, by go_num, Lib.hid (by rw [HT.out, HRD.out, hr]), Lib.hid (by rw [List.length_append, List.flatMap_append]; exact (by simpa using HM3.out))⟩
              case measure => simp [intOf]; omega
          · have f0 := Y7.out.frozen (j := 0) (by omega)
            have f1 := Y7.out.frozen (j := 1) (by omega)
            have v0 := Y7.out.cell (j := 0) rfl
            have v1 := Y7.out.cell (j := 1) rfl
            have Y8 : Hid (Lies ((w7.setCell ⟨X, 0, none⟩ (.bool zs)).setCell ⟨X, 1, none⟩ (.string ty)) X 2 [.bool zs, .string ty]) := Lib.hid (lies_set2 Y7.out v0 v1)
            have B8 : Hid (Below wr.heap.size wr ((w7.setCell ⟨X, 0, none⟩ (.bool zs)).setCell ⟨X, 1, none⟩ (.string ty))) := Lib.hid ((B7.out.setCell (p := ⟨X, 0, none⟩) HZ.out _).setCell (p := ⟨X, 1, none⟩) HZ.out _)
            go_upto_region 13 with fail
            clear f0 f1 v0 v1 t0
            generalize (w7.setCell ⟨X, 0, none⟩ (.bool zs)).setCell ⟨X, 1, none⟩ (.string ty) = w8 at Y8 B8 ⊢
            have MD8 := Lib.hid (hmd.out.below B8.out)
            have m0 := MD8.out.bx.cell
            obtain ⟨-, -, -, t0⟩ := HQ6.out _ B8.out
            have yx := Y8.out
            have z0 := Y8.out.cell (j := 0) rfl
            have z1 := Y8.out.cell (j := 1) rfl
            clear MD7 B7 Y7 Y8 B8
            obtain ⟨tt, htt⟩ : ∃ tt, ty = tt := ⟨_, rfl⟩
            rw [htt] at yx z1 HRT ⊢
            clear htt
            cases zs
            · have HRD := Lib.hid (show refMp l4 ⟨s, s1, s2, s3⟩ = [] by rw [HRT.out]; rfl)
              go_wp2_with fail
              clear z0 z1
              go_roundw
              case rel => exact ⟨k + 1, v, acc, by omega, by omega, by go_num, Lib.hid (by rw [HT.out, HRD.out, List.append_nil]), MD8⟩
              case measure => simp [intOf]; omega
            · obtain ⟨r, hr⟩ : ∃ r : Rw, r = ⟨s, tt⟩ := ⟨_, rfl⟩
              have HRD := Lib.hid (show refMp l4 ⟨s, s1, s2, s3⟩ = [⟨s, tt⟩] by rw [HRT.out]; rfl)
              go_upto_region 14 with fail
              clear z0 z1
              refine wp_region_bar 9 11 (fun w' => w'.cell? ⟨M0, 0, none⟩ = some v ∧ w'.cell? ⟨b, o + k, none⟩ = some (.string s) ∧ w'.rangeAt X 0 [.bool true, .string tt]) (by kernel_rfl) (by kernel_rfl) ⟨m0, t0, yx.rg⟩ ?_
              simp only [List.take_succ_cons, List.take_zero, List.drop_succ_cons, List.drop_zero]
              refine ⟨_, .inl ⟨rfl, fun w' hw' => (by obtain ⟨h1, h2, h3⟩ := hw'; have a0 := h3 0 _ rfl; have a1 := h3 1 _ rfl; clear h3; go_simp; (try rfl))⟩, ?_⟩
              refine ⟨_, .inl ⟨rfl, fun w' hw' => (by obtain ⟨h1, h2, h3⟩ := hw'; have a0 := h3 0 _ rfl; have a1 := h3 1 _ rfl; clear h3; go_simp; (try rfl))⟩, ?_⟩
              refine ⟨_, .inl ⟨rfl, fun w' hw' => (by obtain ⟨h1, h2, h3⟩ := hw'; have a0 := h3 0 _ rfl; have a1 := h3 1 _ rfl; clear h3; go_simp; (try rfl))⟩, ?_⟩
              refine ⟨_, .inl ⟨rfl, fun w' hw' => (by obtain ⟨h1, h2, h3⟩ := hw'; have a0 := h3 0 _ rfl; have a1 := h3 1 _ rfl; clear h3; go_simp; (try rfl))⟩, ?_⟩
              refine ⟨_, .inl ⟨rfl, fun w' hw' => (by obtain ⟨h1, h2, h3⟩ := hw'; have a0 := h3 0 _ rfl; have a1 := h3 1 _ rfl; clear h3; go_simp; (try rfl))⟩, ?_⟩
              refine ⟨_, .inl ⟨rfl, fun w' hw' => (by obtain ⟨h1, h2, h3⟩ := hw'; have a0 := h3 0 _ rfl; have a1 := h3 1 _ rfl; clear h3; go_simp; (try rfl))⟩, ?_⟩
              refine ⟨_, .inl ⟨rfl, fun w' hw' => (by obtain ⟨h1, h2, h3⟩ := hw'; have a0 := h3 0 _ rfl; have a1 := h3 1 _ rfl; clear h3; go_simp; (try rfl))⟩, ?_⟩
              refine ⟨_, .inl ⟨rfl, fun w' hw' => (by obtain ⟨h1, h2, h3⟩ := hw'; have a0 := h3 0 _ rfl; have a1 := h3 1 _ rfl; clear h3; go_simp; (try rfl))⟩, ?_⟩
              refine ⟨_, .inl ⟨rfl, fun w' hw' => (by obtain ⟨h1, h2, h3⟩ := hw'; have a0 := h3 0 _ rfl; have a1 := h3 1 _ rfl; clear h3; go_simp; (try rfl))⟩, ?_⟩
              rw [wpHead_nil]
              rw [wpMid_cons]
              refine ⟨rfl, ?_⟩
              simp only [Act.put, List.setIfInBounds_toArray, List.set_cons_succ, List.set_cons_zero]
              refine wp_one_row (.tmp 82) rfl r (by rw [hr]; rfl) ?_
              have hbA : Below w8.heap.size w8 (w8.drew.alloc (.cells r.cells.toArray 70)) := (Below.refl _ _).drew.alloc (Nat.le_refl _) _
              have hMl : M0 < w8.heap.size := MD8.out.bx.lt
              have hbl : b < w8.heap.size := block_lt_of_cell t0
              refine ⟨⟨(hbA.cell (p := ⟨M0, 0, none⟩) hMl).trans m0, (hbA.cell (p := ⟨b, _, none⟩) hbl).trans t0, rangeAt_keep yx.rg (hbA.block _ yx.lt)⟩, ?_⟩
              rw [wpMid_cons]
              refine ⟨rfl, ?_⟩
              simp only [Act.put, List.setIfInBounds_toArray, List.set_cons_succ, List.set_cons_zero]
              obtain ⟨i0, hi, hz, hz1, hz2⟩ := info_parts info_row
              have hmd1 := (MD8.out.below ((Below.refl _ _).drew.alloc (Nat.le_refl _) (.cells r.cells.toArray 70)))
              have hbs := MD8.out.mv.size
              have hown' := OWL.out
              refine wp_append_lies (w8.drew.alloc (.cells r.cells.toArray 70)) (.tmp 75) (.tmp 83) 22 rfl w2.heap.size 70 i0 _ 2 32 Try.underlying22 hi hz hz1 hz2 rfl (by omega) v acc.length (acc.flatMap Rw.cells) rfl hmd1.own ⟨w8.heap.size, 0, none⟩ 1 1 r.cells rfl rfl (World.news_of_block (heap_alloc_new w8.drew _)) (by intro u hu; exact rw_one [r] u (by simpa using hu)) (by omega) (by unfold maxLen; omega) (by omega) (by simp; omega) (w8.heap.size + 1) (by simp) ?_
              intro g2 c9 w10 hown5 hg5 hat5 hlt5
              have hg6 : (w8.alloc (.cells r.cells.toArray 70)).grownBy w10 v.ownBlock := ⟨hg5.os, hg5.tape, hg5.output, hg5.size, hg5.block⟩
              obtain ⟨hb1, hmd3, hkf, hmv3⟩ := MD8.out.app (W := w8) (tmp := .cells r.cells.toArray 70) hown5 hg6
              have hkb : ∀ y, y < w8.heap.size → (y < w2.heap.size ∨ wr.heap.size ≤ y) → w10.heap[y]? = w8.heap[y]? := fun y hy hy2 => (hg6.block y (by simp; omega) (fun e => by have := hown' y e.symm; omega)).trans (Below.heap_alloc w8 _ y hy)
              refine ⟨⟨hb1.cell, (World.cell?_of_block (a := ⟨b, _, none⟩) (hkb b hbl (.inl HB3.out))).trans t0, rangeAt_keep yx.rg (hkb _ yx.lt (.inr HZ.out))⟩, ?_⟩
              rw [wpMid_nil]
              have x0 := hb1.cell
              have x1 := hb1.frozen
              have HM3 := Lib.hid hmd3
              clear hmd3 hkf hmv3 hown5 hg5 hg6 hat5 hlt5 hb1 hkb hbA hMl hbl hmd1 hbs m0 t0 yx hi hz hz1 hz2 hown'
              simp only [Act.put, List.setIfInBounds_toArray, List.set_cons_succ, List.set_cons_zero]
              go_wp2
              refine NoPanic.normal ?_
              clear x0 x1
              go_wp2_with fail
              go_roundw
              case rel => exact ⟨k + 1, _, acc ++ [r], by omega, by rw [List.length_append]; simp; omega, by go_num, Lib.hid (by rw [HT.out, HRD.out, hr]), Lib.hid (by rw [List.length_append, List.flatMap_append]; exact (by simpa using HM3.out))⟩
              case measure => simp [intOf]; omega
      · exact ⟨false, false, false, none, none, none, rfl, by simp, by kernel_rfl, by kernel_rfl, Fr.start 2 _ (by intro i x; rcases i with _ | _ | _ | _ | _ | i <;> simp [zO]) (Below.refl wr.heap.size wr).drew⟩
    · obtain rfl : k = n5 := by omega
      have hd : decide ((k : Int) < (k : Int)) = false := by simp
      have HF : Hid ((plsW l1 l2 l3).flatMap (refMp l4) = acc) := Lib.hid (by rw [HCW.out]; have := hacc.out; rwa [List.take_of_length_le (by omega)] at this)
      have XR := Lib.hid (X4.out.below GR.out X4.out.lt)
      have m0 := hmd.out.bx.cell
      have x0 := XR.out.cell (j := 0) rfl
      have x1 := XR.out.frozen (j := 0) (by omega)
      obtain ⟨A9, c9, rfl⟩ := own_shape hmd.out.own
      have HG := Lib.hid (show w.heap.size + 1 + 1 + 1 + 1 < w2.heap.size by have h1 := B0.out.2; have h2 := G2.out.size; omega)
      clear hacc
      go_wp2_with fail
      have HF1 := World.cell?_setCell_same' wr ⟨w.heap.size + 1 + 1 + 1 + 1, 0, none⟩ (.slice A9 acc.length c9) (by rw [x0]; rfl)
      have HO1 := ownsRow_setCell_below hmd.out.own (a := ⟨w.heap.size + 1 + 1 + 1 + 1, 0, none⟩) HG.out (.slice A9 acc.length c9)
      have HBQ := Lib.hid ((B0.out.1.trans (GR.out.mono B0.out.1.size)).setCell (p := ⟨w.heap.size + 1 + 1 + 1 + 1, 0, none⟩) (by show w.heap.size ≤ w.heap.size + 1 + 1 + 1 + 1; omega) (.slice A9 acc.length c9))
      have HQO := Lib.hid (own_sq HO1 rw_sz (by omega))
      clear HO1 x0 x1 m0
      refine bodyPost_ret (results_cell_mid rfl _ _ (w.heap.size + 1 + 1 + 1 + 1) 0 [.slice A9 acc.length c9] _ rfl ?_ Try.underlying24 rfl (by show _ = some 1; kernel_rfl)) rfl ⟨⟨A9, acc.length, c9, rfl, by rw [HF.out]; exact HQO.out⟩, HBQ.out⟩
      intro j u hu
      rcases j with _ | j
      · obtain rfl : _ = u := by simpa using hu
        exact HF1
      · simp at hu
end Go.Proofs.Ytkdmlffnkomdhaa
