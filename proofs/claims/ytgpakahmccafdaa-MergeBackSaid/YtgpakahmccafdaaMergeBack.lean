/-
  PROVED HERE: an edit done onto its own base is what it makes of that: at every map and every edit.
-/
import Derived.Test.YtgpakahmccafdaaMo
import Derived.Test.YtgpakahmccafdaaMk
import Derived.Test.YtgpakahmccafdaaPy
import Derived.Test.YtgpakahmccafdaaYc
import Derived.Test.YtgpakahmccafdaaRows
import Derived.ProofKit
import Derived.OpenShut
import Derived.ChangeOld
import Derived.Carry
namespace Go.Proofs.Ytgpakahmccafdaa.mergeBack
open Go.ChangeShapes Go.WideShapes Go.ChangeAt Go.RowKit
set_option linter.unusedVariables false
set_option linter.unusedSimpArgs false
open Go.Deep
attribute [local irreducible] wpQuiet

theorem one_map (A : Option Addr) (n c : Nat) (w : World) : (Instr.buildSlice 71 1 #[(0, .agg #[.slice A n c])]).run Try.prog w = .ok (.slice (some ⟨w.heap.size, 0, none⟩) 1 1) (w.alloc (.cells #[.slice A n c] 24)) := by
  go_simp
set_option maxRecDepth 100000 in
set_option maxHeartbeats 8000000 in
theorem walk (A : Option Addr) (n c : Nat) (l : List Rw) (A' : Option Addr) (n' c' : Nat) (l' : List Ch) (w : World) (h : SqR w w.heap.size A n c l) (h' : SqC w w.heap.size A' n' c' l') :
    Calls Try.prog 8 #[.agg #[.slice A n c], .agg #[.slice A' n' c']] w fun e w' => e = .returned (.bool true) ∧ Below w.heap.size w w' := by
  obtain ⟨w0, hw0⟩ : ∃ w0, (w.alloc (.cells #[.slice A n c] 24)).alloc (.cells #[.slice A' n' c'] 36) = w0 := ⟨_, rfl⟩
  have B0 : Hid (Below w.heap.size w w0) := Lib.hid (by rw [← hw0]; exact ((Below.refl _ _).alloc (Nat.le_refl _) _).alloc (by simp) _)
  have X0 : Hid (Lies w0 w.heap.size 1 [.slice A n c]) := Lib.hid (by rw [← hw0]; exact (Lies.new w [.slice A n c] 24).alloc _)
  have X1 : Hid (Lies w0 (w.heap.size + 1) 1 [.slice A' n' c']) := Lib.hid (by
    rw [← hw0]
    have := Lies.new (w.alloc (.cells #[.slice A n c] 24)) [.slice A' n' c'] 36
    rwa [World.size_alloc] at this)
  have HSm : Hid (∀ W, Below w0.heap.size w0 W → SqR W W.heap.size A n c l) := Lib.hid fun W hW => (h.below (B0.out.trans (hW.mono B0.out.size))).more (Nat.le_trans B0.out.size hW.size)
  have HSe : Hid (∀ W, Below w0.heap.size w0 W → SqC W W.heap.size A' n' c' l') := Lib.hid fun W hW => (h'.below (B0.out.trans (hW.mono B0.out.size))).more (Nat.le_trans B0.out.size hW.size)
  have HQ : Hid (∀ W, Below w0.heap.size w0 W → W.cell? ⟨w.heap.size, 0, none⟩ = some (.slice A n c) ∧ W.cell? ⟨w.heap.size + 1, 0, none⟩ = some (.slice A' n' c')) := Lib.hid fun W hW =>
    ⟨(X0.out.below hW X0.out.lt).cell (j := 0) rfl, (X1.out.below hW X1.out.lt).cell (j := 0) rfl⟩
  have HW := Lib.hid hw0
  clear hw0 h h' X0 X1
  go_enter Try.func8, Try.ntmps8
  go_upto_region 1 with fail
  rw [HW.out]
  clear HW
  go_wp2_with fail
  refine (wakes_any w0).mono ?_
  rintro e w1 ⟨rfl, hb1⟩
  have G1 := Lib.hid hb1
  clear hb1
  obtain ⟨q0, q1⟩ := HQ.out _ G1.out
  go_wp2_with fail
  obtain ⟨w2, hw2⟩ : ∃ w2, w1.alloc (.cells #[.slice A n c] 24) = w2 := ⟨_, rfl⟩
  rw [hw2]
  have C2 : Hid (Below w1.heap.size w1 w2) := Lib.hid (by rw [← hw2]; exact (Below.refl _ _).alloc (Nat.le_refl _) _)
  have G2 := Lib.hid (G1.out.trans (C2.out.mono G1.out.size))
  have HL := larges_any (w := w2) (A := some ⟨w1.heap.size, 0, none⟩) (n := 1) (c := 1) (ms := [⟨A, n, c, l⟩]) ⟨rfl, Nat.le_refl _, by unfold maxLen; omega, (fun e => by cases e), mp_sz, fun _ => ⟨w1.heap.size, 0, rfl, by rw [← hw2]; simp, by rw [← hw2]; exact (Lies.new w1 [.slice A n c] 24).rg⟩⟩ (by
    intro m hm
    obtain rfl : m = _ := by simpa using hm
    exact HSm.out _ G2.out) (by omega)
  clear hw2 C2 q0 q1
  refine HL.mono ?_
  rintro e w3 ⟨(rfl | ⟨rfl, hm⟩), hb3⟩
  · have G3 := Lib.hid (G2.out.trans (hb3.mono G2.out.size))
    clear hb3 HL
    go_wp2_with fail
    go_ret
    exact ⟨rfl, B0.out.trans (G3.out.mono B0.out.size)⟩
  have G3 := Lib.hid (G2.out.trans (hb3.mono G2.out.size))
  have hn : n ≤ 100 := (hm ⟨A, n, c, l⟩ (by simp)).1
  clear hb3 HL hm G2
  obtain ⟨q0, q1⟩ := HQ.out _ G3.out
  go_wp2_with fail
  refine (largeE_any (HSe.out _ G3.out)).mono ?_
  rintro e w4 ⟨(rfl | ⟨rfl, hn', _⟩), hb4⟩
  · have G4 := Lib.hid (G3.out.trans (hb4.mono G3.out.size))
    clear hb4 q0 q1
    go_wp2_with fail
    go_ret
    exact ⟨rfl, B0.out.trans (G4.out.mono B0.out.size)⟩
  have G4 := Lib.hid (G3.out.trans (hb4.mono G3.out.size))
  clear hb4 q0 q1
  obtain ⟨q0, q1⟩ := HQ.out _ G4.out
  have raw_R := Rebase_any (HSm.out _ G4.out) (by omega) (HSm.out _ G4.out) (by omega) (HSe.out _ G4.out) (by omega)
  obtain ⟨b1, b2⟩ := rebase_back l l'
  rw [b2, b1] at raw_R
  obtain ⟨er, her⟩ : ∃ er, applyE l l' = er := ⟨_, rfl⟩
  obtain ⟨X, hX⟩ : ∃ X, (if er = 0 then applyW l l' else []) = X := ⟨_, rfl⟩
  rw [her, hX] at raw_R
  have HR := Lib.hid raw_R
  have HER := Lib.hid her
  have HXX := Lib.hid hX
  clear raw_R b1 b2 her hX
  go_wp2_with fail
  refine HR.out.mono ?_
  rintro e w5 ⟨⟨A5, n5, c5, rfl, hs5⟩, hb5⟩
  have S5 := Lib.hid hs5
  have G5 := Lib.hid (G4.out.trans (hb5.mono G4.out.size))
  clear hs5 hb5 HR q0 q1
  obtain ⟨q0, q1⟩ := HQ.out _ G5.out
  go_upto_region 6 with fail
  obtain ⟨w6, hw6⟩ : ∃ w6, w5.alloc (.cells #[.slice A5 n5 c5] 24) = w6 := ⟨_, rfl⟩
  rw [hw6]
  have C6 : Hid (Below w5.heap.size w5 w6) := Lib.hid (by rw [← hw6]; exact (Below.refl _ _).alloc (Nat.le_refl _) _)
  have X6 : Hid (Lies w6 w5.heap.size 1 [.slice A5 n5 c5]) := Lib.hid (by rw [← hw6]; exact Lies.new w5 [.slice A5 n5 c5] 24)
  obtain ⟨M, hM⟩ : ∃ M, w5.heap.size = M := ⟨_, rfl⟩
  have S6 := Lib.hid ((S5.out.below C6.out).more C6.out.size)
  have G6 := Lib.hid (G5.out.trans (C6.out.mono G5.out.size))
  rw [hM] at X6 ⊢
  clear hw6 hM C6 S5 q0 q1
  obtain ⟨q0, q1⟩ := HQ.out _ G6.out
  have raw_A := Apply_any (HSm.out _ G6.out) (by omega) (HSe.out _ G6.out) (by omega)
  rw [HER.out, HXX.out] at raw_A
  have HA := Lib.hid raw_A
  clear raw_A
  go_wp2_with fail
  refine HA.out.mono ?_
  rintro e w7 ⟨A7, n7, c7, rfl, hs7, hb7⟩
  have S7 := Lib.hid hs7
  have S67 := Lib.hid ((S6.out.below hb7).more hb7.size)
  have G7 := Lib.hid (G6.out.trans (hb7.mono G6.out.size))
  have X7 := Lib.hid (X6.out.below hb7 X6.out.lt)
  clear hs7 hb7 HA q0 q1 S6 X6
  go_upto_region 7 with fail
  obtain ⟨w8, hw8⟩ : ∃ w8, w7.alloc (.cells #[.slice A7 n7 c7] 24) = w8 := ⟨_, rfl⟩
  rw [hw8]
  have C8 : Hid (Below w7.heap.size w7 w8) := Lib.hid (by rw [← hw8]; exact (Below.refl _ _).alloc (Nat.le_refl _) _)
  have X8 : Hid (Lies w8 w7.heap.size 1 [.slice A7 n7 c7]) := Lib.hid (by rw [← hw8]; exact Lies.new w7 [.slice A7 n7 c7] 24)
  have X78 := Lib.hid (X7.out.below C8.out X7.out.lt)
  have S8 := Lib.hid ((S7.out.below C8.out).more C8.out.size)
  have S78 := Lib.hid ((S67.out.below C8.out).more C8.out.size)
  have G8 := Lib.hid (G7.out.trans (C8.out.mono G7.out.size))
  have q2 := X78.out.cell (j := 0) rfl
  have q3 := X8.out.cell (j := 0) rfl
  have hl8 := S8.out.len
  have hl78 := S78.out.len
  have hxl : X.length ≤ 1000 := by
    rw [← HXX.out]
    split
    · have h1 := (applyE_parts (show applyE l l' = 0 by rw [HER.out]; assumption)).2.2
      omega
    · simp
  have raw_S := same_any S78.out S8.out (show n5 ≤ 1000000 by omega)
  rw [same_eq (rfl : X = X)] at raw_S
  have HS8 := Lib.hid raw_S
  clear hw8 C8 X7 S7 S67 X8 X78 raw_S hl8 hl78 hxl HER HXX
  go_wp2_with fail
  refine HS8.out.mono ?_
  rintro e w9 ⟨rfl, hb9⟩
  have G9 := Lib.hid (G8.out.trans (hb9.mono G8.out.size))
  clear hb9 q2 q3
  go_wp2_with fail
  go_ret
  exact ⟨by simp, B0.out.trans (G9.out.mono B0.out.size)⟩

theorem own : ownKnob Try.prog.godebug = none := by kernel_rfl
theorem laidOut : laidOutB Try.prog = true := by kernel_rfl

set_option maxRecDepth 100000 in
theorem lifted (os : Os) (started : os.Started) (H : Type) (enc : TypeId × Value → H) :
    ReturnsInHanded {} Try.checked os 8 .any (Rows.mergeBackSpec.pre6 enc Try.prog Try.f8 Rows.mergeBackRow.domain false) (Rows.mergeBackSpec.post enc Try.prog Try.f8 false true false false) := by
  refine returnsInHanded_of_change (C := Try.checked) own started (by kernel_rfl) Try.func8
    (ChangeSpec.witness6 (enc := enc) (C := Try.checked) false ⟨#[], #[.agg #[.slice none 0 0], .agg #[.slice none 0 0]], []⟩ 8 (by kernel_rfl) (by kernel_rfl) (by kernel_rfl) (by kernel_rfl)) ?_
  intro W base args ds gs before hval0 hW hcnd _
  have hval : ∀ (j : Nat) t v, Try.f8.params[j]? = some t → args[j]? = some v → Value.okWide Try.prog W .any base t v := hval0
  have hW' := hW
  obtain ⟨p, q, hA0, hV, rfl, hfz, hnd⟩ := hW
  have hA : DataW.TrodAll enc Try.prog W 0 (fun _ => true) true Try.f8.params.toList args.toList ds p := hA0
  rw [Try.params8] at hA hval
  obtain ⟨v0, vs0, d0, ds0, p0, q0, hargs, rfl, rfl, h0, r0⟩ := trodAll_cons hA
  obtain ⟨v1, vs1, d1, ds1, p1, q1, rfl, rfl, rfl, h1, r1⟩ := trodAll_cons r0
  obtain ⟨rfl, rfl, rfl⟩ := trodAll_nil r1
  obtain rfl : args = #[v0, v1] := by cases args; simp_all
  obtain ⟨rfl, rfl⟩ := trodVars_none hV
  have k0 := h0
  have lt0 : ∀ x ∈ p0, x.block < W.heap.size := by obtain ⟨m, hm⟩ := k0; exact DataW.trod_lt m _ _ _ hm
  obtain ⟨A0, n0, c0, l0, rfl, s0⟩ := map_arg (hval 0 24 v0 rfl rfl) h0
  have k1 := h1
  have lt1 : ∀ x ∈ p1, x.block < W.heap.size := by obtain ⟨m, hm⟩ := k1; exact DataW.trod_lt m _ _ _ hm
  obtain ⟨A1, n1, c1, l1, rfl, s1⟩ := edit_arg (hval 1 36 v1 rfl rfl) h1
  clear hA0 hval0
  refine (walk A0 n0 c0 l0 A1 n1 c1 l1 W s0 s1).mono fun e W' ⟨he, bel⟩ => ?_
  subst he
  exact ⟨_, rfl, _, _, _, [], _, [], hW', trodAll_mk1 (shut_bool Try.underlying4 _), (trodAll_cons_mk (Below.trod laidOut (by kernel_rfl) (of_decide_eq_true (by kernel_rfl)) k0 bel lt0) (trodAll_cons_mk (Below.trod laidOut (by kernel_rfl) (of_decide_eq_true (by kernel_rfl)) k1 bel lt1) trodAll_mk0)), rfl, bel.frame _, fun h => by cases h⟩

theorem over : Rows.mergeBackRow.holds Try.pinned (OpenSpec.ofChange Rows.mergeBackSpec) :=
  OpenClaim.holds_of_wide 8 Try.f8 rfl rfl rfl rfl rfl rfl rfl ⟨rfl, rfl, rfl, rfl, rfl⟩ rfl rfl rfl rfl rfl (by kernel_rfl) Try.func8 (by kernel_rfl)
    (of_decide_eq_true (by kernel_rfl)) (by unfold Func.isWrapper; first | (rw [if_pos (by decide +kernel)]; kernel_rfl) | (rw [if_neg (by decide +kernel)]; exact ⟨rfl, rfl⟩))
    (fun os started H enc _ => lifted os started H enc)

theorem proved : Rows.MergeBackSaid := over
#print axioms proved
end Go.Proofs.Ytgpakahmccafdaa.mergeBack
