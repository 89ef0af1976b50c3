/-
  PROVED HERE: whatever x and at, confluencelaw01.OctetParts(x, at) returns true: bytes that are taken off in two parts are what they are in one, and a number is what its two halves are. No condition.
-/
import Derived.Test.YtokaihdoddonkaaCat
import Derived.Test.YtokaihdoddonkaaCmp
import Derived.Test.YtokaihdoddonkaaRows
import Derived.ProofKit
import Derived.OpenShut
import Derived.ChangeOld
import Derived.Carry
namespace Go.Proofs.Ytokaihdoddonkaa.octetParts
open Go.ChangeShapes Go.WideShapes Go.ChangeAt Go.RowKit
set_option linter.unusedVariables false

theorem at_range (k0 : Int) (m : Nat) (hm : m ≤ 1000) : 0 ≤ wrap64 ((IntKind.u64.wrap k0).tmod ((m : Int) + 1)) ∧ wrap64 ((IntKind.u64.wrap k0).tmod ((m : Int) + 1)) ≤ m := by
  have h0 : 0 ≤ IntKind.u64.wrap k0 := by rw [IntKind.wrap_u64]; omega
  generalize IntKind.u64.wrap k0 = U at *
  rw [Int.tmod_eq_emod_of_nonneg h0]
  have h1 := Int.emod_nonneg U (show (m : Int) + 1 ≠ 0 by omega)
  have h2 := Int.emod_lt_of_pos U (show 0 < (m : Int) + 1 by omega)
  rw [IntWalk.wrap64_in _ (by omega)]
  omega

set_option maxRecDepth 100000 in
set_option maxHeartbeats 2000000 in
theorem walk {A : Option Addr} {n c : Nat} {l : List UInt8} {w : World} (h : SlB w w.heap.size A n c l) (k0 : Int) (hk0 : -9223372036854775808 ≤ k0 ∧ k0 ≤ 9223372036854775807) :
    Calls Try.prog 9 #[.slice A n c, .int .i64 k0] w fun e w' => e = .returned (.bool true) ∧ Below w.heap.size w w' := by
  go_enter Try.func9, Try.ntmps9
  go_wp2_with fail
  refine (wakes_any w).mono ?_
  rintro x w1 ⟨rfl, hb1⟩
  have hz1 := hb1.size
  go_wp2_with fail
  refine (own_any (h.below hb1) hz1).mono ?_
  rintro x w2 ⟨A2, c2, rfl, ho2, hb2⟩
  have hz2 := hb2.size
  have hs2 := ho2.sl (Nat.le_refl _)
  have hm : min n 600 ≤ 600 := Nat.min_le_right _ _
  have hbw : Below w.heap.size w w2 := hb1.trans (hb2.mono hz1)
  generalize l.take 600 = r at *
  generalize min n 600 = m at *
  clear ho2 hb2 hb1 h hz1
  have hrl := Lib.hid hs2.len
  have hK := at_range k0 m (by omega)
  go_wp2_with fail
  generalize wrap64 ((IntKind.u64.wrap k0).tmod ((m : Int) + 1)) = K at *
  obtain ⟨k, rfl⟩ := Int.eq_ofNat_of_zero_le hK.1
  have hkm : k ≤ m := by omega
  clear hK
  refine (read_any hs2 (Nat.le_refl _) (by omega)).mono ?_
  rintro x w3 ⟨g1, hg1, rfl, hR1, hb3⟩
  have hz3 := hb3.size
  go_wp2_with fail
  refine (read_any (hs2.below hb3) hz3 (by omega)).mono ?_
  rintro x w4 ⟨g2, hg2, rfl, hR2, hb4⟩
  have hz4 := hb4.size
  have hb24 : Below w2.heap.size w2 w4 := hb3.trans (hb4.mono hz3)
  go_wp2_with fail
  refine (read_any (hs2.below hb24) hb24.size (by omega)).mono ?_
  rintro x w5 ⟨g3, hg3, rfl, hR3, hb5⟩
  have hz5 := hb5.size
  have l1 := hR1.lt
  have l2 := hR2.lt
  have l3 := hR3.lt
  have hR1' := (hR1.below hb4 l1).below hb5 (by omega)
  have hR2' := hR2.below hb5 l2
  have hb25 : Below w2.heap.size w2 w5 := hb24.trans (hb5.mono hb24.size)
  obtain ⟨t1, t2, t3⟩ := offT_at r [] m m rfl hrl.out
  rw [List.append_nil] at t1 t2 t3
  have c1 := raw_any hR1' (m : Int) (by omega) (by rw [hrl.out]; omega)
  rw [t1, t2, t3, hrl.out] at c1
  have C1 := Lib.hid c1
  clear c1 t1 t2 t3 hR1 hR2 hb3 hb4 hb5 hb24
  go_wp2_with fail
  refine C1.out.mono ?_
  rintro x w6 ⟨b6, hb6, rfl, hB6, hR6, hG6⟩
  have hR2a := hR2'.other hR1' (by omega) hG6
  have hR3a := hR3.other hR1' (by omega) hG6
  have hb26 : Below w2.heap.size w2 w6 := hb25.trans (below_of_only hG6 (by omega) hb25.size)
  have hz6 := hG6.size
  obtain ⟨t1, t2, t3⟩ := off_ok r k k rfl (by rw [hrl.out]; exact hkm)
  have c2 := raw_any hR2a (k : Int) (by omega) (by rw [hrl.out]; omega)
  rw [t1, t2, t3, List.length_take, hrl.out, Nat.min_eq_left hkm] at c2
  have C2 := Lib.hid c2
  clear c2 t1 t2 t3 C1 hR1' hR2' hR3 hG6
  go_wp2_with fail
  refine C2.out.mono ?_
  rintro x w7 ⟨b7, hb7, rfl, hB7, hR7, hG7⟩
  have hR1b := hR6.other hR2a (by omega) hG7
  have hR3b := hR3a.other hR2a (by omega) hG7
  have hb27 : Below w2.heap.size w2 w7 := hb26.trans (below_of_only hG7 (by omega) hb26.size)
  have hz7 := hG7.size
  have hs7 := hs2.below hb27
  have hB6' := hB6.grown hG7 (by have := hB6.lt; simp; omega)
  have s6 := Bl.sl (B := w7.heap.size) hB6' hB6'.lt (by rw [hrl.out]; unfold maxLen; omega)
  rw [hrl.out] at s6
  clear C2 hR6 hR2a hR3a hG7 hB6 hB6'
  go_wp2_with fail
  refine (bytesEqual_is s6 hs7 true (by simp)).mono ?_
  rintro x w8 ⟨rfl, rfl⟩
  clear s6
  have hi : ((m : Int) - (k : Int)) = ((m - k : Nat) : Int) := by omega
  have hdl : Hid ((r.drop k).length = m - k) := by rw [List.length_drop, hrl.out]; exact rfl
  obtain ⟨t1, t2, t3⟩ := offT_at (r.drop k) [] (m - k) ((m : Int) - (k : Int)) hi hdl.out
  rw [List.append_nil] at t1 t2 t3
  have c3 := raw_any hR7 ((m : Int) - (k : Int)) (by omega) (by rw [hdl.out]; omega)
  rw [t1, t2, t3, hdl.out] at c3
  have C3 := Lib.hid c3
  clear c3 t1 t2 t3 hi
  go_wp2_with fail
  refine C3.out.mono ?_
  rintro x w8 ⟨b8, hb8, rfl, hB8, hR8, hG8⟩
  have hR1c := hR1b.other hR7 (by omega) hG8
  have hR3c := hR3b.other hR7 (by omega) hG8
  have hb28 : Below w2.heap.size w2 w8 := hb27.trans (below_of_only hG8 (by omega) hb27.size)
  have hz8 := hG8.size
  have hs8 := hs2.below hb28
  have hB7' := hB7.grown hG8 (by have := hB7.lt; simp; omega)
  have s7 := Bl.sl (B := w8.heap.size) hB7' hB7'.lt (by rw [List.length_take, hrl.out]; unfold maxLen; omega)
  rw [List.length_take, hrl.out, Nat.min_eq_left hkm] at s7
  have s8 := Bl.sl (B := w8.heap.size) hB8 hB8.lt (by rw [hdl.out]; unfold maxLen; omega)
  rw [hdl.out] at s8
  clear C3 hR7 hR1b hR3b hG8 hB7 hB7' hB8 hs7
  go_wp2_with fail
  refine (concat2 s7 s8 (Nat.le_refl _) (by omega)).mono ?_
  rintro x w9 ⟨A9, c9, rfl, ho9, hb9⟩
  have e9 : k + (m - k) = m := by omega
  rw [e9] at ho9 ⊢
  clear e9
  have hz9 := hb9.size
  have hb29 : Below w2.heap.size w2 w9 := hb28.trans (hb9.mono hb28.size)
  have hs9 := hs2.below hb29
  have hR1d := hR1c.below hb9 (by omega)
  have hR2d := hR8.below hb9 (by omega)
  have hR3d := hR3c.below hb9 (by omega)
  go_wp2_with fail
  refine (bytesEqual_is (ho9.sl (Nat.le_refl _)) hs9 true (by rw [List.take_append_drop]; simp)).mono ?_
  rintro x w10 ⟨rfl, rfl⟩
  go_wp2_with fail
  refine (left_any hR1d).mono ?_
  rintro x w10 ⟨rfl, k10, rfl⟩
  go_wp2_with fail
  refine (left_any (hR2d.drewN k10)).mono ?_
  rintro x w10 ⟨rfl, k11, rfl⟩
  clear hR1d hR2d hR1c hR8 hR3c s7 s8 ho9
  go_wp2_with fail
  refine (read_any (B := w2.heap.size) (hs9.drewN (k10 + k11)) (by exact hb29.size) (by omega)).mono ?_
  rintro x w12 ⟨g4, hg4, rfl, hR4, hb12⟩
  have hg4' : w9.heap.size ≤ g4 := hg4
  have hz12 : w9.heap.size ≤ w12.heap.size := hb12.size
  have hR3e := (hR3d.drewN (k10 + k11)).below hb12 (by show g3 < w9.heap.size; omega)
  have hb212 : Below w2.heap.size w2 w12 := (below_drewN hb29 (k10 + k11)).trans (hb12.mono (by exact hb29.size))
  clear hR3d hs9 hs8 hb12 hb29 hb28 hb27 hb26 hb25
  have HR4 := Lib.hid hR4
  have HR3 := Lib.hid hR3e
  clear hR4 hR3e
  go_wp2_with fail
  go_loopw [70] (fun i wr => ∃ (p : Nat), 8 * p ≤ m ∧ i = .int .i64 p ∧ Hid (Rd wr g3 (r.drop (8 * p)) 0) ∧ Hid (Rd wr g4 (r.drop (8 * p)) 0) ∧ Below w2.heap.size w2 wr) (fun i _ => m - (intOf i).toNat)
  case atStart => exact ⟨0, Nat.zero_le _, rfl, HR3, HR4, hb212⟩
  case round =>
    obtain ⟨p, hp, rfl, hRp3, hRp4, hbr⟩ := hrel
    by_cases hlt : 8 * p + 8 ≤ m
    · have ht : 8 ≤ (r.drop (8 * p)).length := by rw [List.length_drop, hrl.out]; omega
      have hnext : r.drop (8 * (p + 1)) = (r.drop (8 * p)).drop 8 := by rw [List.drop_drop, Nat.mul_succ]
      have HX := Lib.hid hnext
      clear hnext
      generalize r.drop (8 * p) = t at *
      obtain ⟨t1, t2, t3⟩ := off_ok t 8 8 rfl ht
      have c1 := take_u64 hRp4.out
      rw [t1, t2, t3, num_halves t ht] at c1
      have C1 := Lib.hid c1
      have hlo : num (t.take 4) < 4294967296 := by have := num_lt (t.take 4); rw [List.length_take, Nat.min_eq_left (by omega)] at this; omega
      have hlo2 : num ((t.drop 4).take 4) < 4294967296 := by have := num_lt ((t.drop 4).take 4); rw [List.length_take, List.length_drop, Nat.min_eq_left (by omega)] at this; omega
      clear c1 t1 t2 t3
      go_wp2_with fail
      refine C1.out.mono ?_
      rintro x w13 ⟨rfl, hR13, hG13⟩
      have hR3' := hRp3.out.other hRp4.out (by omega) hG13
      have hb13 : Below w2.heap.size w2 w13 := hbr.trans (below_of_only hG13 (by omega) hbr.size)
      obtain ⟨t1, t2, t3⟩ := off_ok t 4 4 rfl (by omega)
      have c2 := take_u32 hR3'
      rw [t1, t2, t3] at c2
      have C2 := Lib.hid c2
      clear c2 t1 t2 t3 C1
      go_wp2_with fail
      refine C2.out.mono ?_
      rintro x w14 ⟨rfl, hR14, hG14⟩
      have hR4' := hR13.other hR3' (by omega) hG14
      have hb14 : Below w2.heap.size w2 w14 := hb13.trans (below_of_only hG14 (by omega) hb13.size)
      obtain ⟨t1, t2, t3⟩ := off_ok (t.drop 4) 4 4 rfl (by rw [List.length_drop]; omega)
      have c3 := take_u32 hR14
      rw [t1, t2, t3, List.drop_drop] at c3
      have C3 := Lib.hid c3
      clear c3 t1 t2 t3 C2
      go_wp2_with fail
      refine C3.out.mono ?_
      rintro x w15 ⟨rfl, hR15, hG15⟩
      have hR4'' := hR4'.other hR14 (by omega) hG15
      have hb15 : Below w2.heap.size w2 w15 := hb14.trans (below_of_only hG15 (by omega) hb14.size)
      clear C3 hR3' hR13 hR14 hR4' hG13 hG14 hG15 hb13 hb14 hRp3 hRp4
      generalize num (t.take 4) = hi at *
      generalize num ((t.drop 4).take 4) = lo at *
      go_wp2_with fail
      refine (left_any hR4'').mono ?_
      rintro x w16 ⟨rfl, k16, rfl⟩
      go_wp2_with fail
      refine (left_any (hR15.drewN k16)).mono ?_
      rintro x w16 ⟨rfl, k17, rfl⟩
      go_wp2_with fail
      go_roundw
      case rel => exact ⟨p + 1, by omega, by go_num, by rw [HX.out]; exact hR15.drewN _, by rw [HX.out]; exact hR4''.drewN _, below_drewN hb15 _⟩
      case measure => simp [intOf]; omega
    · go_wp2_with fail
      refine (err_any hRp4.out).mono ?_
      rintro x w16 ⟨rfl, rfl⟩
      go_wp2_with fail
      refine (err_any hRp3.out).mono ?_
      rintro x w16 ⟨rfl, rfl⟩
      go_wp2_with fail
      go_ret
      exact ⟨rfl, hbw.trans (hbr.mono hbw.size)⟩

theorem own : ownKnob Try.prog.godebug = none := by kernel_rfl
theorem laidOut : laidOutB Try.prog = true := by kernel_rfl

set_option maxRecDepth 100000 in
theorem lifted (os : Os) (started : os.Started) (H : Type) (enc : TypeId × Value → H) :
    ReturnsInHanded {} Try.checked os 9 .any (Rows.octetPartsSpec.pre6 enc Try.prog Try.f9 Rows.octetPartsRow.domain false) (Rows.octetPartsSpec.post enc Try.prog Try.f9 false true false false) := by
  refine returnsInHanded_of_change (C := Try.checked) own started (by kernel_rfl) Try.func9
    (ChangeSpec.witness6 (enc := enc) (C := Try.checked) false ⟨#[], #[.slice none 0 0, .int .i64 0], []⟩ 8 (by kernel_rfl) (by kernel_rfl) (by kernel_rfl) (by kernel_rfl)) ?_
  intro W base args ds gs before hval0 hW hcnd _
  have hval : ∀ (j : Nat) t v, Try.f9.params[j]? = some t → args[j]? = some v → Value.okWide Try.prog W .any base t v := hval0
  have hW' := hW
  obtain ⟨p, q, hA0, hV, rfl, hfz, hnd⟩ := hW
  have hA : DataW.TrodAll enc Try.prog W 0 (fun _ => true) true Try.f9.params.toList args.toList ds p := hA0
  rw [Try.params9] at hA hval
  obtain ⟨v0, vs0, d0, ds0, p0, q0, hargs, rfl, rfl, h0, r0⟩ := trodAll_cons hA
  obtain ⟨v1, vs1, d1, ds1, p1, q1, rfl, rfl, rfl, h1, r1⟩ := trodAll_cons r0
  obtain ⟨rfl, rfl, rfl⟩ := trodAll_nil r1
  obtain rfl : args = #[v0, v1] := by cases args; simp_all
  obtain ⟨rfl, rfl⟩ := trodVars_none hV
  have k0 := h0
  have lt0 : ∀ x ∈ p0, x.block < W.heap.size := by obtain ⟨m, hm⟩ := k0; exact DataW.trod_lt m _ _ _ hm
  obtain ⟨a0, len0, cap0, rfl⟩ := okWide_slice Try.underlying22 (hval 0 22 v0 rfl rfl)
  obtain ⟨l0, s0⟩ : ∃ l, SlB W W.heap.size a0 len0 cap0 l := by
    obtain ⟨fuel, hf⟩ := h0
    rcases open_ints Try.underlying22 Try.underlying5 (by kernel_rfl) hf with ⟨hcs, _⟩ | ⟨x, l, c, zs, hcs, _, hl, hm, hz, _, hcell, hwz⟩
    · simp [Value.cells] at hcs
      obtain ⟨rfl, rfl, rfl⟩ := hcs
      exact ⟨[], SlB.nil_⟩
    · simp [Value.cells] at hcs
      obtain ⟨rfl, rfl, rfl⟩ := hcs
      exact sl_arg hl hm (by simpa using hz) hcell hwz
  have k1 := h1
  have lt1 : ∀ x ∈ p1, x.block < W.heap.size := by obtain ⟨m, hm⟩ := k1; exact DataW.trod_lt m _ _ _ hm
  obtain ⟨a1, rfl, e1, f1, w1⟩ := open_int Try.underlying3 (hval 1 3 v1 rfl rfl) h1
  have b1 := bounds_i64 w1
  clear hA0 hval0
  refine (walk s0 a1 b1).mono fun e W' ⟨he, bel⟩ => ?_
  subst he
  exact ⟨_, rfl, _, _, _, [], _, [], hW', trodAll_mk1 (shut_bool Try.underlying4 _), (trodAll_cons_mk (Below.trod laidOut (by kernel_rfl) (of_decide_eq_true (by kernel_rfl)) k0 bel lt0) (trodAll_cons_mk (Below.trod laidOut (by kernel_rfl) (of_decide_eq_true (by kernel_rfl)) k1 bel lt1) trodAll_mk0)), rfl, bel.frame _, fun h => by cases h⟩

theorem over : Rows.octetPartsRow.holds Try.pinned (OpenSpec.ofChange Rows.octetPartsSpec) :=
  OpenClaim.holds_of_wide 9 Try.f9 rfl rfl rfl rfl rfl rfl rfl ⟨rfl, rfl, rfl, rfl, rfl⟩ rfl rfl rfl rfl rfl (by kernel_rfl) Try.func9 (by kernel_rfl)
    (of_decide_eq_true (by kernel_rfl)) (by unfold Func.isWrapper; first | (rw [if_pos (by decide +kernel)]; kernel_rfl) | (rw [if_neg (by decide +kernel)]; exact ⟨rfl, rfl⟩))
    (fun os started H enc _ => lifted os started H enc)

theorem proved : Rows.OctetPartsSaid := over
#print axioms proved
end Go.Proofs.Ytokaihdoddonkaa.octetParts
