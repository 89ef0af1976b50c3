/-
  PROVED HERE: whatever x and y, confluencelaw01.OctetOrder(x, y) returns true: of two numbers of one width the greater one has the greater bytes, place by place. No condition.
-/
import Derived.Test.YtokaihdoddonkaaCmp
import Derived.Test.YtokaihdoddonkaaRows
import Derived.ProofKit
import Derived.OpenShut
import Derived.ChangeOld
import Derived.Carry
namespace Go.Proofs.Ytokaihdoddonkaa.octetOrder
open Go.ChangeShapes Go.WideShapes Go.ChangeAt Go.RowKit
set_option linter.unusedVariables false

theorem order_any (x y : Nat) (X Y : Int) (hX : X = (x : Int)) (hY : Y = (y : Int)) (w : World) :
    Calls Try.prog 33 #[.int .u64 X, .int .u64 Y] w fun e w' => e = .returned (.int .i64 (sgn x y)) ∧ w = w' := by
  subst hX hY
  unfold sgn
  by_cases h1 : x < y
  · rw [if_pos h1]
    go_enter Try.func33, Try.ntmps33
    go_wp2
    go_ret
    exact ⟨rfl, rfl⟩
  · by_cases h2 : y < x
    · rw [if_neg h1, if_pos h2]
      go_enter Try.func33, Try.ntmps33
      go_wp2
      go_ret
      exact ⟨rfl, rfl⟩
    · rw [if_neg h1, if_neg h2]
      go_enter Try.func33, Try.ntmps33
      go_wp2
      go_ret
      exact ⟨rfl, rfl⟩

theorem walk (X Y : Int) (hX : 0 ≤ X ∧ X ≤ 18446744073709551615) (hY : 0 ≤ Y ∧ Y ≤ 18446744073709551615) (w : World) :
    Calls Try.prog 8 #[.int .u64 X, .int .u64 Y] w fun e w' => e = .returned (.bool true) ∧ Below w.heap.size w w' := by
  obtain ⟨x, rfl⟩ := Int.eq_ofNat_of_zero_le hX.1
  obtain ⟨y, rfl⟩ := Int.eq_ofNat_of_zero_le hY.1
  go_enter Try.func8, Try.ntmps8
  go_wp2_with fail
  refine (wakes_any w).mono ?_
  rintro q w1 ⟨rfl, hb1⟩
  have hz1 := hb1.size
  go_wp2_with fail
  refine (put_u16 (SlB.nil_ (B := 0)) (Nat.zero_le _) (x % 65536) _ (by first | omega | (rw [IntKind.wrap_u16]; omega) | (rw [IntKind.wrap_u64, IntKind.wrap_u16]; omega) | (rw [IntKind.wrap_u32]; omega) | (rw [IntKind.wrap_u64, IntKind.wrap_u32]; omega)) (by omega) (by omega)).mono ?_
  rintro q w2a ⟨g2a, hg2a, rfl, hp2a, hb2a⟩
  have hz2a := hb2a.size
  go_wp2_with fail
  refine (put_u16 (SlB.nil_ (B := 0)) (Nat.zero_le _) (y % 65536) _ (by first | omega | (rw [IntKind.wrap_u16]; omega) | (rw [IntKind.wrap_u64, IntKind.wrap_u16]; omega) | (rw [IntKind.wrap_u32]; omega) | (rw [IntKind.wrap_u64, IntKind.wrap_u32]; omega)) (by omega) (by omega)).mono ?_
  rintro q w2b ⟨g2b, hg2b, rfl, hp2b, hb2b⟩
  have hz2b := hb2b.size
  have s2a := Bl.sl (B := w2b.heap.size) (hp2a.below hb2b hp2a.lt) (by have := hp2a.lt; omega) (by simp [be_len, maxLen])
  have s2b := Bl.sl (B := w2b.heap.size) hp2b hp2b.lt (by simp [be_len, maxLen])
  rw [List.nil_append] at s2a s2b
  rw [be_len] at s2a s2b
  have c2 := compare_any s2a s2b
  rw [compare_be 2 (x % 65536) (y % 65536) (by omega) (by omega)] at c2
  have C2 := Lib.hid c2
  clear c2 hp2a hp2b s2a s2b
  go_wp2_with fail
  refine C2.out.mono ?_
  rintro q w' ⟨rfl, rfl⟩
  go_wp2_with fail
  refine (order_any (x % 65536) (y % 65536) _ _ (by first | omega | (rw [IntKind.wrap_u16]; omega) | (rw [IntKind.wrap_u64, IntKind.wrap_u16]; omega) | (rw [IntKind.wrap_u32]; omega) | (rw [IntKind.wrap_u64, IntKind.wrap_u32]; omega)) (by first | omega | (rw [IntKind.wrap_u16]; omega) | (rw [IntKind.wrap_u64, IntKind.wrap_u16]; omega) | (rw [IntKind.wrap_u32]; omega) | (rw [IntKind.wrap_u64, IntKind.wrap_u32]; omega)) _).mono ?_
  rintro q w' ⟨rfl, rfl⟩
  clear C2
  go_wp2_with fail
  refine (put_u32 (SlB.nil_ (B := 0)) (Nat.zero_le _) (x % 4294967296) _ (by first | omega | (rw [IntKind.wrap_u16]; omega) | (rw [IntKind.wrap_u64, IntKind.wrap_u16]; omega) | (rw [IntKind.wrap_u32]; omega) | (rw [IntKind.wrap_u64, IntKind.wrap_u32]; omega)) (by omega) (by omega)).mono ?_
  rintro q w4a ⟨g4a, hg4a, rfl, hp4a, hb4a⟩
  have hz4a := hb4a.size
  go_wp2_with fail
  refine (put_u32 (SlB.nil_ (B := 0)) (Nat.zero_le _) (y % 4294967296) _ (by first | omega | (rw [IntKind.wrap_u16]; omega) | (rw [IntKind.wrap_u64, IntKind.wrap_u16]; omega) | (rw [IntKind.wrap_u32]; omega) | (rw [IntKind.wrap_u64, IntKind.wrap_u32]; omega)) (by omega) (by omega)).mono ?_
  rintro q w4b ⟨g4b, hg4b, rfl, hp4b, hb4b⟩
  have hz4b := hb4b.size
  have s4a := Bl.sl (B := w4b.heap.size) (hp4a.below hb4b hp4a.lt) (by have := hp4a.lt; omega) (by simp [be_len, maxLen])
  have s4b := Bl.sl (B := w4b.heap.size) hp4b hp4b.lt (by simp [be_len, maxLen])
  rw [List.nil_append] at s4a s4b
  rw [be_len] at s4a s4b
  have c4 := compare_any s4a s4b
  rw [compare_be 4 (x % 4294967296) (y % 4294967296) (by omega) (by omega)] at c4
  have C4 := Lib.hid c4
  clear c4 hp4a hp4b s4a s4b
  go_wp2_with fail
  refine C4.out.mono ?_
  rintro q w' ⟨rfl, rfl⟩
  go_wp2_with fail
  refine (order_any (x % 4294967296) (y % 4294967296) _ _ (by first | omega | (rw [IntKind.wrap_u16]; omega) | (rw [IntKind.wrap_u64, IntKind.wrap_u16]; omega) | (rw [IntKind.wrap_u32]; omega) | (rw [IntKind.wrap_u64, IntKind.wrap_u32]; omega)) (by first | omega | (rw [IntKind.wrap_u16]; omega) | (rw [IntKind.wrap_u64, IntKind.wrap_u16]; omega) | (rw [IntKind.wrap_u32]; omega) | (rw [IntKind.wrap_u64, IntKind.wrap_u32]; omega)) _).mono ?_
  rintro q w' ⟨rfl, rfl⟩
  clear C4
  go_wp2_with fail
  refine (put_u64 (SlB.nil_ (B := 0)) (Nat.zero_le _) x _ (by first | omega | (rw [IntKind.wrap_u16]; omega) | (rw [IntKind.wrap_u64, IntKind.wrap_u16]; omega) | (rw [IntKind.wrap_u32]; omega) | (rw [IntKind.wrap_u64, IntKind.wrap_u32]; omega)) (by omega) (by omega)).mono ?_
  rintro q w8a ⟨g8a, hg8a, rfl, hp8a, hb8a⟩
  have hz8a := hb8a.size
  go_wp2_with fail
  refine (put_u64 (SlB.nil_ (B := 0)) (Nat.zero_le _) y _ (by first | omega | (rw [IntKind.wrap_u16]; omega) | (rw [IntKind.wrap_u64, IntKind.wrap_u16]; omega) | (rw [IntKind.wrap_u32]; omega) | (rw [IntKind.wrap_u64, IntKind.wrap_u32]; omega)) (by omega) (by omega)).mono ?_
  rintro q w8b ⟨g8b, hg8b, rfl, hp8b, hb8b⟩
  have hz8b := hb8b.size
  have s8a := Bl.sl (B := w8b.heap.size) (hp8a.below hb8b hp8a.lt) (by have := hp8a.lt; omega) (by simp [be_len, maxLen])
  have s8b := Bl.sl (B := w8b.heap.size) hp8b hp8b.lt (by simp [be_len, maxLen])
  rw [List.nil_append] at s8a s8b
  rw [be_len] at s8a s8b
  have c8 := compare_any s8a s8b
  rw [compare_be 8 x y (by omega) (by omega)] at c8
  have C8 := Lib.hid c8
  clear c8 hp8a hp8b s8a s8b
  go_wp2_with fail
  refine C8.out.mono ?_
  rintro q w' ⟨rfl, rfl⟩
  go_wp2_with fail
  refine (order_any x y _ _ (by first | omega | (rw [IntKind.wrap_u16]; omega) | (rw [IntKind.wrap_u64, IntKind.wrap_u16]; omega) | (rw [IntKind.wrap_u32]; omega) | (rw [IntKind.wrap_u64, IntKind.wrap_u32]; omega)) (by first | omega | (rw [IntKind.wrap_u16]; omega) | (rw [IntKind.wrap_u64, IntKind.wrap_u16]; omega) | (rw [IntKind.wrap_u32]; omega) | (rw [IntKind.wrap_u64, IntKind.wrap_u32]; omega)) _).mono ?_
  rintro q w' ⟨rfl, rfl⟩
  clear C8
  go_wp2_with fail
  go_ret
  exact ⟨rfl, hb1.trans (((((hb2a.mono (by omega)).trans (hb2b.mono (by omega))).trans ((hb4a.mono (by omega)).trans (hb4b.mono (by omega)))).trans ((hb8a.mono (by omega)).trans (hb8b.mono (by omega)))))⟩

theorem own : ownKnob Try.prog.godebug = none := by kernel_rfl
theorem laidOut : laidOutB Try.prog = true := by kernel_rfl

set_option maxRecDepth 100000 in
theorem lifted (os : Os) (started : os.Started) (H : Type) (enc : TypeId × Value → H) :
    ReturnsInHanded {} Try.checked os 8 .any (Rows.octetOrderSpec.pre6 enc Try.prog Try.f8 Rows.octetOrderRow.domain false) (Rows.octetOrderSpec.post enc Try.prog Try.f8 false true false false) := by
  refine returnsInHanded_of_change (C := Try.checked) own started (by kernel_rfl) Try.func8
    (ChangeSpec.witness6 (enc := enc) (C := Try.checked) false ⟨#[], #[.int .u64 0, .int .u64 0], []⟩ 8 (by kernel_rfl) (by kernel_rfl) (by kernel_rfl) (by kernel_rfl)) ?_
  intro W base args ds gs before hval0 hW hcnd _
  have hval : ∀ (j : Nat) t v, Try.f8.params[j]? = some t → args[j]? = some v → Value.okWide Try.prog W .any base t v := hval0
  have hW' := hW
  obtain ⟨p, q, hA0, hV, rfl, hfz, hnd⟩ := hW
  have hA : DataW.TrodAll enc Try.prog W 0 (fun _ => true) true Try.f8.params.toList args.toList ds p := hA0
  rw [Try.params8] at hA hval
  obtain ⟨v0, vs0, d0, ds0, p0, q0, hargs, rfl, rfl, h0, r0⟩ := trodAll_cons hA
  obtain ⟨v1, vs1, d1, ds1, p1, q1, rfl, rfl, rfl, h1, r1⟩ := trodAll_cons r0
  obtain ⟨rfl, rfl, rfl⟩ := trodAll_nil r1
  obtain rfl : args = #[v0, v1] := by cases args; simp_all
  obtain ⟨rfl, rfl⟩ := trodVars_none hV
  have k0 := h0
  have lt0 : ∀ x ∈ p0, x.block < W.heap.size := by obtain ⟨m, hm⟩ := k0; exact DataW.trod_lt m _ _ _ hm
  obtain ⟨a0, rfl, e0, f0, w0⟩ := open_int Try.underlying23 (hval 0 23 v0 rfl rfl) h0
  have b0 := bounds_u64 w0
  have k1 := h1
  have lt1 : ∀ x ∈ p1, x.block < W.heap.size := by obtain ⟨m, hm⟩ := k1; exact DataW.trod_lt m _ _ _ hm
  obtain ⟨a1, rfl, e1, f1, w1⟩ := open_int Try.underlying23 (hval 1 23 v1 rfl rfl) h1
  have b1 := bounds_u64 w1
  clear hA0 hval0
  refine (walk a0 a1 b0 b1 W).mono fun e W' ⟨he, bel⟩ => ?_
  subst he
  exact ⟨_, rfl, _, _, _, [], _, [], hW', trodAll_mk1 (shut_bool Try.underlying4 _), (trodAll_cons_mk (Below.trod laidOut (by kernel_rfl) (of_decide_eq_true (by kernel_rfl)) k0 bel lt0) (trodAll_cons_mk (Below.trod laidOut (by kernel_rfl) (of_decide_eq_true (by kernel_rfl)) k1 bel lt1) trodAll_mk0)), rfl, bel.frame _, fun h => by cases h⟩

theorem over : Rows.octetOrderRow.holds Try.pinned (OpenSpec.ofChange Rows.octetOrderSpec) :=
  OpenClaim.holds_of_wide 8 Try.f8 rfl rfl rfl rfl rfl rfl rfl ⟨rfl, rfl, rfl, rfl, rfl⟩ rfl rfl rfl rfl rfl (by kernel_rfl) Try.func8 (by kernel_rfl)
    (of_decide_eq_true (by kernel_rfl)) (by unfold Func.isWrapper; first | (rw [if_pos (by decide +kernel)]; kernel_rfl) | (rw [if_neg (by decide +kernel)]; exact ⟨rfl, rfl⟩))
    (fun os started H enc _ => lifted os started H enc)

theorem proved : Rows.OctetOrderSaid := over
#print axioms proved
end Go.Proofs.Ytokaihdoddonkaa.octetOrder
