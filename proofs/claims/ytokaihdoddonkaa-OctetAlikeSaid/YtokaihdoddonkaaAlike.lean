/-
  PROVED HERE: whatever x and y, confluencelaw01.OctetAlike(x, y) returns true: octet.Equal and octet.Zero tell which rows are the same, and which are noughts. No condition.
-/
import Derived.Test.YtokaihdoddonkaaLaw1
import Derived.Test.YtokaihdoddonkaaRows
import Derived.ProofKit
import Derived.OpenShut
import Derived.ChangeOld
import Derived.Carry
namespace Go.Proofs.Ytokaihdoddonkaa.octetAlike
open Go.ChangeShapes Go.WideShapes Go.ChangeAt Go.RowKit
set_option linter.unusedVariables false

theorem walk {A A' : Option Addr} {n c n' c' : Nat} {l l' : List UInt8} {w : World} (h : SlB w w.heap.size A n c l) (h' : SlB w w.heap.size A' n' c' l') :
    Calls Try.prog 4 #[.slice A n c, .slice A' n' c'] w fun e w' => e = .returned (.bool true) ∧ Below w.heap.size w w' := by
  go_enter Try.func4, Try.ntmps4
  go_wp2_with fail
  refine (wakes_any w).mono ?_
  rintro x w1 ⟨rfl, hb1⟩
  have hz1 := hb1.size
  go_wp2_with fail
  refine (own_any (h.below hb1) hz1).mono ?_
  rintro x w2 ⟨A2, c2, rfl, ho2, hb2⟩
  have hz2 := hb2.size
  go_wp2_with fail
  refine (own_any ((h'.below hb1).below (hb2.mono hz1)) (Nat.le_trans hz1 hz2)).mono ?_
  rintro x w3 ⟨A3, c3, rfl, ho3, hb3⟩
  have hz3 := hb3.size
  have s2 := ((ho2.sl (Nat.le_refl _)).below hb3).more hz3
  have s3 := ho3.sl (Nat.le_refl _)
  go_wp2_with fail
  have m2 : min n 600 ≤ 600 := Nat.min_le_right _ _
  have m3 : min n' 600 ≤ 600 := Nat.min_le_right _ _
  generalize min n 600 = n2 at *
  generalize min n' 600 = n3 at *
  have hsame : Hid ((l.take 600 == l'.take 600) = (l.take 600 == l'.take 600)) := rfl
  have hturn : (l'.take 600 == l.take 600) = (l.take 600 == l'.take 600) := by rw [Bool.eq_iff_iff, beq_iff_eq, beq_iff_eq]; exact eq_comm
  have hself : (l.take 600 == l.take 600) = true := by simp
  have HT := Lib.hid hturn
  have HS := Lib.hid hself
  clear hturn hself
  have H2 := h.below (hb1.trans ((hb2.mono hz1).trans (hb3.mono (Nat.le_trans hz1 hz2))))
  have hbA : Below w.heap.size w w3 := hb1.trans ((hb2.mono hz1).trans (hb3.mono (Nat.le_trans hz1 hz2)))
  generalize hs : (l.take 600 == l'.take 600) = s at *
  have HSV := Lib.hid hs
  generalize hq : zeros (l.take 600) = z at *
  have HZ := Lib.hid hq
  clear hs hq hsame ho2 ho3
  refine (same_is s2 s3 s HSV.out).mono ?_
  rintro x w4 ⟨rfl, k4, rfl⟩
  go_wp2_with fail
  refine (equal_is (s2.drewN k4) (s3.drewN k4) s HSV.out).mono ?_
  rintro x w4 ⟨rfl, rfl⟩
  go_wp2_with fail
  refine (equal_is (s3.drewN k4) (s2.drewN k4) s HT.out).mono ?_
  rintro x w4 ⟨rfl, rfl⟩
  go_wp2_with fail
  refine (own_any (H2.drewN k4) (by show w.heap.size ≤ w3.heap.size; omega)).mono ?_
  rintro x w5 ⟨A5, c5, rfl, ho5, hb5⟩
  have hz5 := hb5.size
  have s5 := ho5.sl (Nat.le_refl _)
  have t2 := (s2.drewN k4).below hb5
  go_wp2_with fail
  refine (equal_is t2 s5 true HS.out).mono ?_
  rintro x w6 ⟨rfl, rfl⟩
  go_wp2_with fail
  refine (zero_is t2 z HZ.out).mono ?_
  rintro x w6 ⟨rfl, rfl⟩
  go_wp2_with fail
  refine (noughts_is t2 hz5 (by omega) z HZ.out).mono ?_
  rintro x w6 ⟨rfl, hb6⟩
  have hmk := make_bytes n3 (n3 : Int) rfl (by omega)
  have hz6 := hb6.size
  go_wp2_with fail
  have t9 := Bl.sl (B := w6.heap.size + 1) (Bl.new w6 5 (bvs (List.replicate n3 0))) (Nat.lt_succ_self _) (by rw [List.length_replicate]; unfold maxLen; omega)
  rw [List.length_replicate] at t9
  refine (zero_is t9 true (by simp [zeros])).mono ?_
  rintro x w7 ⟨rfl, rfl⟩
  go_wp2_with fail
  go_ret
  have hz9 : w.heap.size ≤ w3.heap.size := hbA.size
  have hbB : Below w.heap.size w w6 := (below_drewN hbA k4).trans ((hb5.mono (by show w.heap.size ≤ w3.heap.size; exact hz9)).trans (hb6.mono (Nat.le_trans hz9 hz5)))
  exact ⟨rfl, hbB.alloc hbB.size _⟩

theorem own : ownKnob Try.prog.godebug = none := by kernel_rfl
theorem laidOut : laidOutB Try.prog = true := by kernel_rfl

set_option maxRecDepth 100000 in
theorem lifted (os : Os) (started : os.Started) (H : Type) (enc : TypeId × Value → H) :
    ReturnsInHanded {} Try.checked os 4 .any (Rows.octetAlikeSpec.pre6 enc Try.prog Try.f4 Rows.octetAlikeRow.domain false) (Rows.octetAlikeSpec.post enc Try.prog Try.f4 false true false false) := by
  refine returnsInHanded_of_change (C := Try.checked) own started (by kernel_rfl) Try.func4
    (ChangeSpec.witness6 (enc := enc) (C := Try.checked) false ⟨#[], #[.slice none 0 0, .slice none 0 0], []⟩ 8 (by kernel_rfl) (by kernel_rfl) (by kernel_rfl) (by kernel_rfl)) ?_
  intro W base args ds gs before hval0 hW hcnd _
  have hval : ∀ (j : Nat) t v, Try.f4.params[j]? = some t → args[j]? = some v → Value.okWide Try.prog W .any base t v := hval0
  have hW' := hW
  obtain ⟨p, q, hA0, hV, rfl, hfz, hnd⟩ := hW
  have hA : DataW.TrodAll enc Try.prog W 0 (fun _ => true) true Try.f4.params.toList args.toList ds p := hA0
  rw [Try.params4] at hA hval
  obtain ⟨v0, vs0, d0, ds0, p0, q0, hargs, rfl, rfl, h0, r0⟩ := trodAll_cons hA
  obtain ⟨v1, vs1, d1, ds1, p1, q1, rfl, rfl, rfl, h1, r1⟩ := trodAll_cons r0
  obtain ⟨rfl, rfl, rfl⟩ := trodAll_nil r1
  obtain rfl : args = #[v0, v1] := by cases args; simp_all
  obtain ⟨rfl, rfl⟩ := trodVars_none hV
  have k0 := h0
  have lt0 : ∀ x ∈ p0, x.block < W.heap.size := by obtain ⟨m, hm⟩ := k0; exact DataW.trod_lt m _ _ _ hm
  obtain ⟨a0, len0, cap0, rfl⟩ := okWide_slice Try.underlying22 (hval 0 22 v0 rfl rfl)
  obtain ⟨l0, s0⟩ : ∃ l, SlB W W.heap.size a0 len0 cap0 l := by
    obtain ⟨fuel, hf⟩ := h0
    rcases open_ints Try.underlying22 Try.underlying5 (by kernel_rfl) hf with ⟨hcs, _⟩ | ⟨x, l, c, zs, hcs, _, hl, hm, hz, _, hcell, hwz⟩
    · simp [Value.cells] at hcs
      obtain ⟨rfl, rfl, rfl⟩ := hcs
      exact ⟨[], SlB.nil_⟩
    · simp [Value.cells] at hcs
      obtain ⟨rfl, rfl, rfl⟩ := hcs
      exact sl_arg hl hm (by simpa using hz) hcell hwz
  have k1 := h1
  have lt1 : ∀ x ∈ p1, x.block < W.heap.size := by obtain ⟨m, hm⟩ := k1; exact DataW.trod_lt m _ _ _ hm
  obtain ⟨a1, len1, cap1, rfl⟩ := okWide_slice Try.underlying22 (hval 1 22 v1 rfl rfl)
  obtain ⟨l1, s1⟩ : ∃ l, SlB W W.heap.size a1 len1 cap1 l := by
    obtain ⟨fuel, hf⟩ := h1
    rcases open_ints Try.underlying22 Try.underlying5 (by kernel_rfl) hf with ⟨hcs, _⟩ | ⟨x, l, c, zs, hcs, _, hl, hm, hz, _, hcell, hwz⟩
    · simp [Value.cells] at hcs
      obtain ⟨rfl, rfl, rfl⟩ := hcs
      exact ⟨[], SlB.nil_⟩
    · simp [Value.cells] at hcs
      obtain ⟨rfl, rfl, rfl⟩ := hcs
      exact sl_arg hl hm (by simpa using hz) hcell hwz
  clear hA0 hval0
  refine (walk s0 s1).mono fun e W' ⟨he, bel⟩ => ?_
  subst he
  exact ⟨_, rfl, _, _, _, [], _, [], hW', trodAll_mk1 (shut_bool Try.underlying4 _), (trodAll_cons_mk (Below.trod laidOut (by kernel_rfl) (of_decide_eq_true (by kernel_rfl)) k0 bel lt0) (trodAll_cons_mk (Below.trod laidOut (by kernel_rfl) (of_decide_eq_true (by kernel_rfl)) k1 bel lt1) trodAll_mk0)), rfl, bel.frame _, fun h => by cases h⟩

theorem over : Rows.octetAlikeRow.holds Try.pinned (OpenSpec.ofChange Rows.octetAlikeSpec) :=
  OpenClaim.holds_of_wide 4 Try.f4 rfl rfl rfl rfl rfl rfl rfl ⟨rfl, rfl, rfl, rfl, rfl⟩ rfl rfl rfl rfl rfl (by kernel_rfl) Try.func4 (by kernel_rfl)
    (of_decide_eq_true (by kernel_rfl)) (by unfold Func.isWrapper; first | (rw [if_pos (by decide +kernel)]; kernel_rfl) | (rw [if_neg (by decide +kernel)]; exact ⟨rfl, rfl⟩))
    (fun os started H enc _ => lifted os started H enc)

theorem proved : Rows.OctetAlikeSaid := over
#print axioms proved
end Go.Proofs.Ytokaihdoddonkaa.octetAlike
