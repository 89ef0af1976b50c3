/-
  PROVED HERE: whatever bytes b, confluencelaw11.EntryDecodes(b) returns true: entry.Decode tells the command that the document tells, or its error. No condition.
-/
import Derived.Test.YthionkcnmkhopaaEo
import Derived.Test.YthionkcnmkhopaaEq
import Derived.Test.YthionkcnmkhopaaRows
import Derived.ProofKit
import Derived.OpenShut
import Derived.ChangeOld
import Derived.Carry
namespace Go.Proofs.Ythionkcnmkhopaa.entryDecodes
open Go.ChangeShapes Go.WideShapes Go.ChangeAt Go.RowKit
set_option linter.unusedVariables false

open Go.Deep
attribute [local irreducible] wpQuiet
set_option maxRecDepth 100000 in
set_option maxHeartbeats 16000000 in
theorem walk {w : World} {A : Option Addr} {n c : Nat} {t : List UInt8} (ht : SlB w w.heap.size A n c t) :
    Calls Try.prog 4 #[.slice A n c] w fun e w' => e = .returned (.bool true) ∧ Below w.heap.size w w' := by
  obtain ⟨zz, hzz⟩ : ∃ z, zCf = z := ⟨_, rfl⟩
  have ZO : Hid (∀ w : World, (zeroValue 27).run Try.prog w = .ok (.agg zz.cells.toArray) w) := Lib.hid (by rw [← hzz]; exact zero_cf)
  clear hzz
  have HT : Hid (∀ W, Below w.heap.size w W → SlB W W.heap.size A n c t) := Lib.hid fun W hW => (ht.below hW).more hW.size
  clear ht
  by_cases h0 : (5000 : Int) < (n : Int)
  · have d0 : decide ((5000 : Int) < (n : Int)) = true := by simpa using h0
    go_enter Try.func4, Try.ntmps4
    go_wp2_with (first | (go_at_call 7; refine (wakes_any _).mono ?_; rintro e w2 ⟨rfl, hb2⟩; have B2 := Lib.hid hb2; clear hb2) | fail)
    go_ret
    exact ⟨rfl, B2.out⟩
  have d0 : decide ((5000 : Int) < (n : Int)) = false := by simpa using h0
  have hn : n ≤ 5000 := by omega
  obtain ⟨er, her⟩ : ∃ e, (decW t).2 = e := ⟨_, rfl⟩
  obtain ⟨xr, hxr⟩ : ∃ r, (decW t).1 = r := ⟨_, rfl⟩
  go_enter Try.func4, Try.ntmps4
  go_upto_region 5 with (first | (go_at_call 7; refine (wakes_any _).mono ?_; rintro e w2 ⟨rfl, hb2⟩; have B2 := Lib.hid hb2; clear hb2) | fail)
  obtain ⟨i0, hi, hz, hz1, hz2⟩ := info_parts info_u8
  obtain ⟨wL, hwL⟩ : ∃ v, w2.alloc (.cells #[] 5) = v := ⟨_, rfl⟩
  have own0 : wL.ownsRow w2.heap.size 5 1 (.slice (some ⟨w2.heap.size, 0, none⟩) 0 0) 0 (bvs []) := by
    rw [← hwL]
    exact World.ownsRow_made (base := w2.heap.size) (e := 5) (size := 1) w2 #[] 0 (Nat.le_refl _) (Nat.zero_le _) rfl
  have b2L : Below w2.heap.size w2 wL := by rw [← hwL]; exact (Below.refl _ _).alloc (Nat.le_refl _) _
  have BL := Lib.hid (B2.out.trans (b2L.mono B2.out.size))
  have TL := Lib.hid (HT.out wL BL.out)
  have OL := Lib.hid own0
  have zL := b2L.size
  have z2 := B2.out.size
  have HWL := Lib.hid hwL
  clear own0 b2L hwL
  go_upto_region 6 with (first
    | (at_builtin; rw [HWL.out]; refine wpList_append_sl rfl (.tmp 13) (.tmp 14) 25 rfl w2.heap.size 5 i0 Try.underlying25 hi hz hz1 hz2 _ 0 [] rfl OL.out rfl TL.out (by omega) zL ?_; intro va wa howna hga; rw [Nat.zero_add, List.nil_append] at howna; obtain ⟨Aa, ca, rfl⟩ := own_form howna; have Ba := Lib.hid (BL.out.grown hga (by omega) (fun g e => by have := (OL.out.lt g e).1; omega)); have CD : Hid (_) := Lib.hid (Decode_any (OwnB.sl howna) (by omega)); rw [her, hxr] at CD; clear howna hga)
    | (go_at_call 14; refine CD.out.mono ?_; rintro e w5 ⟨⟨v, rfl, hv1⟩, hb_w5⟩; obtain ⟨Dd, rfl, hd_w5⟩ := hv1.c; obtain ⟨cd, hcd⟩ : ∃ c, xr.at_ Dd = c := ⟨_, rfl⟩; (try dsimp only); rw [hcd]; obtain ⟨wA, hwA⟩ : ∃ v, w5.alloc (.cells zz.cells.toArray 27) = v := ⟨_, rfl⟩; have XA : Hid (Lies wA w5.heap.size 69 zz.cells) := Lib.hid (by rw [← hwA]; have := Lies.new w5 zz.cells 27; rwa [cf_sz] at this); have TA := Lib.hid XA.out.th; have ONE : Hid (cd.dv.oneCell' = true) := Lib.hid (by rw [← hcd]; rfl); have HWA := Lib.hid hwA; clear hwA)
    | ((with_reducible refine alt 27 ?_ ?_ zz.cells ZO.out ?_); rfl; rfl; rw [HWA.out]; (try simp only [Act.put, List.setIfInBounds_toArray, List.set_cons_succ, List.set_cons_zero])) | ((with_reducible refine stc (.tmp 3) (.tmp 17) ?_ ?_ w5.heap.size 0 cd ?_ ?_ TA.out ONE.out ?_); rfl; rfl; rfl; rfl; (try simp only [Act.put, List.setIfInBounds_toArray, List.set_cons_succ, List.set_cons_zero])) | fail)
  obtain ⟨wB, hwB⟩ : ∃ v, wA.setCells w5.heap.size 0 cd.cells = v := ⟨_, rfl⟩
  have b5B : Below w5.heap.size w5 wB := by rw [← hwB, ← HWA.out]; exact below_setCells ((Below.refl _ _).alloc (Nat.le_refl _) _) (Nat.le_refl _) _ _
  have BB := Lib.hid (Ba.out.trans ((hb_w5.trans (b5B.mono hb_w5.size)).mono Ba.out.size))
  have X6 : Hid (Lies wB w5.heap.size 69 cd.cells) := Lib.hid (by rw [← hwB]; exact XA.out.set_ (cf_sz _))
  have E6 : Hid (Cmd wB wB.heap.size xr Dd) := Lib.hid ((hd_w5.below b5B).more b5B.size)
  obtain ⟨Bd, hBd⟩ : ∃ b, w5.heap.size = b := ⟨_, rfl⟩
  rw [hwB]
  rw [hBd] at X6 ⊢
  have CR := Lib.hid (rDecode_any (HT.out wB BB.out) (by omega))
  rw [her, hxr] at CR
  have HCD := Lib.hid hcd
  clear hwB b5B hb_w5 hd_w5 hv1 XA TA HWA CD hBd hcd her hxr TL OL HWL
  go_upto_region 7 with (first
    | (go_at_call 15; refine CR.out.mono ?_; rintro e w7 ⟨⟨v, rfl, hv2⟩, hb_w7⟩; obtain ⟨De, rfl, hd_w7⟩ := hv2.c; obtain ⟨ce, hce⟩ : ∃ c, xr.at_ De = c := ⟨_, rfl⟩; (try dsimp only); rw [hce]; obtain ⟨wC, hwC⟩ : ∃ v, w7.alloc (.cells zz.cells.toArray 27) = v := ⟨_, rfl⟩; have XC : Hid (Lies wC w7.heap.size 69 zz.cells) := Lib.hid (by rw [← hwC]; have := Lies.new w7 zz.cells 27; rwa [cf_sz] at this); have TC := Lib.hid XC.out.th; have ONE2 : Hid (ce.dv.oneCell' = true) := Lib.hid (by rw [← hce]; rfl); have HWC := Lib.hid hwC; clear hwC)
    | ((with_reducible refine alt 27 ?_ ?_ zz.cells ZO.out ?_); rfl; rfl; rw [HWC.out]; (try simp only [Act.put, List.setIfInBounds_toArray, List.set_cons_succ, List.set_cons_zero])) | ((with_reducible refine stc (.tmp 5) (.tmp 22) ?_ ?_ w7.heap.size 0 ce ?_ ?_ TC.out ONE2.out ?_); rfl; rfl; rfl; rfl; (try simp only [Act.put, List.setIfInBounds_toArray, List.set_cons_succ, List.set_cons_zero])) | fail)
  obtain ⟨wE, hwE⟩ : ∃ v, wC.setCells w7.heap.size 0 ce.cells = v := ⟨_, rfl⟩
  have b7E : Below w7.heap.size w7 wE := by rw [← hwE, ← HWC.out]; exact below_setCells ((Below.refl _ _).alloc (Nat.le_refl _) _) (Nat.le_refl _) _ _
  have bBE : Below wB.heap.size wB wE := hb_w7.trans (b7E.mono hb_w7.size)
  have BE := Lib.hid (BB.out.trans (bBE.mono BB.out.size))
  have X8 := Lib.hid (X6.out.below bBE X6.out.lt)
  have E8 : Hid (Cmd wE wE.heap.size xr Dd) := Lib.hid ((E6.out.below bBE).more bBE.size)
  have X9 : Hid (Lies wE w7.heap.size 69 ce.cells) := Lib.hid (by rw [← hwE]; exact XC.out.set_ (cf_sz _))
  have E9 : Hid (Cmd wE wE.heap.size xr De) := Lib.hid ((hd_w7.below b7E).more b7E.size)
  have HCE := Lib.hid hce
  obtain ⟨Be, hBe⟩ : ∃ b, w7.heap.size = b := ⟨_, rfl⟩
  rw [hwE]
  rw [hBe] at X9 ⊢
  clear hwE b7E bBE hb_w7 hd_w7 hv2 XC TC HWC CR hBe hce X6 E6
  have CS1 : Hid (Calls Try.prog 16 #[cfV cd, cfV ce] wE fun e w' => e = .returned (.bool true) ∧ Below wE.heap.size wE w') := Lib.hid (by
    have := rSm_any E8.out E9.out
    rwa [sameC_self, HCD.out, HCE.out] at this)
  have CS2 : Hid (∀ W, Below wE.heap.size wE W → Calls Try.prog 8 #[cfV cd, cfV ce] W fun e w' => e = .returned (.bool true) ∧ Below W.heap.size W w') := Lib.hid fun W hW => by
    have := Sm_any ((E8.out.below hW).more hW.size) ((E9.out.below hW).more hW.size)
    rwa [sameC_self, HCD.out, HCE.out] at this
  have Q8 := Lib.hid X8.out.rg
  have Q9 := Lib.hid X9.out.rg
  go_wp2_with (first
    | ((with_reducible refine ldc (.tmp 3) ?_ ?_ Bd 0 cd ?_ P8.out ?_); rfl; (first | rfl | (go_simp <;> fail)); rfl)
    | ((with_reducible refine ldc (.tmp 5) ?_ ?_ Be 0 ce ?_ P9.out ?_); rfl; (first | rfl | (go_simp <;> fail)); rfl)
    | ((with_reducible refine ldc (.tmp 3) ?_ ?_ Bd 0 cd ?_ Q8.out ?_); rfl; (first | rfl | (go_simp <;> fail)); rfl)
    | ((with_reducible refine ldc (.tmp 5) ?_ ?_ Be 0 ce ?_ Q9.out ?_); rfl; (first | rfl | (go_simp <;> fail)); rfl)
    | (go_at_call 16; refine CS1.out.mono ?_; rintro e wx ⟨rfl, hbx⟩; have Bx := Lib.hid hbx; have P8 := Lib.hid (X8.out.below hbx X8.out.lt).rg; have P9 := Lib.hid (X9.out.below hbx X9.out.lt).rg; clear hbx)
    | (go_at_call 8; refine (CS2.out _ Bx.out).mono ?_; rintro e wy ⟨rfl, hby⟩; have BY := Lib.hid (BE.out.trans ((Bx.out.trans (hby.mono Bx.out.size)).mono BE.out.size)); clear hby)
    | fail)
  go_ret
  exact ⟨by simp, BY.out⟩

theorem own : ownKnob Try.prog.godebug = none := by kernel_rfl
theorem laidOut : laidOutB Try.prog = true := by kernel_rfl

set_option maxRecDepth 100000 in
theorem lifted (os : Os) (started : os.Started) (H : Type) (enc : TypeId × Value → H) :
    ReturnsInHanded {} Try.checked os 4 .any (Rows.entryDecodesSpec.pre6 enc Try.prog Try.f4 Rows.entryDecodesRow.domain false) (Rows.entryDecodesSpec.post enc Try.prog Try.f4 false true false false) := by
  refine returnsInHanded_of_change (C := Try.checked) own started (by kernel_rfl) Try.func4
    (ChangeSpec.witness6 (enc := enc) (C := Try.checked) false ⟨#[], #[.slice none 0 0], []⟩ 8 (by kernel_rfl) (by kernel_rfl) (by kernel_rfl) (by kernel_rfl)) ?_
  intro W base args ds gs before hval0 hW hcnd _
  have hval : ∀ (j : Nat) t v, Try.f4.params[j]? = some t → args[j]? = some v → Value.okWide Try.prog W .any base t v := hval0
  have hW' := hW
  obtain ⟨p, q, hA0, hV, rfl, hfz, hnd⟩ := hW
  have hA : DataW.TrodAll enc Try.prog W 0 (fun _ => true) true Try.f4.params.toList args.toList ds p := hA0
  rw [Try.params4] at hA hval
  obtain ⟨v0, vs0, d0, ds0, p0, q0, hargs, rfl, rfl, h0, r0⟩ := trodAll_cons hA
  obtain ⟨rfl, rfl, rfl⟩ := trodAll_nil r0
  obtain rfl : args = #[v0] := by cases args; simp_all
  obtain ⟨rfl, rfl⟩ := trodVars_none hV
  have k0 := h0
  have lt0 : ∀ x ∈ p0, x.block < W.heap.size := by obtain ⟨m, hm⟩ := k0; exact DataW.trod_lt m _ _ _ hm
  obtain ⟨a0, len0, cap0, rfl⟩ := okWide_slice Try.underlying25 (hval 0 25 v0 rfl rfl)
  obtain ⟨l0, s0⟩ : ∃ l, SlB W W.heap.size a0 len0 cap0 l := by
    obtain ⟨fuel, hf⟩ := h0
    rcases open_ints Try.underlying25 Try.underlying5 (by kernel_rfl) hf with ⟨hcs, _⟩ | ⟨x, l, c, zs, hcs, _, hl, hm, hz, _, hcell, hwz⟩
    · simp [Value.cells] at hcs
      obtain ⟨rfl, rfl, rfl⟩ := hcs
      exact ⟨[], SlB.nil_⟩
    · simp [Value.cells] at hcs
      obtain ⟨rfl, rfl, rfl⟩ := hcs
      exact sl_arg hl hm (by simpa using hz) hcell hwz
  clear hA0 hval0
  refine (walk s0).mono fun e W' ⟨he, bel⟩ => ?_
  subst he
  exact ⟨_, rfl, _, _, _, [], _, [], hW', trodAll_mk1 (shut_bool Try.underlying4 _), (trodAll_cons_mk (Below.trod laidOut (by kernel_rfl) (of_decide_eq_true (by kernel_rfl)) k0 bel lt0) trodAll_mk0), rfl, bel.frame _, fun h => by cases h⟩

theorem over : Rows.entryDecodesRow.holds Try.pinned (OpenSpec.ofChange Rows.entryDecodesSpec) :=
  OpenClaim.holds_of_wide 4 Try.f4 rfl rfl rfl rfl rfl rfl rfl ⟨rfl, rfl, rfl, rfl, rfl⟩ rfl rfl rfl rfl rfl (by kernel_rfl) Try.func4 (by kernel_rfl)
    (of_decide_eq_true (by kernel_rfl)) (by unfold Func.isWrapper; first | (rw [if_pos (by decide +kernel)]; kernel_rfl) | (rw [if_neg (by decide +kernel)]; exact ⟨rfl, rfl⟩))
    (fun os started H enc _ => lifted os started H enc)

theorem proved : Rows.EntryDecodesSaid := over
#print axioms proved
end Go.Proofs.Ythionkcnmkhopaa.entryDecodes
