/-
  PROVED HERE: whatever c, cut and behind, confluencelaw11.EntryBack(c, cut, behind) returns true: what was encoded is decoded as it was; of each beginning of the bytes Decode is ErrShort, of them with more behind ErrCommand. No condition.
-/
import Derived.Test.YthionkcnmkhopaaEo
import Derived.Test.YthionkcnmkhopaaRows
import Derived.ProofKit
import Derived.OpenShut
import Derived.ChangeOld
import Derived.Carry
namespace Go.Proofs.Ythionkcnmkhopaa.entryBack
open Go.ChangeShapes Go.WideShapes Go.ChangeAt Go.RowKit
set_option linter.unusedVariables false

open Go.Deep
attribute [local irreducible] wpQuiet
theorem bytes_len {x : Cv} (h : okC x = true) : (bytesC x).length ≤ 5000 ∧ 0 < (bytesC x).length := by
  have h1 := (ok_small h)
  have h8 : x.data.length ≤ 800 := by
    unfold okC okF at h
    simp only [Bool.and_eq_true, decide_eq_true_eq] at h
    exact h.2
  rw [bytes_prt h]
  unfold prt
  simp only [List.length_append, List.length_cons, List.length_nil, be_len, strB_len, x.old.h, x.new.h]
  omega
set_option maxRecDepth 100000 in
set_option maxHeartbeats 8000000 in
theorem walk {w : World} {x : Cv} {D : Sl} (h : Cmd w w.heap.size x D) {cut : Int} (hcut : -9223372036854775808 ≤ cut ∧ cut ≤ 9223372036854775807) {A : Option Addr} {n c : Nat} {t : List UInt8} (ht : SlB w w.heap.size A n c t) :
    Calls Try.prog 5 #[cfV (x.at_ D), .int .i64 cut, .slice A n c] w fun e w' => e = .returned (.bool true) ∧ Below w.heap.size w w' := by
  obtain ⟨zz, hzz⟩ : ∃ z, zCf = z := ⟨_, rfl⟩
  have ZO : Hid (∀ w : World, (zeroValue 27).run Try.prog w = .ok (.agg zz.cells.toArray) w) := Lib.hid (by rw [← hzz]; exact zero_cf)
  clear hzz
  obtain ⟨cf, hcf⟩ : ∃ c, x.at_ D = c := ⟨_, rfl⟩
  obtain ⟨w1, hw1, K1⟩ := Kc.new w cf
  have HDV : Hid (cf.dv = .slice D.a D.n D.c) := Lib.hid (by rw [← hcf]; rfl)
  have HBR : Hid (cf.branch = x.branch) := Lib.hid (by rw [← hcf]; rfl)
  have HC : Hid (∀ W, Kc w cf W → Cmd W W.heap.size x D) := Lib.hid fun W hW => (h.below hW.b).more hW.b.size
  have HT : Hid (∀ W, Kc w cf W → SlB W W.heap.size A n c t) := Lib.hid fun W hW => (ht.below hW.b).more hW.b.size
  have htl := ht.len
  have HCF := Lib.hid hcf
  rw [hcf]
  have HW := Lib.hid hw1
  clear hcf h hw1 ht
  by_cases h1 : (5000 : Int) < (x.branch.size : Int)
  · have d1 : decide ((5000 : Int) < (x.branch.size : Int)) = true := by simpa using h1
    go_enter Try.func5, Try.ntmps5
    go_upto_region 1 with fail
    rw [HW.out]
    go_wp2_with (first | (go_at_call 7; refine (wakes_any _).mono ?_; rintro e w2 ⟨rfl, hb2⟩; have K2 := Lib.hid (K1.out.step hb2); have R2 := Lib.hid K2.out.l.rg; obtain ⟨_, _, _, c3, _, _, c6⟩ := cf_lies K2.out.l; rw [HDV.out] at c6; rw [HBR.out] at c3; clear hb2) | fail)
    go_ret
    exact ⟨rfl, K2.out.b⟩
  have d1 : decide ((5000 : Int) < (x.branch.size : Int)) = false := by simpa using h1
  by_cases h2 : (5000 : Int) < (D.n : Int)
  · have d2 : decide ((5000 : Int) < (D.n : Int)) = true := by simpa using h2
    go_enter Try.func5, Try.ntmps5
    go_upto_region 1 with fail
    rw [HW.out]
    go_wp2_with (first | (go_at_call 7; refine (wakes_any _).mono ?_; rintro e w2 ⟨rfl, hb2⟩; have K2 := Lib.hid (K1.out.step hb2); have R2 := Lib.hid K2.out.l.rg; obtain ⟨_, _, _, c3, _, _, c6⟩ := cf_lies K2.out.l; rw [HDV.out] at c6; rw [HBR.out] at c3; clear hb2) | fail)
    go_ret
    exact ⟨rfl, K2.out.b⟩
  have d2 : decide ((5000 : Int) < (D.n : Int)) = false := by simpa using h2
  by_cases h3 : (5000 : Int) < (n : Int)
  · have d3 : decide ((5000 : Int) < (n : Int)) = true := by simpa using h3
    go_enter Try.func5, Try.ntmps5
    go_upto_region 1 with fail
    rw [HW.out]
    go_wp2_with (first | (go_at_call 7; refine (wakes_any _).mono ?_; rintro e w2 ⟨rfl, hb2⟩; have K2 := Lib.hid (K1.out.step hb2); have R2 := Lib.hid K2.out.l.rg; obtain ⟨_, _, _, c3, _, _, c6⟩ := cf_lies K2.out.l; rw [HDV.out] at c6; rw [HBR.out] at c3; clear hb2) | fail)
    go_ret
    exact ⟨rfl, K2.out.b⟩
  have d3 : decide ((5000 : Int) < (n : Int)) = false := by simpa using h3
  have hn : D.n ≤ 1000000 := by omega
  have hn5 : n ≤ 5000 := by omega
  by_cases hok : okC x = true
  · have CE : Hid (∀ W, Kc w cf W → Calls Try.prog 9 #[cfV cf] W fun e w' => (∃ A' m c', e = .returned (.tuple #[.slice A' m c', .int .i64 0]) ∧ OwnB w' W.heap.size A' m c' (bytesC x)) ∧ Below W.heap.size W w') := Lib.hid fun W hW => by
      have := Enc_any (HC.out W hW) hn
      rwa [if_pos hok, if_pos hok, HCF.out] at this
    have hxs : x.seq < 4294967296 := (HC.out w1 K1.out).sb
    have hbl := bytes_len hok
    go_enter Try.func5, Try.ntmps5
    go_upto_region 1 with fail
    rw [HW.out]
    go_upto_region 8 with (first | ((with_reducible refine ldc (.tmp 3) ?_ ?_ w.heap.size 0 cf ?_ R2.out ?_); rfl; (first | rfl | (go_simp <;> fail)); rfl) | (go_at_call 7; refine (wakes_any _).mono ?_; rintro e w2 ⟨rfl, hb2⟩; have K2 := Lib.hid (K1.out.step hb2); have R2 := Lib.hid K2.out.l.rg; obtain ⟨_, _, _, c3, _, _, c6⟩ := cf_lies K2.out.l; rw [HDV.out] at c6; rw [HBR.out] at c3; clear hb2) | (go_at_call 9; clear c3 c6; refine (CE.out _ K2.out).mono ?_; rintro e w4 ⟨⟨A4, m4, c4, rfl, ho4⟩, hb4⟩; have K4 := Lib.hid (K2.out.step hb4); have R4 := Lib.hid K4.out.l.rg; have S4 := Lib.hid ho4.sl; have L4 : (bytesC x).length = m4 := ho4.sl.len; clear ho4 hb4) | fail)
    have CD := Lib.hid (Decode_any S4.out (by omega))
    rw [dec_bytes hok hxs] at CD
    go_upto_region 9 with (first
      | (go_at_call 14; refine CD.out.mono ?_; rintro e w5 ⟨⟨v, rfl, hv⟩, hb5⟩; obtain ⟨Dd, rfl, hd⟩ := hv.c; obtain ⟨cd, hcd⟩ : ∃ c, x.at_ Dd = c := ⟨_, rfl⟩; (try dsimp only); rw [hcd]; obtain ⟨wA, hwA⟩ : ∃ v, w5.alloc (.cells zz.cells.toArray 27) = v := ⟨_, rfl⟩; have XA : Hid (Lies wA w5.heap.size 69 zz.cells) := Lib.hid (by rw [← hwA]; have := Lies.new w5 zz.cells 27; rwa [cf_sz] at this); have TA := Lib.hid XA.out.th; have ONE : Hid (cd.dv.oneCell' = true) := Lib.hid (by rw [← hcd]; rfl); have HWA := Lib.hid hwA; clear hwA)
      | ((with_reducible refine alt 27 ?_ ?_ zz.cells ZO.out ?_); rfl; rfl; rw [HWA.out]; (try simp only [Act.put, List.setIfInBounds_toArray, List.set_cons_succ, List.set_cons_zero]))
      | ((with_reducible refine stc (.tmp 9) (.tmp 43) ?_ ?_ w5.heap.size 0 cd ?_ ?_ TA.out ONE.out ?_); rfl; rfl; rfl; rfl; (try simp only [Act.put, List.setIfInBounds_toArray, List.set_cons_succ, List.set_cons_zero]))
      | fail)
    obtain ⟨wB, hwB⟩ : ∃ v, wA.setCells w5.heap.size 0 cd.cells = v := ⟨_, rfl⟩
    have b5B : Below w5.heap.size w5 wB := by rw [← hwB, ← HWA.out]; exact below_setCells ((Below.refl _ _).alloc (Nat.le_refl _) _) (Nat.le_refl _) _ _
    have b4B : Below w4.heap.size w4 wB := hb5.trans (b5B.mono hb5.size)
    have K6 := Lib.hid (K4.out.step b4B)
    have S6 := Lib.hid ((S4.out.below b4B).more b4B.size)
    have X6 : Hid (Lies wB w5.heap.size 69 cd.cells) := Lib.hid (by rw [← hwB]; exact XA.out.set_ (cf_sz _))
    have E6 : Hid (Cmd wB wB.heap.size x Dd) := Lib.hid ((hd.below b5B).more b5B.size)
    obtain ⟨Bd, hBd⟩ : ∃ b, w5.heap.size = b := ⟨_, rfl⟩
    rw [hwB]
    rw [hBd] at X6 ⊢
    clear hwB b5B b4B hb5 hd hv XA TA HWA CD CE K4 S4 R4 R2 hBd
    obtain ⟨kk, hkk, hkm⟩ : ∃ k : Nat, max cut 0 % (m4 : Int) = (k : Int) ∧ k < m4 := ⟨(max cut 0 % (m4 : Int)).toNat, by have := Int.emod_nonneg (max cut 0) (show (m4 : Int) ≠ 0 by omega); omega, by have := Int.emod_lt_of_pos (max cut 0) (show (0 : Int) < (m4 : Int) by omega); have := Int.emod_nonneg (max cut 0) (show (m4 : Int) ≠ 0 by omega); omega⟩
    have hkc : (kk : Int) ≤ (c4 : Int) := by have := S6.out.cap; omega
    have hk0 : (0 : Int) ≤ (kk : Int) := Int.natCast_nonneg _
    have CD := Lib.hid (Decode_any (S6.out.take (Nat.le_of_lt hkm)) (by omega))
    rw [dec_less hok hxs (by omega)] at CD
    go_upto_region 10 with (first
      | (go_at_call 14; refine CD.out.mono ?_; rintro e w7 ⟨⟨v, rfl, hv⟩, hb7⟩; obtain ⟨De, rfl, hde⟩ := hv.c; obtain ⟨ce, hce⟩ : ∃ c, zCv.at_ De = c := ⟨_, rfl⟩; (try dsimp only); rw [hce]; obtain ⟨wC, hwC⟩ : ∃ v, w7.alloc (.cells zz.cells.toArray 27) = v := ⟨_, rfl⟩; have XC : Hid (Lies wC w7.heap.size 69 zz.cells) := Lib.hid (by rw [← hwC]; have := Lies.new w7 zz.cells 27; rwa [cf_sz] at this); have TC := Lib.hid XC.out.th; have ONE2 : Hid (ce.dv.oneCell' = true) := Lib.hid (by rw [← hce]; rfl); have HWC := Lib.hid hwC; clear hwC)
      | ((with_reducible refine alt 27 ?_ ?_ zz.cells ZO.out ?_); rfl; rfl; rw [HWC.out]; (try simp only [Act.put, List.setIfInBounds_toArray, List.set_cons_succ, List.set_cons_zero]))
      | ((with_reducible refine stc (.tmp 11) (.tmp 54) ?_ ?_ w7.heap.size 0 ce ?_ ?_ TC.out ONE2.out ?_); rfl; rfl; rfl; rfl; (try simp only [Act.put, List.setIfInBounds_toArray, List.set_cons_succ, List.set_cons_zero]))
      | fail)
    obtain ⟨wD, hwD⟩ : ∃ v, wC.setCells w7.heap.size 0 ce.cells = v := ⟨_, rfl⟩
    have b7D : Below w7.heap.size w7 wD := by rw [← hwD, ← HWC.out]; exact below_setCells ((Below.refl _ _).alloc (Nat.le_refl _) _) (Nat.le_refl _) _ _
    have bBD : Below wB.heap.size wB wD := hb7.trans (b7D.mono hb7.size)
    have K8 := Lib.hid (K6.out.step bBD)
    have S8 := Lib.hid ((S6.out.below bBD).more bBD.size)
    have X8 := Lib.hid (X6.out.below bBD X6.out.lt)
    have E8 : Hid (Cmd wD wD.heap.size x Dd) := Lib.hid ((E6.out.below bBD).more bBD.size)
    rw [hwD]
    clear hwD b7D bBD hb7 hde hv XC TC HWC CD K6 S6 X6 E6
    have R8 := Lib.hid K8.out.l.rg
    have Q8 := Lib.hid X8.out.rg
    have HCD := Lib.hid hcd
    have CS : Hid (Calls Try.prog 8 #[cfV cd, cfV cf] wD fun e w' => e = .returned (.bool true) ∧ Below wD.heap.size wD w') := Lib.hid (by
      have := Sm_any E8.out (HC.out wD K8.out)
      rwa [sameC_self, HCF.out, HCD.out] at this)
    go_upto_region 12 with (first
      | ((with_reducible refine ldc (.tmp 9) ?_ ?_ Bd 0 cd ?_ Q8.out ?_); rfl; (first | rfl | (go_simp <;> fail)); rfl)
      | ((with_reducible refine ldc (.tmp 3) ?_ ?_ w.heap.size 0 cf ?_ R8.out ?_); rfl; (first | rfl | (go_simp <;> fail)); rfl)
      | (go_at_call 8; refine CS.out.mono ?_; rintro e w9 ⟨rfl, hb9⟩; have K9 := Lib.hid (K8.out.step hb9); have S9 := Lib.hid ((S8.out.below hb9).more hb9.size); clear hb9)
      | fail)
    clear K8 S8 X8 E8 R8 Q8 CS hcd
    obtain ⟨i0, hi, hz, hz1, hz2⟩ := info_parts info_u8
    obtain ⟨wL, hwL⟩ : ∃ v, w9.alloc (.cells #[] 5) = v := ⟨_, rfl⟩
    have own0 : wL.ownsRow w9.heap.size 5 1 (.slice (some ⟨w9.heap.size, 0, none⟩) 0 0) 0 (bvs []) := by
      rw [← hwL]
      exact World.ownsRow_made (base := w9.heap.size) (e := 5) (size := 1) w9 #[] 0 (Nat.le_refl _) (Nat.zero_le _) rfl
    have b9L : Below w9.heap.size w9 wL := by rw [← hwL]; exact (Below.refl _ _).alloc (Nat.le_refl _) _
    have KL := Lib.hid (K9.out.step b9L)
    have SL := Lib.hid ((S9.out.below b9L).more b9L.size)
    have OL := Lib.hid own0
    have z9 : w.heap.size + 1 ≤ w9.heap.size := K9.out.l.lt
    have zL := b9L.size
    have HWL := Lib.hid hwL
    clear own0 b9L hwL S9
    obtain ⟨er, her⟩ : ∃ e, (decW (bytesC x ++ t)).2 = e := ⟨_, rfl⟩
    have HER : Hid (n ≠ 0 → er = 210) := Lib.hid fun h0 => by
      rw [← her, dec_more hok hxs (fun e => h0 (by rw [← htl, e]; rfl))]
    go_upto_region 13 with (first
      | (at_builtin; rw [HWL.out]; refine wpList_append_sl rfl (.tmp 69) (.tmp 70) 25 rfl w9.heap.size 5 i0 Try.underlying25 hi hz hz1 hz2 _ 0 [] rfl OL.out rfl SL.out (by omega) zL ?_; intro va wa howna hga; rw [Nat.zero_add, List.nil_append] at howna; obtain ⟨Aa, ca, rfl⟩ := own_form howna; have Ka := Lib.hid (KL.out.grown hga (fun g e => Nat.le_trans z9 (OL.out.lt g e).1)); have Oa := Lib.hid howna; have za := Nat.le_trans zL hga.size; have Ta := Lib.hid (HT.out wa Ka.out); clear howna hga)
      | (at_builtin; refine wpList_append_sl rfl (.tmp 71) (.tmp 72) 25 rfl w9.heap.size 5 i0 Try.underlying25 hi hz hz1 hz2 _ m4 _ rfl Oa.out rfl Ta.out (by omega) za ?_; intro vb wb hownb hgb; obtain ⟨Ab, cb, rfl⟩ := own_form hownb; have Kb := Lib.hid (Ka.out.grown hgb (fun g e => Nat.le_trans z9 (Oa.out.lt g e).1)); have Ob := Lib.hid hownb; clear hownb hgb)
      | (go_at_call 14; have CD := Decode_any (OwnB.sl Ob.out) (by omega); rw [her] at CD; refine CD.mono ?_; rintro e wc ⟨⟨v, rfl, hv⟩, hbc⟩; have Kd := Lib.hid (Kb.out.step hbc); clear hv hbc)
      | fail)
    by_cases h0 : n = 0
    · subst h0
      go_wp2_with fail
      go_ret
      exact ⟨rfl, Kd.out.b⟩
    · have e := HER.out h0
      subst e
      have d0 : ((n : Int) == 0) = false := by rw [Bool.eq_false_iff]; simpa using h0
      go_wp2_with fail
      go_ret
      exact ⟨rfl, Kd.out.b⟩
  · have CE : Hid (∀ W, Kc w cf W → Calls Try.prog 9 #[cfV cf] W fun e w' => (∃ A' m c', e = .returned (.tuple #[.slice A' m c', .int .i64 210]) ∧ OwnB w' W.heap.size A' m c' []) ∧ Below W.heap.size W w') := Lib.hid fun W hW => by
      have := Enc_any (HC.out W hW) hn
      rwa [if_neg hok, if_neg hok, HCF.out] at this
    go_enter Try.func5, Try.ntmps5
    go_upto_region 1 with fail
    rw [HW.out]
    go_wp2_with (first | ((with_reducible refine ldc (.tmp 3) ?_ ?_ w.heap.size 0 cf ?_ R2.out ?_); rfl; (first | rfl | (go_simp <;> fail)); rfl) | (go_at_call 7; refine (wakes_any _).mono ?_; rintro e w2 ⟨rfl, hb2⟩; have K2 := Lib.hid (K1.out.step hb2); have R2 := Lib.hid K2.out.l.rg; obtain ⟨_, _, _, c3, _, _, c6⟩ := cf_lies K2.out.l; rw [HDV.out] at c6; rw [HBR.out] at c3; clear hb2) | (go_at_call 9; clear c3 c6; refine (CE.out _ K2.out).mono ?_; rintro e w4 ⟨⟨A4, m4, c4, rfl, ho4⟩, hb4⟩; have K4 := Lib.hid (K2.out.step hb4); have R4 := Lib.hid K4.out.l.rg; have S4 := Lib.hid ho4.sl; obtain rfl : m4 = 0 := (by have := ho4.sl.len; simpa using this.symm); clear ho4 hb4) | fail)
    go_ret
    exact ⟨rfl, K4.out.b⟩

theorem own : ownKnob Try.prog.godebug = none := by kernel_rfl
theorem laidOut : laidOutB Try.prog = true := by kernel_rfl

set_option maxRecDepth 100000 in
theorem lifted (os : Os) (started : os.Started) (H : Type) (enc : TypeId × Value → H) :
    ReturnsInHanded {} Try.checked os 5 .any (Rows.entryBackSpec.pre6 enc Try.prog Try.f5 Rows.entryBackRow.domain false) (Rows.entryBackSpec.post enc Try.prog Try.f5 false true false false) := by
  refine returnsInHanded_of_change (C := Try.checked) own started (by kernel_rfl) Try.func5
    (ChangeSpec.witness6 (enc := enc) (C := Try.checked) false ⟨#[], #[.agg (#[.int .i64 0, .int .i64 0, .int .u32 0, .string ByteArray.empty] ++ Array.replicate 64 (.int .u8 0) ++ #[.slice none 0 0]), .int .i64 0, .slice none 0 0], []⟩ 8 (by kernel_rfl) (by kernel_rfl) (by kernel_rfl) (by kernel_rfl)) ?_
  intro W base args ds gs before hval0 hW hcnd _
  have hval : ∀ (j : Nat) t v, Try.f5.params[j]? = some t → args[j]? = some v → Value.okWide Try.prog W .any base t v := hval0
  have hW' := hW
  obtain ⟨p, q, hA0, hV, rfl, hfz, hnd⟩ := hW
  have hA : DataW.TrodAll enc Try.prog W 0 (fun _ => true) true Try.f5.params.toList args.toList ds p := hA0
  rw [Try.params5] at hA hval
  obtain ⟨v0, vs0, d0, ds0, p0, q0, hargs, rfl, rfl, h0, r0⟩ := trodAll_cons hA
  obtain ⟨v1, vs1, d1, ds1, p1, q1, rfl, rfl, rfl, h1, r1⟩ := trodAll_cons r0
  obtain ⟨v2, vs2, d2, ds2, p2, q2, rfl, rfl, rfl, h2, r2⟩ := trodAll_cons r1
  obtain ⟨rfl, rfl, rfl⟩ := trodAll_nil r2
  obtain rfl : args = #[v0, v1, v2] := by cases args; simp_all
  obtain ⟨rfl, rfl⟩ := trodVars_none hV
  have k0 := h0
  have lt0 : ∀ x ∈ p0, x.block < W.heap.size := by obtain ⟨m, hm⟩ := k0; exact DataW.trod_lt m _ _ _ hm
  obtain ⟨x0, D0, rfl, s0⟩ := cmd_arg (hval 0 27 v0 rfl rfl) h0
  have k1 := h1
  have lt1 : ∀ x ∈ p1, x.block < W.heap.size := by obtain ⟨m, hm⟩ := k1; exact DataW.trod_lt m _ _ _ hm
  obtain ⟨a1, rfl, e1, f1, w1⟩ := open_int Try.underlying3 (hval 1 3 v1 rfl rfl) h1
  have b1 := bounds_i64 w1
  have k2 := h2
  have lt2 : ∀ x ∈ p2, x.block < W.heap.size := by obtain ⟨m, hm⟩ := k2; exact DataW.trod_lt m _ _ _ hm
  obtain ⟨a2, len2, cap2, rfl⟩ := okWide_slice Try.underlying25 (hval 2 25 v2 rfl rfl)
  obtain ⟨l2, s2⟩ : ∃ l, SlB W W.heap.size a2 len2 cap2 l := by
    obtain ⟨fuel, hf⟩ := h2
    rcases open_ints Try.underlying25 Try.underlying5 (by kernel_rfl) hf with ⟨hcs, _⟩ | ⟨x, l, c, zs, hcs, _, hl, hm, hz, _, hcell, hwz⟩
    · simp [Value.cells] at hcs
      obtain ⟨rfl, rfl, rfl⟩ := hcs
      exact ⟨[], SlB.nil_⟩
    · simp [Value.cells] at hcs
      obtain ⟨rfl, rfl, rfl⟩ := hcs
      exact sl_arg hl hm (by simpa using hz) hcell hwz
  clear hA0 hval0
  refine (walk s0 b1 s2).mono fun e W' ⟨he, bel⟩ => ?_
  subst he
  exact ⟨_, rfl, _, _, _, [], _, [], hW', trodAll_mk1 (shut_bool Try.underlying4 _), (trodAll_cons_mk (Below.trod laidOut (by kernel_rfl) (of_decide_eq_true (by kernel_rfl)) k0 bel lt0) (trodAll_cons_mk (Below.trod laidOut (by kernel_rfl) (of_decide_eq_true (by kernel_rfl)) k1 bel lt1) (trodAll_cons_mk (Below.trod laidOut (by kernel_rfl) (of_decide_eq_true (by kernel_rfl)) k2 bel lt2) trodAll_mk0))), rfl, bel.frame _, fun h => by cases h⟩

theorem over : Rows.entryBackRow.holds Try.pinned (OpenSpec.ofChange Rows.entryBackSpec) :=
  OpenClaim.holds_of_wide 5 Try.f5 rfl rfl rfl rfl rfl rfl rfl ⟨rfl, rfl, rfl, rfl, rfl⟩ rfl rfl rfl rfl rfl (by kernel_rfl) Try.func5 (by kernel_rfl)
    (of_decide_eq_true (by kernel_rfl)) (by unfold Func.isWrapper; first | (rw [if_pos (by decide +kernel)]; kernel_rfl) | (rw [if_neg (by decide +kernel)]; exact ⟨rfl, rfl⟩))
    (fun os started H enc _ => lifted os started H enc)

theorem proved : Rows.EntryBackSaid := over
#print axioms proved
end Go.Proofs.Ythionkcnmkhopaa.entryBack
