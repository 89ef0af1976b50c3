/-
  PROVED HERE: whatever raw, c and d, confluencelaw11.EntryOne(raw, c, d) returns true: what is decoded is encoded into the same bytes; unlike commands have unlike ones. No condition.
-/
import Derived.Test.YthionkcnmkhopaaEo
import Derived.Test.YthionkcnmkhopaaRows
import Derived.ProofKit
import Derived.OpenShut
import Derived.ChangeOld
import Derived.Carry
namespace Go.Proofs.Ythionkcnmkhopaa.entryOne
open Go.ChangeShapes Go.WideShapes Go.ChangeAt Go.RowKit
set_option linter.unusedVariables false

open Go.Deep
attribute [local irreducible] wpQuiet
/-- Two boxes of arguments. -/
structure Kd (w : World) (x y : Cf) (W : World) : Prop where
  b : Below w.heap.size w W
  l : Lies W w.heap.size 69 x.cells
  r : Lies W (w.heap.size + 1) 69 y.cells
theorem Kd.step {w W W' : World} {x y : Cf} (h : Kd w x y W) (hb : Below W.heap.size W W') : Kd w x y W' := ⟨h.b.trans (hb.mono h.b.size), h.l.below hb h.l.lt, h.r.below hb h.r.lt⟩
theorem Kd.new (w : World) (x y : Cf) : ∃ w1, (w.alloc (.cells x.cells.toArray 27)).alloc (.cells y.cells.toArray 27) = w1 ∧ Hid (Kd w x y w1) := by
  refine ⟨_, rfl, ((Below.refl _ _).alloc (Nat.le_refl _) _).alloc (by simp) _, ?_, ?_⟩
  · have := (Lies.new w x.cells 27).alloc (.cells y.cells.toArray 27)
    rwa [cf_sz] at this
  · have := Lies.new (w.alloc (.cells x.cells.toArray 27)) y.cells 27
    rwa [World.size_alloc, cf_sz] at this
set_option maxRecDepth 100000 in
set_option maxHeartbeats 16000000 in
theorem walk {w : World} {A : Option Addr} {n c : Nat} {t : List UInt8} (ht : SlB w w.heap.size A n c t) {x : Cv} {D : Sl} (h : Cmd w w.heap.size x D) {y : Cv} {D' : Sl} (h' : Cmd w w.heap.size y D') :
    Calls Try.prog 6 #[.slice A n c, cfV (x.at_ D), cfV (y.at_ D')] w fun e w' => e = .returned (.bool true) ∧ Below w.heap.size w w' := by
  obtain ⟨zz, hzz⟩ : ∃ z, zCf = z := ⟨_, rfl⟩
  have ZO : Hid (∀ w : World, (zeroValue 27).run Try.prog w = .ok (.agg zz.cells.toArray) w) := Lib.hid (by rw [← hzz]; exact zero_cf)
  clear hzz
  obtain ⟨cf, hcf⟩ : ∃ c, x.at_ D = c := ⟨_, rfl⟩
  obtain ⟨df, hdf⟩ : ∃ c, y.at_ D' = c := ⟨_, rfl⟩
  obtain ⟨w1, hw1, K1⟩ := Kd.new w cf df
  have HDV : Hid (cf.dv = .slice D.a D.n D.c) := Lib.hid (by rw [← hcf]; rfl)
  have HBR : Hid (cf.branch = x.branch) := Lib.hid (by rw [← hcf]; rfl)
  have HDV2 : Hid (df.dv = .slice D'.a D'.n D'.c) := Lib.hid (by rw [← hdf]; rfl)
  have HBR2 : Hid (df.branch = y.branch) := Lib.hid (by rw [← hdf]; rfl)
  have HC1 : Hid (∀ W, Kd w cf df W → Cmd W W.heap.size x D) := Lib.hid fun W hW => (h.below hW.b).more hW.b.size
  have HC2 : Hid (∀ W, Kd w cf df W → Cmd W W.heap.size y D') := Lib.hid fun W hW => (h'.below hW.b).more hW.b.size
  have HT : Hid (∀ W, Kd w cf df W → SlB W W.heap.size A n c t) := Lib.hid fun W hW => (ht.below hW.b).more hW.b.size
  have HCF := Lib.hid hcf
  have HDF := Lib.hid hdf
  have sx := h.sb
  have sy := h'.sb
  rw [hcf, hdf]
  have HW := Lib.hid hw1
  clear hcf hdf h h' hw1 ht
  by_cases h0 : (5000 : Int) < (n : Int)
  · have d0 : decide ((5000 : Int) < (n : Int)) = true := by simpa using h0
    go_enter Try.func6, Try.ntmps6
    go_upto_region 1 with fail
    rw [HW.out]
    go_wp2_with (first | (go_at_call 7; refine (wakes_any _).mono ?_; rintro e w2 ⟨rfl, hb2⟩; have K2 := Lib.hid (K1.out.step hb2); obtain ⟨_, _, _, c3, _, _, c6⟩ := cf_lies K2.out.l; obtain ⟨_, _, _, f3, _, _, f6⟩ := cf_lies K2.out.r; rw [HDV.out] at c6; rw [HBR.out] at c3; rw [HDV2.out] at f6; rw [HBR2.out] at f3; clear hb2) | fail)
    go_ret
    exact ⟨rfl, K2.out.b⟩
  have d0 : decide ((5000 : Int) < (n : Int)) = false := by simpa using h0
  by_cases h1 : (5000 : Int) < (x.branch.size : Int)
  · have d1 : decide ((5000 : Int) < (x.branch.size : Int)) = true := by simpa using h1
    go_enter Try.func6, Try.ntmps6
    go_upto_region 1 with fail
    rw [HW.out]
    go_wp2_with (first | (go_at_call 7; refine (wakes_any _).mono ?_; rintro e w2 ⟨rfl, hb2⟩; have K2 := Lib.hid (K1.out.step hb2); obtain ⟨_, _, _, c3, _, _, c6⟩ := cf_lies K2.out.l; obtain ⟨_, _, _, f3, _, _, f6⟩ := cf_lies K2.out.r; rw [HDV.out] at c6; rw [HBR.out] at c3; rw [HDV2.out] at f6; rw [HBR2.out] at f3; clear hb2) | fail)
    go_ret
    exact ⟨rfl, K2.out.b⟩
  have d1 : decide ((5000 : Int) < (x.branch.size : Int)) = false := by simpa using h1
  by_cases h2 : (5000 : Int) < (y.branch.size : Int)
  · have d2 : decide ((5000 : Int) < (y.branch.size : Int)) = true := by simpa using h2
    go_enter Try.func6, Try.ntmps6
    go_upto_region 1 with fail
    rw [HW.out]
    go_wp2_with (first | (go_at_call 7; refine (wakes_any _).mono ?_; rintro e w2 ⟨rfl, hb2⟩; have K2 := Lib.hid (K1.out.step hb2); obtain ⟨_, _, _, c3, _, _, c6⟩ := cf_lies K2.out.l; obtain ⟨_, _, _, f3, _, _, f6⟩ := cf_lies K2.out.r; rw [HDV.out] at c6; rw [HBR.out] at c3; rw [HDV2.out] at f6; rw [HBR2.out] at f3; clear hb2) | fail)
    go_ret
    exact ⟨rfl, K2.out.b⟩
  have d2 : decide ((5000 : Int) < (y.branch.size : Int)) = false := by simpa using h2
  by_cases h3 : (5000 : Int) < (D.n : Int)
  · have d3 : decide ((5000 : Int) < (D.n : Int)) = true := by simpa using h3
    go_enter Try.func6, Try.ntmps6
    go_upto_region 1 with fail
    rw [HW.out]
    go_wp2_with (first | (go_at_call 7; refine (wakes_any _).mono ?_; rintro e w2 ⟨rfl, hb2⟩; have K2 := Lib.hid (K1.out.step hb2); obtain ⟨_, _, _, c3, _, _, c6⟩ := cf_lies K2.out.l; obtain ⟨_, _, _, f3, _, _, f6⟩ := cf_lies K2.out.r; rw [HDV.out] at c6; rw [HBR.out] at c3; rw [HDV2.out] at f6; rw [HBR2.out] at f3; clear hb2) | fail)
    go_ret
    exact ⟨rfl, K2.out.b⟩
  have d3 : decide ((5000 : Int) < (D.n : Int)) = false := by simpa using h3
  by_cases h4 : (5000 : Int) < (D'.n : Int)
  · have d4 : decide ((5000 : Int) < (D'.n : Int)) = true := by simpa using h4
    go_enter Try.func6, Try.ntmps6
    go_upto_region 1 with fail
    rw [HW.out]
    go_wp2_with (first | (go_at_call 7; refine (wakes_any _).mono ?_; rintro e w2 ⟨rfl, hb2⟩; have K2 := Lib.hid (K1.out.step hb2); obtain ⟨_, _, _, c3, _, _, c6⟩ := cf_lies K2.out.l; obtain ⟨_, _, _, f3, _, _, f6⟩ := cf_lies K2.out.r; rw [HDV.out] at c6; rw [HBR.out] at c3; rw [HDV2.out] at f6; rw [HBR2.out] at f3; clear hb2) | fail)
    go_ret
    exact ⟨rfl, K2.out.b⟩
  have d4 : decide ((5000 : Int) < (D'.n : Int)) = false := by simpa using h4
  obtain ⟨e1, he1⟩ : ∃ e : Int, (if okC x then 0 else 210) = e := ⟨_, rfl⟩
  obtain ⟨e2, he2⟩ : ∃ e : Int, (if okC y then 0 else 210) = e := ⟨_, rfl⟩
  obtain ⟨l1, hl1⟩ : ∃ l : List UInt8, (if okC x then bytesC x else []) = l := ⟨_, rfl⟩
  obtain ⟨l2, hl2⟩ : ∃ l : List UInt8, (if okC y then bytesC y else []) = l := ⟨_, rfl⟩
  have CE1 : Hid (∀ W, Kd w cf df W → Calls Try.prog 9 #[cfV cf] W fun e w' => (∃ A' m c', e = .returned (.tuple #[.slice A' m c', .int .i64 e1]) ∧ OwnB w' W.heap.size A' m c' l1) ∧ Below W.heap.size W w') := Lib.hid fun W hW => by
    have := Enc_any (HC1.out W hW) (by omega)
    rwa [he1, hl1, HCF.out] at this
  have CE2 : Hid (∀ W, Kd w cf df W → Calls Try.prog 9 #[cfV df] W fun e w' => (∃ A' m c', e = .returned (.tuple #[.slice A' m c', .int .i64 e2]) ∧ OwnB w' W.heap.size A' m c' l2) ∧ Below W.heap.size W w') := Lib.hid fun W hW => by
    have := Enc_any (HC2.out W hW) (by omega)
    rwa [he2, hl2, HDF.out] at this
  have HE1 : Hid (okC x = true → e1 = 0) := Lib.hid fun h => by rw [← he1, if_pos h]
  have HE2 : Hid (okC y = true → e2 = 0) := Lib.hid fun h => by rw [← he2, if_pos h]
  have HN1 : Hid (¬ okC x = true → e1 = 210) := Lib.hid fun h => by rw [← he1, if_neg h]
  have HN2 : Hid (¬ okC y = true → e2 = 210) := Lib.hid fun h => by rw [← he2, if_neg h]
  have HQ : Hid (okC x = true → okC y = true → (l1 == l2) = sameC x y) := Lib.hid fun o1 o2 => by
    rw [← hl1, ← hl2, if_pos o1, if_pos o2, Bool.eq_iff_iff, beq_iff_eq, sameC_iff]
    exact ⟨bytes_inj o1 o2 sx sy, fun e => by rw [e]⟩
  clear he1 he2 hl1 hl2
  obtain ⟨er, her⟩ : ∃ e, (decW t).2 = e := ⟨_, rfl⟩
  obtain ⟨xr, hxr⟩ : ∃ r, (decW t).1 = r := ⟨_, rfl⟩
  have HB : Hid (er = 0 → okC xr = true ∧ bytesC xr = t) := Lib.hid fun h0 => by
    have := dec_back (b := t) (by rw [her]; exact h0)
    rw [hxr] at this
    exact ⟨this.1, this.2.1⟩
  go_enter Try.func6, Try.ntmps6
  go_upto_region 1 with fail
  rw [HW.out]
  go_upto_region 5 with (first | (go_at_call 7; refine (wakes_any _).mono ?_; rintro e w2 ⟨rfl, hb2⟩; have K2 := Lib.hid (K1.out.step hb2); obtain ⟨_, _, _, c3, _, _, c6⟩ := cf_lies K2.out.l; obtain ⟨_, _, _, f3, _, _, f6⟩ := cf_lies K2.out.r; rw [HDV.out] at c6; rw [HBR.out] at c3; rw [HDV2.out] at f6; rw [HBR2.out] at f3; clear hb2) | fail)
  clear c3 c6 f3 f6
  have CD := Lib.hid (Decode_any (HT.out _ K2.out) (by omega))
  rw [her, hxr] at CD
  go_upto_region 6 with (first
    | (go_at_call 14; refine CD.out.mono ?_; rintro e w5 ⟨⟨v, rfl, hv⟩, hb5⟩; obtain ⟨Dd, rfl, hd⟩ := hv.c; obtain ⟨cd, hcd⟩ : ∃ c, xr.at_ Dd = c := ⟨_, rfl⟩; (try dsimp only); rw [hcd]; obtain ⟨wA, hwA⟩ : ∃ v, w5.alloc (.cells zz.cells.toArray 27) = v := ⟨_, rfl⟩; have XA : Hid (Lies wA w5.heap.size 69 zz.cells) := Lib.hid (by rw [← hwA]; have := Lies.new w5 zz.cells 27; rwa [cf_sz] at this); have TA := Lib.hid XA.out.th; have ONE : Hid (cd.dv.oneCell' = true) := Lib.hid (by rw [← hcd]; rfl); have HWA := Lib.hid hwA; clear hwA)
    | ((with_reducible refine alt 27 ?_ ?_ zz.cells ZO.out ?_); rfl; rfl; rw [HWA.out]; (try simp only [Act.put, List.setIfInBounds_toArray, List.set_cons_succ, List.set_cons_zero]))
    | ((with_reducible refine stc (.tmp 7) (.tmp 47) ?_ ?_ w5.heap.size 0 cd ?_ ?_ TA.out ONE.out ?_); rfl; rfl; rfl; rfl; (try simp only [Act.put, List.setIfInBounds_toArray, List.set_cons_succ, List.set_cons_zero]))
    | fail)
  obtain ⟨wB, hwB⟩ : ∃ v, wA.setCells w5.heap.size 0 cd.cells = v := ⟨_, rfl⟩
  have b5B : Below w5.heap.size w5 wB := by rw [← hwB, ← HWA.out]; exact below_setCells ((Below.refl _ _).alloc (Nat.le_refl _) _) (Nat.le_refl _) _ _
  have b2B : Below w2.heap.size w2 wB := hb5.trans (b5B.mono hb5.size)
  have K6 := Lib.hid (K2.out.step b2B)
  have X6 : Hid (Lies wB w5.heap.size 69 cd.cells) := Lib.hid (by rw [← hwB]; exact XA.out.set_ (cf_sz _))
  have E6 : Hid (Cmd wB wB.heap.size xr Dd) := Lib.hid ((hd.below b5B).more b5B.size)
  obtain ⟨Bd, hBd⟩ : ∃ b, w5.heap.size = b := ⟨_, rfl⟩
  rw [hwB]
  rw [hBd] at X6 ⊢
  have HCD := Lib.hid hcd
  clear hwB b5B b2B hb5 hd hv XA TA HWA CD hBd her hxr K2 hcd
  by_cases he0 : er = 0
  · subst he0
    obtain ⟨okr, hbr⟩ := HB.out rfl
    have Q6 := Lib.hid X6.out.rg
    have CEr : Hid (Calls Try.prog 9 #[cfV cd] wB fun e w' => (∃ A' m c', e = .returned (.tuple #[.slice A' m c', .int .i64 0]) ∧ OwnB w' wB.heap.size A' m c' t) ∧ Below wB.heap.size wB w') := Lib.hid (by
      have := Enc_any E6.out (by have h1 := E6.out.d.len; have h2 := ok_small okr; omega)
      rwa [if_pos okr, if_pos okr, hbr, HCD.out] at this)
    clear okr hbr E6 X6
    go_upto_region 10 with (first
      | ((with_reducible refine ldc (.tmp 7) ?_ ?_ Bd 0 cd ?_ Q6.out ?_); rfl; (first | rfl | (go_simp <;> fail)); rfl)
      | (go_at_call 9; refine CEr.out.mono ?_; rintro e w7 ⟨⟨A7, m7, c7, rfl, ho7⟩, hb7⟩; have K7 := Lib.hid (K6.out.step hb7); have S7 := Lib.hid ho7.sl; have T7 := Lib.hid (HT.out _ K7.out); clear ho7 hb7)
      | (go_at_call 17; refine (equal_is S7.out T7.out true (by simp)).mono ?_; rintro e _ ⟨rfl, rfl⟩)
      | fail)
    clear K6 S7 T7 CEr Q6
    have RA := Lib.hid K7.out.l.rg
    go_upto_region 11 with (first
      | ((with_reducible refine ldc (.tmp 4) ?_ ?_ w.heap.size 0 cf ?_ RA.out ?_); rfl; (first | rfl | (go_simp <;> fail)); rfl)
      | (go_at_call 9; refine (CE1.out _ K7.out).mono ?_; rintro e wa ⟨⟨Aa, ma, ca, rfl, hoa⟩, hba⟩; have Ka := Lib.hid (K7.out.step hba); have Sa := Lib.hid hoa.sl; clear hoa hba)
      | fail)
    have RB := Lib.hid Ka.out.r.rg
    go_upto_region 12 with (first
      | ((with_reducible refine ldc (.tmp 5) ?_ ?_ (w.heap.size + 1) 0 df ?_ RB.out ?_); rfl; (first | rfl | (go_simp <;> fail)); rfl)
      | (go_at_call 9; refine (CE2.out _ Ka.out).mono ?_; rintro e wb ⟨⟨Ab, mb, cb, rfl, hob⟩, hbb⟩; have Kb := Lib.hid (Ka.out.step hbb); have Sb := Lib.hid hob.sl; have Sa2 := Lib.hid ((Sa.out.below hbb).more hbb.size); clear hob hbb)
      | fail)
    obtain ⟨wd, hwd⟩ : ∃ v, wb.drew = v := ⟨_, rfl⟩
    have bd : Below wb.heap.size wb wd := by rw [← hwd]; exact (Below.refl _ _).drew
    have Kd0 := Kb.out.step bd
    have Sa3 := Lib.hid ((Sa2.out.below bd).more bd.size)
    have Sb3 := Lib.hid ((Sb.out.below bd).more bd.size)
    have L0 := Kd0.l.rg
    have L1 := Kd0.r.rg
    have KD := Lib.hid Kd0
    have KD0 : Hid (Kd w cf df wb.drew) := Lib.hid (by rw [hwd]; exact Kd0)
    have HWD := Lib.hid hwd
    clear bd Kd0 hwd
    by_cases o1 : okC x = true
    · have g1 := HE1.out o1
      subst g1
      by_cases o2 : okC y = true
      · have g2 := HE2.out o2
        subst g2
        have EQ := HQ.out o1 o2
        obtain ⟨q, hq⟩ : ∃ q, sameC x y = q := ⟨_, rfl⟩
        have CQ : Hid (Calls Try.prog 17 #[.slice Aa ma ca, .slice Ab mb cb] wd fun e w' => e = .returned (.bool q) ∧ wd = w') := Lib.hid (equal_is Sa3.out Sb3.out q (by rw [EQ, hq]))
        have CS : Hid (Calls Try.prog 8 #[cfV cf, cfV df] wd fun e w' => e = .returned (.bool q) ∧ Below wd.heap.size wd w') := Lib.hid (by
          have := Sm_any (HC1.out _ KD.out) (HC2.out _ KD.out)
          rwa [hq, HCF.out, HDF.out] at this)
        clear EQ hq
        refine wp_region_noPanic ?_
        refine wp_region_held_drew (S := (Kd w cf df)) (by kernel_rfl) KD0.out (fun _ => ?_)
        rw [HWD.out]
        refine wpAnyH_take (i := 0) rfl (by kernel_rfl) (by kernel_rfl) (by kernel_rfl) (fun _ _ _ h => h) (.inl ⟨rfl, fun w' hw' => (by clear hw'; go_simp; (try rfl))⟩) KD.out ?_
        simp only [List.getElem_toArray, List.getElem_cons_zero, List.getElem_cons_succ, Act.put, List.setIfInBounds_toArray, List.set_cons_succ, List.set_cons_zero]
        refine wpAnyH_take (i := 1) rfl (by kernel_rfl) (by kernel_rfl) (by kernel_rfl) (fun _ _ _ h => h) (.inl ⟨rfl, fun w' hw' => (by clear hw'; go_simp; (try rfl))⟩) KD.out ?_
        simp only [List.getElem_toArray, List.getElem_cons_zero, List.getElem_cons_succ, Act.put, List.setIfInBounds_toArray, List.set_cons_succ, List.set_cons_zero]
        refine wpAnyH_take (i := 2) rfl (by kernel_rfl) (by kernel_rfl) (by kernel_rfl) (fun _ _ _ h => h) (.inl ⟨rfl, fun w' hw' => (by clear hw'; go_simp; (try rfl))⟩) KD.out ?_
        simp only [List.getElem_toArray, List.getElem_cons_zero, List.getElem_cons_succ, Act.put, List.setIfInBounds_toArray, List.set_cons_succ, List.set_cons_zero]
        refine wpAnyH_take (i := 3) rfl (by kernel_rfl) (by kernel_rfl) (by kernel_rfl) (fun _ _ _ h => h) (.inl ⟨rfl, fun w' hw' => (by clear hw'; go_simp; (try rfl))⟩) KD.out ?_
        simp only [List.getElem_toArray, List.getElem_cons_zero, List.getElem_cons_succ, Act.put, List.setIfInBounds_toArray, List.set_cons_succ, List.set_cons_zero]
        refine wpAnyH_take (i := 4) rfl (by kernel_rfl) (by kernel_rfl) (by kernel_rfl) (fun _ _ _ h => h) (.inl ⟨rfl, fun w' hw' => (by clear hw'; go_simp; (try rfl))⟩) KD.out ?_
        simp only [List.getElem_toArray, List.getElem_cons_zero, List.getElem_cons_succ, Act.put, List.setIfInBounds_toArray, List.set_cons_succ, List.set_cons_zero]
        refine wpAnyH_take (i := 5) rfl (by kernel_rfl) (by kernel_rfl) (by kernel_rfl) (fun _ _ _ h => h) (.inl ⟨rfl, fun w' hw' => (by clear hw'; go_simp; (try rfl))⟩) KD.out ?_
        simp only [List.getElem_toArray, List.getElem_cons_zero, List.getElem_cons_succ, Act.put, List.setIfInBounds_toArray, List.set_cons_succ, List.set_cons_zero]
        refine wpAnyH_take (i := 6) rfl (by kernel_rfl) (by kernel_rfl) (by kernel_rfl) (fun _ _ _ h => h) (.inl ⟨rfl, fun w' hw' => (by clear hw'; go_simp; (try rfl))⟩) KD.out ?_
        simp only [List.getElem_toArray, List.getElem_cons_zero, List.getElem_cons_succ, Act.put, List.setIfInBounds_toArray, List.set_cons_succ, List.set_cons_zero]
        refine wpAnyH_take (i := 7) rfl (by kernel_rfl) (by kernel_rfl) (by kernel_rfl) (fun _ _ _ h => h) (.inl ⟨rfl, fun w' hw' => (by clear hw'; go_simp; (try rfl))⟩) KD.out ?_
        simp only [List.getElem_toArray, List.getElem_cons_zero, List.getElem_cons_succ, Act.put, List.setIfInBounds_toArray, List.set_cons_succ, List.set_cons_zero]
        refine wpAnyH_take (i := 8) rfl (by kernel_rfl) (by kernel_rfl) (by kernel_rfl) (fun _ _ _ h => h) (.inl ⟨rfl, fun w' hw' => (by clear hw'; go_simp; (try rfl))⟩) KD.out ?_
        simp only [List.getElem_toArray, List.getElem_cons_zero, List.getElem_cons_succ, Act.put, List.setIfInBounds_toArray, List.set_cons_succ, List.set_cons_zero]
        refine wpAnyH_take (i := 10) rfl (by kernel_rfl) (by kernel_rfl) (by kernel_rfl) (fun _ _ _ h => h) (yieldsIf_load_mid rfl 27 _ rfl w.heap.size 0 rfl cf.cells _ (fun w' hw' => hw'.l.rg) Try.underlying27 rfl (by rw [cf_sz]; exact size_cf)) KD.out ?_
        simp only [List.getElem_toArray, List.getElem_cons_zero, List.getElem_cons_succ, Act.put, List.setIfInBounds_toArray, List.set_cons_succ, List.set_cons_zero]
        refine wpAnyH_take (i := 11) rfl (by kernel_rfl) (by kernel_rfl) (by kernel_rfl) (fun _ _ _ h => h) (yieldsIf_load_mid rfl 27 _ rfl (w.heap.size + 1) 0 rfl df.cells _ (fun w' hw' => hw'.r.rg) Try.underlying27 rfl (by rw [cf_sz]; exact size_cf)) KD.out ?_
        simp only [List.getElem_toArray, List.getElem_cons_zero, List.getElem_cons_succ, Act.put, List.setIfInBounds_toArray, List.set_cons_succ, List.set_cons_zero]
        refine wpAnyH_ready (rs := [9]) (by kernel_rfl) (by simp) (AllReadyH.cons rfl (fun K hK => ?_) AllReadyH.nil)
        rw [if_pos (by rfl)]
        refine wp_fn (f := 17) (xs := #[.slice Aa ma ca, .slice Ab mb cb]) (by first | (go_simp; done) | (go_simp; rfl)) ((CQ.out).mono ?_)
        rintro e _ ⟨rfl, rfl⟩
        refine ⟨_, rfl, hK.out _ _ KD.out (fun _ => ?_)⟩
        simp only [List.getElem_toArray, List.getElem_cons_zero, List.getElem_cons_succ, Act.put, List.setIfInBounds_toArray, List.set_cons_succ, List.set_cons_zero]
        refine wpAnyH_ready (rs := [12]) (by kernel_rfl) (by simp) (AllReadyH.cons rfl (fun K hK => ?_) AllReadyH.nil)
        rw [if_pos (by rfl)]
        refine wp_fn (f := 8) (xs := #[cfV cf, cfV df]) (by first | (go_simp; done) | (go_simp; rfl)) ((CS.out).mono ?_)
        rintro e wz ⟨rfl, hbz⟩
        have KZ := Lib.hid (KD.out.step hbz)
        clear hbz
        refine ⟨_, rfl, hK.out _ _ KZ.out (fun _ => ?_)⟩
        simp only [List.getElem_toArray, List.getElem_cons_zero, List.getElem_cons_succ, Act.put, List.setIfInBounds_toArray, List.set_cons_succ, List.set_cons_zero]
        refine wpAnyH_take (i := 13) rfl (by kernel_rfl) (by kernel_rfl) (by kernel_rfl) (fun _ _ _ h => h) (.inl ⟨rfl, fun w' hw' => (by clear hw'; go_simp; (try rfl))⟩) KZ.out ?_
        simp only [List.getElem_toArray, List.getElem_cons_zero, List.getElem_cons_succ, Act.put, List.setIfInBounds_toArray, List.set_cons_succ, List.set_cons_zero]
        refine wpAnyH_take (i := 14) rfl (by kernel_rfl) (by kernel_rfl) (by kernel_rfl) (fun _ _ _ h => h) (.inl ⟨rfl, fun w' hw' => (by clear hw'; go_simp; (try rfl))⟩) KZ.out ?_
        simp only [List.getElem_toArray, List.getElem_cons_zero, List.getElem_cons_succ, Act.put, List.setIfInBounds_toArray, List.set_cons_succ, List.set_cons_zero]
        refine wpAnyH_take (i := 15) rfl (by kernel_rfl) (by kernel_rfl) (by kernel_rfl) (fun _ _ _ h => h) (.inl ⟨rfl, fun w' hw' => (by clear hw'; go_simp; (try rfl))⟩) KZ.out ?_
        simp only [List.getElem_toArray, List.getElem_cons_zero, List.getElem_cons_succ, Act.put, List.setIfInBounds_toArray, List.set_cons_succ, List.set_cons_zero]
        refine wpAnyH_done (by kernel_rfl) ?_ _
        refine NoPanic.normal ?_
        go_wp2_with fail
        go_ret
        exact ⟨by cases q <;> rfl, KZ.out.b⟩
      · have g2 := HN2.out o2
        subst g2
        refine wp_region_noPanic ?_
        refine wp_region_held_drew (S := (Kd w cf df)) (by kernel_rfl) KD0.out (fun _ => ?_)
        rw [HWD.out]
        refine wpAnyH_take (i := 0) rfl (by kernel_rfl) (by kernel_rfl) (by kernel_rfl) (fun _ _ _ h => h) (.inl ⟨rfl, fun w' hw' => (by clear hw'; go_simp; (try rfl))⟩) KD.out ?_
        simp only [List.getElem_toArray, List.getElem_cons_zero, List.getElem_cons_succ, Act.put, List.setIfInBounds_toArray, List.set_cons_succ, List.set_cons_zero]
        refine wpAnyH_take (i := 1) rfl (by kernel_rfl) (by kernel_rfl) (by kernel_rfl) (fun _ _ _ h => h) (.inl ⟨rfl, fun w' hw' => (by clear hw'; go_simp; (try rfl))⟩) KD.out ?_
        simp only [List.getElem_toArray, List.getElem_cons_zero, List.getElem_cons_succ, Act.put, List.setIfInBounds_toArray, List.set_cons_succ, List.set_cons_zero]
        refine wpAnyH_take (i := 2) rfl (by kernel_rfl) (by kernel_rfl) (by kernel_rfl) (fun _ _ _ h => h) (.inl ⟨rfl, fun w' hw' => (by clear hw'; go_simp; (try rfl))⟩) KD.out ?_
        simp only [List.getElem_toArray, List.getElem_cons_zero, List.getElem_cons_succ, Act.put, List.setIfInBounds_toArray, List.set_cons_succ, List.set_cons_zero]
        refine wpAnyH_take (i := 3) rfl (by kernel_rfl) (by kernel_rfl) (by kernel_rfl) (fun _ _ _ h => h) (.inl ⟨rfl, fun w' hw' => (by clear hw'; go_simp; (try rfl))⟩) KD.out ?_
        simp only [List.getElem_toArray, List.getElem_cons_zero, List.getElem_cons_succ, Act.put, List.setIfInBounds_toArray, List.set_cons_succ, List.set_cons_zero]
        refine wpAnyH_take (i := 4) rfl (by kernel_rfl) (by kernel_rfl) (by kernel_rfl) (fun _ _ _ h => h) (.inl ⟨rfl, fun w' hw' => (by clear hw'; go_simp; (try rfl))⟩) KD.out ?_
        simp only [List.getElem_toArray, List.getElem_cons_zero, List.getElem_cons_succ, Act.put, List.setIfInBounds_toArray, List.set_cons_succ, List.set_cons_zero]
        refine wpAnyH_take (i := 5) rfl (by kernel_rfl) (by kernel_rfl) (by kernel_rfl) (fun _ _ _ h => h) (.inl ⟨rfl, fun w' hw' => (by clear hw'; go_simp; (try rfl))⟩) KD.out ?_
        simp only [List.getElem_toArray, List.getElem_cons_zero, List.getElem_cons_succ, Act.put, List.setIfInBounds_toArray, List.set_cons_succ, List.set_cons_zero]
        refine wpAnyH_take (i := 6) rfl (by kernel_rfl) (by kernel_rfl) (by kernel_rfl) (fun _ _ _ h => h) (.inl ⟨rfl, fun w' hw' => (by clear hw'; go_simp; (try rfl))⟩) KD.out ?_
        simp only [List.getElem_toArray, List.getElem_cons_zero, List.getElem_cons_succ, Act.put, List.setIfInBounds_toArray, List.set_cons_succ, List.set_cons_zero]
        refine wpAnyH_take (i := 7) rfl (by kernel_rfl) (by kernel_rfl) (by kernel_rfl) (fun _ _ _ h => h) (.inr ⟨by rfl, rfl⟩) KD.out ?_
        simp only [List.getElem_toArray, List.getElem_cons_zero, List.getElem_cons_succ, Act.put, List.setIfInBounds_toArray, List.set_cons_succ, List.set_cons_zero]
        refine wpAnyH_take (i := 8) rfl (by kernel_rfl) (by kernel_rfl) (by kernel_rfl) (fun _ _ _ h => h) (.inr ⟨by rfl, rfl⟩) KD.out ?_
        simp only [List.getElem_toArray, List.getElem_cons_zero, List.getElem_cons_succ, Act.put, List.setIfInBounds_toArray, List.set_cons_succ, List.set_cons_zero]
        refine wpAnyH_take (i := 10) rfl (by kernel_rfl) (by kernel_rfl) (by kernel_rfl) (fun _ _ _ h => h) (.inr ⟨by rfl, rfl⟩) KD.out ?_
        simp only [List.getElem_toArray, List.getElem_cons_zero, List.getElem_cons_succ, Act.put, List.setIfInBounds_toArray, List.set_cons_succ, List.set_cons_zero]
        refine wpAnyH_take (i := 11) rfl (by kernel_rfl) (by kernel_rfl) (by kernel_rfl) (fun _ _ _ h => h) (.inr ⟨by rfl, rfl⟩) KD.out ?_
        simp only [List.getElem_toArray, List.getElem_cons_zero, List.getElem_cons_succ, Act.put, List.setIfInBounds_toArray, List.set_cons_succ, List.set_cons_zero]
        refine wpAnyH_ready (rs := [9]) (by kernel_rfl) (by simp) (AllReadyH.cons rfl (fun K hK => ?_) AllReadyH.nil)
        go_simp
        refine hK.out _ _ KD.out (fun _ => ?_)
        refine wpAnyH_ready (rs := [12]) (by kernel_rfl) (by simp) (AllReadyH.cons rfl (fun K hK => ?_) AllReadyH.nil)
        go_simp
        refine hK.out _ _ KD.out (fun _ => ?_)
        refine wpAnyH_take (i := 13) rfl (by kernel_rfl) (by kernel_rfl) (by kernel_rfl) (fun _ _ _ h => h) (.inr ⟨by rfl, rfl⟩) KD.out ?_
        simp only [List.getElem_toArray, List.getElem_cons_zero, List.getElem_cons_succ, Act.put, List.setIfInBounds_toArray, List.set_cons_succ, List.set_cons_zero]
        refine wpAnyH_take (i := 14) rfl (by kernel_rfl) (by kernel_rfl) (by kernel_rfl) (fun _ _ _ h => h) (.inl ⟨rfl, fun w' hw' => (by clear hw'; go_simp; (try rfl))⟩) KD.out ?_
        simp only [List.getElem_toArray, List.getElem_cons_zero, List.getElem_cons_succ, Act.put, List.setIfInBounds_toArray, List.set_cons_succ, List.set_cons_zero]
        refine wpAnyH_take (i := 15) rfl (by kernel_rfl) (by kernel_rfl) (by kernel_rfl) (fun _ _ _ h => h) (.inl ⟨rfl, fun w' hw' => (by clear hw'; go_simp; (try rfl))⟩) KD.out ?_
        simp only [List.getElem_toArray, List.getElem_cons_zero, List.getElem_cons_succ, Act.put, List.setIfInBounds_toArray, List.set_cons_succ, List.set_cons_zero]
        refine wpAnyH_done (by kernel_rfl) ?_ _
        refine NoPanic.normal ?_
        go_wp2_with fail
        go_ret
        exact ⟨rfl, KD.out.b⟩
    · have g1 := HN1.out o1
      subst g1
      refine wp_region_noPanic ?_
      refine wp_region_held_drew (S := (Kd w cf df)) (by kernel_rfl) KD0.out (fun _ => ?_)
      rw [HWD.out]
      refine wpAnyH_take (i := 0) rfl (by kernel_rfl) (by kernel_rfl) (by kernel_rfl) (fun _ _ _ h => h) (.inl ⟨rfl, fun w' hw' => (by clear hw'; go_simp; (try rfl))⟩) KD.out ?_
      simp only [List.getElem_toArray, List.getElem_cons_zero, List.getElem_cons_succ, Act.put, List.setIfInBounds_toArray, List.set_cons_succ, List.set_cons_zero]
      refine wpAnyH_take (i := 1) rfl (by kernel_rfl) (by kernel_rfl) (by kernel_rfl) (fun _ _ _ h => h) (.inl ⟨rfl, fun w' hw' => (by clear hw'; go_simp; (try rfl))⟩) KD.out ?_
      simp only [List.getElem_toArray, List.getElem_cons_zero, List.getElem_cons_succ, Act.put, List.setIfInBounds_toArray, List.set_cons_succ, List.set_cons_zero]
      refine wpAnyH_take (i := 2) rfl (by kernel_rfl) (by kernel_rfl) (by kernel_rfl) (fun _ _ _ h => h) (.inl ⟨rfl, fun w' hw' => (by clear hw'; go_simp; (try rfl))⟩) KD.out ?_
      simp only [List.getElem_toArray, List.getElem_cons_zero, List.getElem_cons_succ, Act.put, List.setIfInBounds_toArray, List.set_cons_succ, List.set_cons_zero]
      refine wpAnyH_take (i := 3) rfl (by kernel_rfl) (by kernel_rfl) (by kernel_rfl) (fun _ _ _ h => h) (.inr ⟨by rfl, rfl⟩) KD.out ?_
      simp only [List.getElem_toArray, List.getElem_cons_zero, List.getElem_cons_succ, Act.put, List.setIfInBounds_toArray, List.set_cons_succ, List.set_cons_zero]
      refine wpAnyH_take (i := 4) rfl (by kernel_rfl) (by kernel_rfl) (by kernel_rfl) (fun _ _ _ h => h) (.inr ⟨by rfl, rfl⟩) KD.out ?_
      simp only [List.getElem_toArray, List.getElem_cons_zero, List.getElem_cons_succ, Act.put, List.setIfInBounds_toArray, List.set_cons_succ, List.set_cons_zero]
      refine wpAnyH_take (i := 5) rfl (by kernel_rfl) (by kernel_rfl) (by kernel_rfl) (fun _ _ _ h => h) (.inl ⟨rfl, fun w' hw' => (by clear hw'; go_simp; (try rfl))⟩) KD.out ?_
      simp only [List.getElem_toArray, List.getElem_cons_zero, List.getElem_cons_succ, Act.put, List.setIfInBounds_toArray, List.set_cons_succ, List.set_cons_zero]
      refine wpAnyH_take (i := 6) rfl (by kernel_rfl) (by kernel_rfl) (by kernel_rfl) (fun _ _ _ h => h) (.inl ⟨rfl, fun w' hw' => (by clear hw'; go_simp; (try rfl))⟩) KD.out ?_
      simp only [List.getElem_toArray, List.getElem_cons_zero, List.getElem_cons_succ, Act.put, List.setIfInBounds_toArray, List.set_cons_succ, List.set_cons_zero]
      refine wpAnyH_take (i := 7) rfl (by kernel_rfl) (by kernel_rfl) (by kernel_rfl) (fun _ _ _ h => h) (.inr ⟨by rfl, rfl⟩) KD.out ?_
      simp only [List.getElem_toArray, List.getElem_cons_zero, List.getElem_cons_succ, Act.put, List.setIfInBounds_toArray, List.set_cons_succ, List.set_cons_zero]
      refine wpAnyH_take (i := 8) rfl (by kernel_rfl) (by kernel_rfl) (by kernel_rfl) (fun _ _ _ h => h) (.inr ⟨by rfl, rfl⟩) KD.out ?_
      simp only [List.getElem_toArray, List.getElem_cons_zero, List.getElem_cons_succ, Act.put, List.setIfInBounds_toArray, List.set_cons_succ, List.set_cons_zero]
      refine wpAnyH_take (i := 10) rfl (by kernel_rfl) (by kernel_rfl) (by kernel_rfl) (fun _ _ _ h => h) (.inr ⟨by rfl, rfl⟩) KD.out ?_
      simp only [List.getElem_toArray, List.getElem_cons_zero, List.getElem_cons_succ, Act.put, List.setIfInBounds_toArray, List.set_cons_succ, List.set_cons_zero]
      refine wpAnyH_take (i := 11) rfl (by kernel_rfl) (by kernel_rfl) (by kernel_rfl) (fun _ _ _ h => h) (.inr ⟨by rfl, rfl⟩) KD.out ?_
      simp only [List.getElem_toArray, List.getElem_cons_zero, List.getElem_cons_succ, Act.put, List.setIfInBounds_toArray, List.set_cons_succ, List.set_cons_zero]
      refine wpAnyH_ready (rs := [9]) (by kernel_rfl) (by simp) (AllReadyH.cons rfl (fun K hK => ?_) AllReadyH.nil)
      go_simp
      refine hK.out _ _ KD.out (fun _ => ?_)
      refine wpAnyH_ready (rs := [12]) (by kernel_rfl) (by simp) (AllReadyH.cons rfl (fun K hK => ?_) AllReadyH.nil)
      go_simp
      refine hK.out _ _ KD.out (fun _ => ?_)
      refine wpAnyH_take (i := 13) rfl (by kernel_rfl) (by kernel_rfl) (by kernel_rfl) (fun _ _ _ h => h) (.inr ⟨by rfl, rfl⟩) KD.out ?_
      simp only [List.getElem_toArray, List.getElem_cons_zero, List.getElem_cons_succ, Act.put, List.setIfInBounds_toArray, List.set_cons_succ, List.set_cons_zero]
      refine wpAnyH_take (i := 14) rfl (by kernel_rfl) (by kernel_rfl) (by kernel_rfl) (fun _ _ _ h => h) (.inl ⟨rfl, fun w' hw' => (by clear hw'; go_simp; (try rfl))⟩) KD.out ?_
      simp only [List.getElem_toArray, List.getElem_cons_zero, List.getElem_cons_succ, Act.put, List.setIfInBounds_toArray, List.set_cons_succ, List.set_cons_zero]
      refine wpAnyH_take (i := 15) rfl (by kernel_rfl) (by kernel_rfl) (by kernel_rfl) (fun _ _ _ h => h) (.inl ⟨rfl, fun w' hw' => (by clear hw'; go_simp; (try rfl))⟩) KD.out ?_
      simp only [List.getElem_toArray, List.getElem_cons_zero, List.getElem_cons_succ, Act.put, List.setIfInBounds_toArray, List.set_cons_succ, List.set_cons_zero]
      refine wpAnyH_done (by kernel_rfl) ?_ _
      refine NoPanic.normal ?_
      go_wp2_with fail
      go_ret
      exact ⟨rfl, KD.out.b⟩
  · have hd0 : (er == 0) = false := by rw [Bool.eq_false_iff]; simpa using he0
    go_upto_region 10 with fail
    have RA := Lib.hid K6.out.l.rg
    go_upto_region 11 with (first
      | ((with_reducible refine ldc (.tmp 4) ?_ ?_ w.heap.size 0 cf ?_ RA.out ?_); rfl; (first | rfl | (go_simp <;> fail)); rfl)
      | (go_at_call 9; refine (CE1.out _ K6.out).mono ?_; rintro e wa ⟨⟨Aa, ma, ca, rfl, hoa⟩, hba⟩; have Ka := Lib.hid (K6.out.step hba); have Sa := Lib.hid hoa.sl; clear hoa hba)
      | fail)
    have RB := Lib.hid Ka.out.r.rg
    go_upto_region 12 with (first
      | ((with_reducible refine ldc (.tmp 5) ?_ ?_ (w.heap.size + 1) 0 df ?_ RB.out ?_); rfl; (first | rfl | (go_simp <;> fail)); rfl)
      | (go_at_call 9; refine (CE2.out _ Ka.out).mono ?_; rintro e wb ⟨⟨Ab, mb, cb, rfl, hob⟩, hbb⟩; have Kb := Lib.hid (Ka.out.step hbb); have Sb := Lib.hid hob.sl; have Sa2 := Lib.hid ((Sa.out.below hbb).more hbb.size); clear hob hbb)
      | fail)
    obtain ⟨wd, hwd⟩ : ∃ v, wb.drew = v := ⟨_, rfl⟩
    have bd : Below wb.heap.size wb wd := by rw [← hwd]; exact (Below.refl _ _).drew
    have Kd0 := Kb.out.step bd
    have Sa3 := Lib.hid ((Sa2.out.below bd).more bd.size)
    have Sb3 := Lib.hid ((Sb.out.below bd).more bd.size)
    have L0 := Kd0.l.rg
    have L1 := Kd0.r.rg
    have KD := Lib.hid Kd0
    have KD0 : Hid (Kd w cf df wb.drew) := Lib.hid (by rw [hwd]; exact Kd0)
    have HWD := Lib.hid hwd
    clear bd Kd0 hwd
    by_cases o1 : okC x = true
    · have g1 := HE1.out o1
      subst g1
      by_cases o2 : okC y = true
      · have g2 := HE2.out o2
        subst g2
        have EQ := HQ.out o1 o2
        obtain ⟨q, hq⟩ : ∃ q, sameC x y = q := ⟨_, rfl⟩
        have CQ : Hid (Calls Try.prog 17 #[.slice Aa ma ca, .slice Ab mb cb] wd fun e w' => e = .returned (.bool q) ∧ wd = w') := Lib.hid (equal_is Sa3.out Sb3.out q (by rw [EQ, hq]))
        have CS : Hid (Calls Try.prog 8 #[cfV cf, cfV df] wd fun e w' => e = .returned (.bool q) ∧ Below wd.heap.size wd w') := Lib.hid (by
          have := Sm_any (HC1.out _ KD.out) (HC2.out _ KD.out)
          rwa [hq, HCF.out, HDF.out] at this)
        clear EQ hq
        refine wp_region_noPanic ?_
        refine wp_region_held_drew (S := (Kd w cf df)) (by kernel_rfl) KD0.out (fun _ => ?_)
        rw [HWD.out]
        refine wpAnyH_take (i := 0) rfl (by kernel_rfl) (by kernel_rfl) (by kernel_rfl) (fun _ _ _ h => h) (.inl ⟨rfl, fun w' hw' => (by clear hw'; go_simp; (try rfl))⟩) KD.out ?_
        simp only [List.getElem_toArray, List.getElem_cons_zero, List.getElem_cons_succ, Act.put, List.setIfInBounds_toArray, List.set_cons_succ, List.set_cons_zero]
        refine wpAnyH_take (i := 1) rfl (by kernel_rfl) (by kernel_rfl) (by kernel_rfl) (fun _ _ _ h => h) (.inl ⟨rfl, fun w' hw' => (by clear hw'; go_simp; (try rfl))⟩) KD.out ?_
        simp only [List.getElem_toArray, List.getElem_cons_zero, List.getElem_cons_succ, Act.put, List.setIfInBounds_toArray, List.set_cons_succ, List.set_cons_zero]
        refine wpAnyH_take (i := 2) rfl (by kernel_rfl) (by kernel_rfl) (by kernel_rfl) (fun _ _ _ h => h) (.inl ⟨rfl, fun w' hw' => (by clear hw'; go_simp; (try rfl))⟩) KD.out ?_
        simp only [List.getElem_toArray, List.getElem_cons_zero, List.getElem_cons_succ, Act.put, List.setIfInBounds_toArray, List.set_cons_succ, List.set_cons_zero]
        refine wpAnyH_take (i := 3) rfl (by kernel_rfl) (by kernel_rfl) (by kernel_rfl) (fun _ _ _ h => h) (.inl ⟨rfl, fun w' hw' => (by clear hw'; go_simp; (try rfl))⟩) KD.out ?_
        simp only [List.getElem_toArray, List.getElem_cons_zero, List.getElem_cons_succ, Act.put, List.setIfInBounds_toArray, List.set_cons_succ, List.set_cons_zero]
        refine wpAnyH_take (i := 4) rfl (by kernel_rfl) (by kernel_rfl) (by kernel_rfl) (fun _ _ _ h => h) (.inl ⟨rfl, fun w' hw' => (by clear hw'; go_simp; (try rfl))⟩) KD.out ?_
        simp only [List.getElem_toArray, List.getElem_cons_zero, List.getElem_cons_succ, Act.put, List.setIfInBounds_toArray, List.set_cons_succ, List.set_cons_zero]
        refine wpAnyH_take (i := 5) rfl (by kernel_rfl) (by kernel_rfl) (by kernel_rfl) (fun _ _ _ h => h) (.inl ⟨rfl, fun w' hw' => (by clear hw'; go_simp; (try rfl))⟩) KD.out ?_
        simp only [List.getElem_toArray, List.getElem_cons_zero, List.getElem_cons_succ, Act.put, List.setIfInBounds_toArray, List.set_cons_succ, List.set_cons_zero]
        refine wpAnyH_take (i := 6) rfl (by kernel_rfl) (by kernel_rfl) (by kernel_rfl) (fun _ _ _ h => h) (.inl ⟨rfl, fun w' hw' => (by clear hw'; go_simp; (try rfl))⟩) KD.out ?_
        simp only [List.getElem_toArray, List.getElem_cons_zero, List.getElem_cons_succ, Act.put, List.setIfInBounds_toArray, List.set_cons_succ, List.set_cons_zero]
        refine wpAnyH_take (i := 7) rfl (by kernel_rfl) (by kernel_rfl) (by kernel_rfl) (fun _ _ _ h => h) (.inl ⟨rfl, fun w' hw' => (by clear hw'; go_simp; (try rfl))⟩) KD.out ?_
        simp only [List.getElem_toArray, List.getElem_cons_zero, List.getElem_cons_succ, Act.put, List.setIfInBounds_toArray, List.set_cons_succ, List.set_cons_zero]
        refine wpAnyH_take (i := 8) rfl (by kernel_rfl) (by kernel_rfl) (by kernel_rfl) (fun _ _ _ h => h) (.inl ⟨rfl, fun w' hw' => (by clear hw'; go_simp; (try rfl))⟩) KD.out ?_
        simp only [List.getElem_toArray, List.getElem_cons_zero, List.getElem_cons_succ, Act.put, List.setIfInBounds_toArray, List.set_cons_succ, List.set_cons_zero]
        refine wpAnyH_take (i := 10) rfl (by kernel_rfl) (by kernel_rfl) (by kernel_rfl) (fun _ _ _ h => h) (yieldsIf_load_mid rfl 27 _ rfl w.heap.size 0 rfl cf.cells _ (fun w' hw' => hw'.l.rg) Try.underlying27 rfl (by rw [cf_sz]; exact size_cf)) KD.out ?_
        simp only [List.getElem_toArray, List.getElem_cons_zero, List.getElem_cons_succ, Act.put, List.setIfInBounds_toArray, List.set_cons_succ, List.set_cons_zero]
        refine wpAnyH_take (i := 11) rfl (by kernel_rfl) (by kernel_rfl) (by kernel_rfl) (fun _ _ _ h => h) (yieldsIf_load_mid rfl 27 _ rfl (w.heap.size + 1) 0 rfl df.cells _ (fun w' hw' => hw'.r.rg) Try.underlying27 rfl (by rw [cf_sz]; exact size_cf)) KD.out ?_
        simp only [List.getElem_toArray, List.getElem_cons_zero, List.getElem_cons_succ, Act.put, List.setIfInBounds_toArray, List.set_cons_succ, List.set_cons_zero]
        refine wpAnyH_ready (rs := [9]) (by kernel_rfl) (by simp) (AllReadyH.cons rfl (fun K hK => ?_) AllReadyH.nil)
        rw [if_pos (by rfl)]
        refine wp_fn (f := 17) (xs := #[.slice Aa ma ca, .slice Ab mb cb]) (by first | (go_simp; done) | (go_simp; rfl)) ((CQ.out).mono ?_)
        rintro e _ ⟨rfl, rfl⟩
        refine ⟨_, rfl, hK.out _ _ KD.out (fun _ => ?_)⟩
        simp only [List.getElem_toArray, List.getElem_cons_zero, List.getElem_cons_succ, Act.put, List.setIfInBounds_toArray, List.set_cons_succ, List.set_cons_zero]
        refine wpAnyH_ready (rs := [12]) (by kernel_rfl) (by simp) (AllReadyH.cons rfl (fun K hK => ?_) AllReadyH.nil)
        rw [if_pos (by rfl)]
        refine wp_fn (f := 8) (xs := #[cfV cf, cfV df]) (by first | (go_simp; done) | (go_simp; rfl)) ((CS.out).mono ?_)
        rintro e wz ⟨rfl, hbz⟩
        have KZ := Lib.hid (KD.out.step hbz)
        clear hbz
        refine ⟨_, rfl, hK.out _ _ KZ.out (fun _ => ?_)⟩
        simp only [List.getElem_toArray, List.getElem_cons_zero, List.getElem_cons_succ, Act.put, List.setIfInBounds_toArray, List.set_cons_succ, List.set_cons_zero]
        refine wpAnyH_take (i := 13) rfl (by kernel_rfl) (by kernel_rfl) (by kernel_rfl) (fun _ _ _ h => h) (.inl ⟨rfl, fun w' hw' => (by clear hw'; go_simp; (try rfl))⟩) KZ.out ?_
        simp only [List.getElem_toArray, List.getElem_cons_zero, List.getElem_cons_succ, Act.put, List.setIfInBounds_toArray, List.set_cons_succ, List.set_cons_zero]
        refine wpAnyH_take (i := 14) rfl (by kernel_rfl) (by kernel_rfl) (by kernel_rfl) (fun _ _ _ h => h) (.inl ⟨rfl, fun w' hw' => (by clear hw'; go_simp; (try rfl))⟩) KZ.out ?_
        simp only [List.getElem_toArray, List.getElem_cons_zero, List.getElem_cons_succ, Act.put, List.setIfInBounds_toArray, List.set_cons_succ, List.set_cons_zero]
        refine wpAnyH_take (i := 15) rfl (by kernel_rfl) (by kernel_rfl) (by kernel_rfl) (fun _ _ _ h => h) (.inl ⟨rfl, fun w' hw' => (by clear hw'; go_simp; (try rfl))⟩) KZ.out ?_
        simp only [List.getElem_toArray, List.getElem_cons_zero, List.getElem_cons_succ, Act.put, List.setIfInBounds_toArray, List.set_cons_succ, List.set_cons_zero]
        refine wpAnyH_done (by kernel_rfl) ?_ _
        refine NoPanic.normal ?_
        go_wp2_with fail
        go_ret
        exact ⟨by cases q <;> rfl, KZ.out.b⟩
      · have g2 := HN2.out o2
        subst g2
        refine wp_region_noPanic ?_
        refine wp_region_held_drew (S := (Kd w cf df)) (by kernel_rfl) KD0.out (fun _ => ?_)
        rw [HWD.out]
        refine wpAnyH_take (i := 0) rfl (by kernel_rfl) (by kernel_rfl) (by kernel_rfl) (fun _ _ _ h => h) (.inl ⟨rfl, fun w' hw' => (by clear hw'; go_simp; (try rfl))⟩) KD.out ?_
        simp only [List.getElem_toArray, List.getElem_cons_zero, List.getElem_cons_succ, Act.put, List.setIfInBounds_toArray, List.set_cons_succ, List.set_cons_zero]
        refine wpAnyH_take (i := 1) rfl (by kernel_rfl) (by kernel_rfl) (by kernel_rfl) (fun _ _ _ h => h) (.inl ⟨rfl, fun w' hw' => (by clear hw'; go_simp; (try rfl))⟩) KD.out ?_
        simp only [List.getElem_toArray, List.getElem_cons_zero, List.getElem_cons_succ, Act.put, List.setIfInBounds_toArray, List.set_cons_succ, List.set_cons_zero]
        refine wpAnyH_take (i := 2) rfl (by kernel_rfl) (by kernel_rfl) (by kernel_rfl) (fun _ _ _ h => h) (.inl ⟨rfl, fun w' hw' => (by clear hw'; go_simp; (try rfl))⟩) KD.out ?_
        simp only [List.getElem_toArray, List.getElem_cons_zero, List.getElem_cons_succ, Act.put, List.setIfInBounds_toArray, List.set_cons_succ, List.set_cons_zero]
        refine wpAnyH_take (i := 3) rfl (by kernel_rfl) (by kernel_rfl) (by kernel_rfl) (fun _ _ _ h => h) (.inl ⟨rfl, fun w' hw' => (by clear hw'; go_simp; (try rfl))⟩) KD.out ?_
        simp only [List.getElem_toArray, List.getElem_cons_zero, List.getElem_cons_succ, Act.put, List.setIfInBounds_toArray, List.set_cons_succ, List.set_cons_zero]
        refine wpAnyH_take (i := 4) rfl (by kernel_rfl) (by kernel_rfl) (by kernel_rfl) (fun _ _ _ h => h) (.inl ⟨rfl, fun w' hw' => (by clear hw'; go_simp; (try rfl))⟩) KD.out ?_
        simp only [List.getElem_toArray, List.getElem_cons_zero, List.getElem_cons_succ, Act.put, List.setIfInBounds_toArray, List.set_cons_succ, List.set_cons_zero]
        refine wpAnyH_take (i := 5) rfl (by kernel_rfl) (by kernel_rfl) (by kernel_rfl) (fun _ _ _ h => h) (.inl ⟨rfl, fun w' hw' => (by clear hw'; go_simp; (try rfl))⟩) KD.out ?_
        simp only [List.getElem_toArray, List.getElem_cons_zero, List.getElem_cons_succ, Act.put, List.setIfInBounds_toArray, List.set_cons_succ, List.set_cons_zero]
        refine wpAnyH_take (i := 6) rfl (by kernel_rfl) (by kernel_rfl) (by kernel_rfl) (fun _ _ _ h => h) (.inl ⟨rfl, fun w' hw' => (by clear hw'; go_simp; (try rfl))⟩) KD.out ?_
        simp only [List.getElem_toArray, List.getElem_cons_zero, List.getElem_cons_succ, Act.put, List.setIfInBounds_toArray, List.set_cons_succ, List.set_cons_zero]
        refine wpAnyH_take (i := 7) rfl (by kernel_rfl) (by kernel_rfl) (by kernel_rfl) (fun _ _ _ h => h) (.inr ⟨by rfl, rfl⟩) KD.out ?_
        simp only [List.getElem_toArray, List.getElem_cons_zero, List.getElem_cons_succ, Act.put, List.setIfInBounds_toArray, List.set_cons_succ, List.set_cons_zero]
        refine wpAnyH_take (i := 8) rfl (by kernel_rfl) (by kernel_rfl) (by kernel_rfl) (fun _ _ _ h => h) (.inr ⟨by rfl, rfl⟩) KD.out ?_
        simp only [List.getElem_toArray, List.getElem_cons_zero, List.getElem_cons_succ, Act.put, List.setIfInBounds_toArray, List.set_cons_succ, List.set_cons_zero]
        refine wpAnyH_take (i := 10) rfl (by kernel_rfl) (by kernel_rfl) (by kernel_rfl) (fun _ _ _ h => h) (.inr ⟨by rfl, rfl⟩) KD.out ?_
        simp only [List.getElem_toArray, List.getElem_cons_zero, List.getElem_cons_succ, Act.put, List.setIfInBounds_toArray, List.set_cons_succ, List.set_cons_zero]
        refine wpAnyH_take (i := 11) rfl (by kernel_rfl) (by kernel_rfl) (by kernel_rfl) (fun _ _ _ h => h) (.inr ⟨by rfl, rfl⟩) KD.out ?_
        simp only [List.getElem_toArray, List.getElem_cons_zero, List.getElem_cons_succ, Act.put, List.setIfInBounds_toArray, List.set_cons_succ, List.set_cons_zero]
        refine wpAnyH_ready (rs := [9]) (by kernel_rfl) (by simp) (AllReadyH.cons rfl (fun K hK => ?_) AllReadyH.nil)
        go_simp
        refine hK.out _ _ KD.out (fun _ => ?_)
        refine wpAnyH_ready (rs := [12]) (by kernel_rfl) (by simp) (AllReadyH.cons rfl (fun K hK => ?_) AllReadyH.nil)
        go_simp
        refine hK.out _ _ KD.out (fun _ => ?_)
        refine wpAnyH_take (i := 13) rfl (by kernel_rfl) (by kernel_rfl) (by kernel_rfl) (fun _ _ _ h => h) (.inr ⟨by rfl, rfl⟩) KD.out ?_
        simp only [List.getElem_toArray, List.getElem_cons_zero, List.getElem_cons_succ, Act.put, List.setIfInBounds_toArray, List.set_cons_succ, List.set_cons_zero]
        refine wpAnyH_take (i := 14) rfl (by kernel_rfl) (by kernel_rfl) (by kernel_rfl) (fun _ _ _ h => h) (.inl ⟨rfl, fun w' hw' => (by clear hw'; go_simp; (try rfl))⟩) KD.out ?_
        simp only [List.getElem_toArray, List.getElem_cons_zero, List.getElem_cons_succ, Act.put, List.setIfInBounds_toArray, List.set_cons_succ, List.set_cons_zero]
        refine wpAnyH_take (i := 15) rfl (by kernel_rfl) (by kernel_rfl) (by kernel_rfl) (fun _ _ _ h => h) (.inl ⟨rfl, fun w' hw' => (by clear hw'; go_simp; (try rfl))⟩) KD.out ?_
        simp only [List.getElem_toArray, List.getElem_cons_zero, List.getElem_cons_succ, Act.put, List.setIfInBounds_toArray, List.set_cons_succ, List.set_cons_zero]
        refine wpAnyH_done (by kernel_rfl) ?_ _
        refine NoPanic.normal ?_
        go_wp2_with fail
        go_ret
        exact ⟨rfl, KD.out.b⟩
    · have g1 := HN1.out o1
      subst g1
      refine wp_region_noPanic ?_
      refine wp_region_held_drew (S := (Kd w cf df)) (by kernel_rfl) KD0.out (fun _ => ?_)
      rw [HWD.out]
      refine wpAnyH_take (i := 0) rfl (by kernel_rfl) (by kernel_rfl) (by kernel_rfl) (fun _ _ _ h => h) (.inl ⟨rfl, fun w' hw' => (by clear hw'; go_simp; (try rfl))⟩) KD.out ?_
      simp only [List.getElem_toArray, List.getElem_cons_zero, List.getElem_cons_succ, Act.put, List.setIfInBounds_toArray, List.set_cons_succ, List.set_cons_zero]
      refine wpAnyH_take (i := 1) rfl (by kernel_rfl) (by kernel_rfl) (by kernel_rfl) (fun _ _ _ h => h) (.inl ⟨rfl, fun w' hw' => (by clear hw'; go_simp; (try rfl))⟩) KD.out ?_
      simp only [List.getElem_toArray, List.getElem_cons_zero, List.getElem_cons_succ, Act.put, List.setIfInBounds_toArray, List.set_cons_succ, List.set_cons_zero]
      refine wpAnyH_take (i := 2) rfl (by kernel_rfl) (by kernel_rfl) (by kernel_rfl) (fun _ _ _ h => h) (.inl ⟨rfl, fun w' hw' => (by clear hw'; go_simp; (try rfl))⟩) KD.out ?_
      simp only [List.getElem_toArray, List.getElem_cons_zero, List.getElem_cons_succ, Act.put, List.setIfInBounds_toArray, List.set_cons_succ, List.set_cons_zero]
      refine wpAnyH_take (i := 3) rfl (by kernel_rfl) (by kernel_rfl) (by kernel_rfl) (fun _ _ _ h => h) (.inr ⟨by rfl, rfl⟩) KD.out ?_
      simp only [List.getElem_toArray, List.getElem_cons_zero, List.getElem_cons_succ, Act.put, List.setIfInBounds_toArray, List.set_cons_succ, List.set_cons_zero]
      refine wpAnyH_take (i := 4) rfl (by kernel_rfl) (by kernel_rfl) (by kernel_rfl) (fun _ _ _ h => h) (.inr ⟨by rfl, rfl⟩) KD.out ?_
      simp only [List.getElem_toArray, List.getElem_cons_zero, List.getElem_cons_succ, Act.put, List.setIfInBounds_toArray, List.set_cons_succ, List.set_cons_zero]
      refine wpAnyH_take (i := 5) rfl (by kernel_rfl) (by kernel_rfl) (by kernel_rfl) (fun _ _ _ h => h) (.inl ⟨rfl, fun w' hw' => (by clear hw'; go_simp; (try rfl))⟩) KD.out ?_
      simp only [List.getElem_toArray, List.getElem_cons_zero, List.getElem_cons_succ, Act.put, List.setIfInBounds_toArray, List.set_cons_succ, List.set_cons_zero]
      refine wpAnyH_take (i := 6) rfl (by kernel_rfl) (by kernel_rfl) (by kernel_rfl) (fun _ _ _ h => h) (.inl ⟨rfl, fun w' hw' => (by clear hw'; go_simp; (try rfl))⟩) KD.out ?_
      simp only [List.getElem_toArray, List.getElem_cons_zero, List.getElem_cons_succ, Act.put, List.setIfInBounds_toArray, List.set_cons_succ, List.set_cons_zero]
      refine wpAnyH_take (i := 7) rfl (by kernel_rfl) (by kernel_rfl) (by kernel_rfl) (fun _ _ _ h => h) (.inr ⟨by rfl, rfl⟩) KD.out ?_
      simp only [List.getElem_toArray, List.getElem_cons_zero, List.getElem_cons_succ, Act.put, List.setIfInBounds_toArray, List.set_cons_succ, List.set_cons_zero]
      refine wpAnyH_take (i := 8) rfl (by kernel_rfl) (by kernel_rfl) (by kernel_rfl) (fun _ _ _ h => h) (.inr ⟨by rfl, rfl⟩) KD.out ?_
      simp only [List.getElem_toArray, List.getElem_cons_zero, List.getElem_cons_succ, Act.put, List.setIfInBounds_toArray, List.set_cons_succ, List.set_cons_zero]
      refine wpAnyH_take (i := 10) rfl (by kernel_rfl) (by kernel_rfl) (by kernel_rfl) (fun _ _ _ h => h) (.inr ⟨by rfl, rfl⟩) KD.out ?_
      simp only [List.getElem_toArray, List.getElem_cons_zero, List.getElem_cons_succ, Act.put, List.setIfInBounds_toArray, List.set_cons_succ, List.set_cons_zero]
      refine wpAnyH_take (i := 11) rfl (by kernel_rfl) (by kernel_rfl) (by kernel_rfl) (fun _ _ _ h => h) (.inr ⟨by rfl, rfl⟩) KD.out ?_
      simp only [List.getElem_toArray, List.getElem_cons_zero, List.getElem_cons_succ, Act.put, List.setIfInBounds_toArray, List.set_cons_succ, List.set_cons_zero]
      refine wpAnyH_ready (rs := [9]) (by kernel_rfl) (by simp) (AllReadyH.cons rfl (fun K hK => ?_) AllReadyH.nil)
      go_simp
      refine hK.out _ _ KD.out (fun _ => ?_)
      refine wpAnyH_ready (rs := [12]) (by kernel_rfl) (by simp) (AllReadyH.cons rfl (fun K hK => ?_) AllReadyH.nil)
      go_simp
      refine hK.out _ _ KD.out (fun _ => ?_)
      refine wpAnyH_take (i := 13) rfl (by kernel_rfl) (by kernel_rfl) (by kernel_rfl) (fun _ _ _ h => h) (.inr ⟨by rfl, rfl⟩) KD.out ?_
      simp only [List.getElem_toArray, List.getElem_cons_zero, List.getElem_cons_succ, Act.put, List.setIfInBounds_toArray, List.set_cons_succ, List.set_cons_zero]
      refine wpAnyH_take (i := 14) rfl (by kernel_rfl) (by kernel_rfl) (by kernel_rfl) (fun _ _ _ h => h) (.inl ⟨rfl, fun w' hw' => (by clear hw'; go_simp; (try rfl))⟩) KD.out ?_
      simp only [List.getElem_toArray, List.getElem_cons_zero, List.getElem_cons_succ, Act.put, List.setIfInBounds_toArray, List.set_cons_succ, List.set_cons_zero]
      refine wpAnyH_take (i := 15) rfl (by kernel_rfl) (by kernel_rfl) (by kernel_rfl) (fun _ _ _ h => h) (.inl ⟨rfl, fun w' hw' => (by clear hw'; go_simp; (try rfl))⟩) KD.out ?_
      simp only [List.getElem_toArray, List.getElem_cons_zero, List.getElem_cons_succ, Act.put, List.setIfInBounds_toArray, List.set_cons_succ, List.set_cons_zero]
      refine wpAnyH_done (by kernel_rfl) ?_ _
      refine NoPanic.normal ?_
      go_wp2_with fail
      go_ret
      exact ⟨rfl, KD.out.b⟩

theorem own : ownKnob Try.prog.godebug = none := by kernel_rfl
theorem laidOut : laidOutB Try.prog = true := by kernel_rfl

set_option maxRecDepth 100000 in
theorem lifted (os : Os) (started : os.Started) (H : Type) (enc : TypeId × Value → H) :
    ReturnsInHanded {} Try.checked os 6 .any (Rows.entryOneSpec.pre6 enc Try.prog Try.f6 Rows.entryOneRow.domain false) (Rows.entryOneSpec.post enc Try.prog Try.f6 false true false false) := by
  refine returnsInHanded_of_change (C := Try.checked) own started (by kernel_rfl) Try.func6
    (ChangeSpec.witness6 (enc := enc) (C := Try.checked) false ⟨#[], #[.slice none 0 0, .agg (#[.int .i64 0, .int .i64 0, .int .u32 0, .string ByteArray.empty] ++ Array.replicate 64 (.int .u8 0) ++ #[.slice none 0 0]), .agg (#[.int .i64 0, .int .i64 0, .int .u32 0, .string ByteArray.empty] ++ Array.replicate 64 (.int .u8 0) ++ #[.slice none 0 0])], []⟩ 8 (by kernel_rfl) (by kernel_rfl) (by kernel_rfl) (by kernel_rfl)) ?_
  intro W base args ds gs before hval0 hW hcnd _
  have hval : ∀ (j : Nat) t v, Try.f6.params[j]? = some t → args[j]? = some v → Value.okWide Try.prog W .any base t v := hval0
  have hW' := hW
  obtain ⟨p, q, hA0, hV, rfl, hfz, hnd⟩ := hW
  have hA : DataW.TrodAll enc Try.prog W 0 (fun _ => true) true Try.f6.params.toList args.toList ds p := hA0
  rw [Try.params6] at hA hval
  obtain ⟨v0, vs0, d0, ds0, p0, q0, hargs, rfl, rfl, h0, r0⟩ := trodAll_cons hA
  obtain ⟨v1, vs1, d1, ds1, p1, q1, rfl, rfl, rfl, h1, r1⟩ := trodAll_cons r0
  obtain ⟨v2, vs2, d2, ds2, p2, q2, rfl, rfl, rfl, h2, r2⟩ := trodAll_cons r1
  obtain ⟨rfl, rfl, rfl⟩ := trodAll_nil r2
  obtain rfl : args = #[v0, v1, v2] := by cases args; simp_all
  obtain ⟨rfl, rfl⟩ := trodVars_none hV
  have k0 := h0
  have lt0 : ∀ x ∈ p0, x.block < W.heap.size := by obtain ⟨m, hm⟩ := k0; exact DataW.trod_lt m _ _ _ hm
  obtain ⟨a0, len0, cap0, rfl⟩ := okWide_slice Try.underlying25 (hval 0 25 v0 rfl rfl)
  obtain ⟨l0, s0⟩ : ∃ l, SlB W W.heap.size a0 len0 cap0 l := by
    obtain ⟨fuel, hf⟩ := h0
    rcases open_ints Try.underlying25 Try.underlying5 (by kernel_rfl) hf with ⟨hcs, _⟩ | ⟨x, l, c, zs, hcs, _, hl, hm, hz, _, hcell, hwz⟩
    · simp [Value.cells] at hcs
      obtain ⟨rfl, rfl, rfl⟩ := hcs
      exact ⟨[], SlB.nil_⟩
    · simp [Value.cells] at hcs
      obtain ⟨rfl, rfl, rfl⟩ := hcs
      exact sl_arg hl hm (by simpa using hz) hcell hwz
  have k1 := h1
  have lt1 : ∀ x ∈ p1, x.block < W.heap.size := by obtain ⟨m, hm⟩ := k1; exact DataW.trod_lt m _ _ _ hm
  obtain ⟨x1, D1, rfl, s1⟩ := cmd_arg (hval 1 27 v1 rfl rfl) h1
  have k2 := h2
  have lt2 : ∀ x ∈ p2, x.block < W.heap.size := by obtain ⟨m, hm⟩ := k2; exact DataW.trod_lt m _ _ _ hm
  obtain ⟨x2, D2, rfl, s2⟩ := cmd_arg (hval 2 27 v2 rfl rfl) h2
  clear hA0 hval0
  refine (walk s0 s1 s2).mono fun e W' ⟨he, bel⟩ => ?_
  subst he
  exact ⟨_, rfl, _, _, _, [], _, [], hW', trodAll_mk1 (shut_bool Try.underlying4 _), (trodAll_cons_mk (Below.trod laidOut (by kernel_rfl) (of_decide_eq_true (by kernel_rfl)) k0 bel lt0) (trodAll_cons_mk (Below.trod laidOut (by kernel_rfl) (of_decide_eq_true (by kernel_rfl)) k1 bel lt1) (trodAll_cons_mk (Below.trod laidOut (by kernel_rfl) (of_decide_eq_true (by kernel_rfl)) k2 bel lt2) trodAll_mk0))), rfl, bel.frame _, fun h => by cases h⟩

theorem over : Rows.entryOneRow.holds Try.pinned (OpenSpec.ofChange Rows.entryOneSpec) :=
  OpenClaim.holds_of_wide 6 Try.f6 rfl rfl rfl rfl rfl rfl rfl ⟨rfl, rfl, rfl, rfl, rfl⟩ rfl rfl rfl rfl rfl (by kernel_rfl) Try.func6 (by kernel_rfl)
    (of_decide_eq_true (by kernel_rfl)) (by unfold Func.isWrapper; first | (rw [if_pos (by decide +kernel)]; kernel_rfl) | (rw [if_neg (by decide +kernel)]; exact ⟨rfl, rfl⟩))
    (fun os started H enc _ => lifted os started H enc)

theorem proved : Rows.EntryOneSaid := over
#print axioms proved
end Go.Proofs.Ythionkcnmkhopaa.entryOne
