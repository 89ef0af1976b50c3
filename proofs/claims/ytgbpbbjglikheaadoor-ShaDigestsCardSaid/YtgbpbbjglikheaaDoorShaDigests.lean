/-
  PROVED HERE: the law ShaDigests of layer 3 (sha): the digest of the bytes of any slice (its first 700), and these bytes filled up, are what the document says; what is handed back is memory of its own. Conditions: the package variable sha.constants holds what the program's text lays (the card ties it).
-/
import Derived.Test.YtgbpbbjglikheaaDoorSumR
import Derived.Test.YtgbpbbjglikheaaDoorFrame
import Derived.Test.YtgbpbbjglikheaaDoorCards
import Derived.Test.YtgbpbbjglikheaaDoorTie
import Derived.SevenTiedAt
namespace Go.Proofs.YtgbpbbjglikheaaDoor.shaDigests
open Go.ChangeShapes Go.WideShapes Go.ChangeAt Go.RowKit
set_option linter.unusedVariables false
set_option linter.unusedSimpArgs false

theorem xor3 (x : UInt8) : bits .xor .u8 (x.toNat : Int) 3 = ((x ^^^ 3).toNat : Int) := by
  have : ∀ n : Fin 256, bits .xor .u8 (n.val : Int) 3 = ((UInt8.ofNat n.val ^^^ 3).toNat : Int) := by decide +kernel
  have h := this ⟨x.toNat, x.toNat_lt⟩
  simpa using h
set_option maxRecDepth 100000 in
set_option maxHeartbeats 1600000 in
theorem slices_same {A A' : Option Addr} {n c c' : Nat} {l : List UInt8} {w : World} {B B' : Nat} (h : SlB w B A n c l) (h' : SlB w B' A' n c' l) (hn : n ≤ 1000) :
    Calls Tryd.prog 15 #[.slice A n c, .slice A' n c'] w fun e w' => e = .returned (.bool true) ∧ ∃ m, w' = w.drewN m := by
  have HL := Lib.hid h.len
  by_cases h0 : n = 0
  · subst h0
    go_enter Tryd.func15, Tryd.ntmps15
    go_wp2_with fail
    go_loopw [13] (fun i wr => i = .int .i64 0 ∧ wr = w) (fun _ _ => 0)
    case atStart => exact ⟨rfl, rfl⟩
    case round =>
      obtain ⟨rfl, rfl⟩ := hrel
      go_wp2_with fail
      go_ret
      exact ⟨rfl, 0, rfl⟩
  · obtain ⟨b, o, rfl, hb, hc⟩ := h.pos (by omega)
    obtain ⟨b', o', rfl, hb', hc'⟩ := h'.pos (by omega)
    have HC := Lib.hid hc
    have HC' := Lib.hid hc'
    clear h h' hc hc' hb hb' h0
    go_enter Tryd.func15, Tryd.ntmps15
    go_wp2_with fail
    go_loopw [13] (fun i wr => ∃ j : Nat, j ≤ n ∧ i = .int .i64 (j : Int) ∧ Hid (∃ m, wr = w.drewN m)) (fun i _ => n - (intOf i).toNat)
    case atStart => exact ⟨0, Nat.zero_le _, rfl, Lib.hid ⟨0, rfl⟩⟩
    case round =>
      obtain ⟨j, hj, rfl, HD⟩ := hrel
      by_cases hlt : j < n
      · have hd : decide ((j : Int) < (n : Int)) = true := by simp; omega
        have hdn : decide (j < n) = true := by simp; omega
        have hj0 : (0 : Int) ≤ (j : Int) := Int.natCast_nonneg _
        have hj1 : (j : Int) < (n : Int) := by omega
        have hjl : j < l.length := by rw [HL.out]; exact hlt
        obtain ⟨y, hy⟩ : ∃ y, l[j] = y := ⟨_, rfl⟩
        have c1 : wr.cell? ⟨b, o + j, none⟩ = some (.int .u8 (y.toNat : Int)) := by
          obtain ⟨m, hm⟩ := HD.out
          rw [hm, ← hy]
          exact HC.out j hjl
        have c2 : wr.cell? ⟨b', o' + j, none⟩ = some (.int .u8 (y.toNat : Int)) := by
          obtain ⟨m, hm⟩ := HD.out
          rw [hm, ← hy]
          exact HC'.out j hjl
        clear hy
        go_wp2_with fail
        go_quiet (fail)
        go_wp2_with fail
        go_roundw
        case rel => exact ⟨j + 1, by omega, by go_num, Lib.hid (by obtain ⟨m, hm⟩ := HD.out; exact ⟨m + nq, by rw [hm, World.drewN_drewN]⟩)⟩
        case measure => simp [intOf]; omega
      · obtain rfl : j = n := by omega
        go_wp2_with fail
        go_ret
        exact ⟨rfl, HD.out⟩

set_option maxRecDepth 100000 in
set_option maxHeartbeats 3200000 in
theorem walk {A : Option Addr} {n c : Nat} {l : List UInt8} {w : World} (hs : SlB w w.heap.size A n c l) (hg : GK w) :
    Calls Tryd.prog 3 #[.slice A n c] w fun e w' => e = .returned (.bool true) ∧ Below w.heap.size w w' := by
  have HS := Lib.hid hs
  have HG := Lib.hid hg
  obtain ⟨m, hm⟩ : ∃ m, min n 700 = m := ⟨_, rfl⟩
  have hbl : (l.take 700).length = m := by rw [List.length_take, hs.len, Nat.min_comm]; exact hm
  obtain ⟨bl, hbe⟩ : ∃ bl, l.take 700 = bl := ⟨_, rfl⟩
  rw [hbe] at hbl
  have HBL := Lib.hid hbl
  have HBE := Lib.hid hbe
  have HM := Lib.hid hm
  have hm7 : m ≤ 700 := by omega
  clear hs hg hbl hbe hm
  go_enter Tryd.func3, Tryd.ntmps3
  go_wp2_with fail
  refine (wakes_any HG.out).mono ?_
  rintro e w1 ⟨rfl, hb1⟩
  have B1 := Lib.hid hb1
  clear hb1
  go_wp2_with fail
  refine (own_any (HS.out.below B1.out) B1.out.size).mono ?_
  rintro e w2 ⟨A2, c2, rfl, ho2, hb2⟩
  rw [HM.out, HBE.out] at ho2
  rw [HM.out]
  have B2 := Lib.hid (B1.out.trans (hb2.mono B1.out.size))
  have O2 := Lib.hid (ho2.sl (Nat.le_refl _))
  clear ho2 hb2
  go_wp2_with fail
  refine (pad_any O2.out (Nat.le_refl _) (by omega)).mono ?_
  rintro e w3 ⟨g, M, rfl, hM, hgb, hbl3, hb3⟩
  have hbd := fillN_bd m
  have HFM := Lib.hid hM
  have hM2 : M ≤ 800 := by omega
  have HPL := Lib.hid (show (padW bl).length = M by rw [padW_len, HBL.out, hM])
  have P3 : Hid (Lies w3 g M (bvs (padW bl))) := Lib.hid (by
    have := hbl3.lies
    rwa [bvs_len, HPL.out] at this)
  have B3 := Lib.hid (B2.out.trans (hb3.mono B2.out.size))
  have O3 := Lib.hid (O2.out.below hb3)
  have Z23 := Lib.hid hb3.size
  have GB := Lib.hid hgb
  have HSL := Lib.hid (sumW_len bl)
  have hne := run_neq_32 (sumW bl) (sumW bl) HSL.out HSL.out
  simp only [beq_self_eq_true, Bool.not_true] at hne
  clear hbl3 hb3 hbd hM hgb
  go_wp2_with fail
  refine (sum_any O3.out Z23.out (by omega) (HG.out.below B3.out)).mono ?_
  rintro e w4 ⟨rfl, hb4⟩
  have B4 := Lib.hid (B3.out.trans (hb4.mono B3.out.size))
  have O4 := Lib.hid (O3.out.below (hb4.mono Z23.out))
  have P4 := Lib.hid (P3.out.below hb4 P3.out.lt)
  have Z24 := Lib.hid (Nat.le_trans Z23.out hb4.size)
  clear hb4
  go_wp2_with fail
  refine (sum_ref O4.out Z24.out hm7).mono ?_
  rintro e w5 ⟨rfl, hb5⟩
  have B5 := Lib.hid (B4.out.trans (hb5.mono B4.out.size))
  have O5 := Lib.hid (O4.out.below (hb5.mono Z24.out))
  have P5 := Lib.hid (P4.out.below hb5 P4.out.lt)
  have Z25 := Lib.hid (Nat.le_trans Z24.out hb5.size)
  clear hb5
  generalize sumW bl = sm at hne ⊢
  go_wp2_with fail
  refine (own_any (HS.out.below B5.out) B5.out.size).mono ?_
  rintro e w6 ⟨A6, c6, rfl, ho6, hb6⟩
  rw [HM.out, HBE.out] at ho6
  rw [HM.out]
  have B6 := Lib.hid (B5.out.trans (hb6.mono B5.out.size))
  have O6 := Lib.hid (O5.out.below (hb6.mono Z25.out))
  have P6 := Lib.hid (P5.out.below hb6 P5.out.lt)
  have Z26 := Lib.hid (Nat.le_trans Z25.out hb6.size)
  have X6 := Lib.hid (ho6.sl (Nat.le_refl _))
  clear ho6 hb6
  go_wp2_with fail
  refine (pad_ref X6.out (Nat.le_refl _) hm7).mono ?_
  rintro e w7 ⟨A7, c7, rfl, ho7, hb7⟩
  rw [← HFM.out] at ho7 ⊢
  have B7 := Lib.hid (B6.out.trans (hb7.mono B6.out.size))
  have O7 := Lib.hid (O6.out.below (hb7.mono Z26.out))
  have P7 := Lib.hid (P6.out.below hb7 P6.out.lt)
  have Z27 := Lib.hid (Nat.le_trans Z26.out hb7.size)
  have X7 := Lib.hid (ho7.sl (Nat.le_refl _))
  clear ho7 hb7
  go_wp2_with fail
  refine (slices_same (P7.out.slb HPL.out (by omega)) X7.out (by omega)).mono ?_
  rintro e w8 ⟨rfl, kk, rfl⟩
  have P8 := Lib.hid (P7.out.drewN kk)
  have O8 := Lib.hid (O7.out.drewN kk)
  have B8 := Lib.hid (below_drewN B7.out kk)
  have Z28 := Lib.hid (show w2.heap.size ≤ (w7.drewN kk).heap.size from Z27.out)
  generalize w7.drewN kk = w8 at P8 O8 B8 Z28 ⊢
  go_wp2_with fail
  go_loopw [27] (fun i wr => ∃ j : Nat, j ≤ M ∧ i = .int .i64 (j : Int) ∧ Hid (∃ L : List UInt8, L.length = M ∧ Lies wr g M (bvs L)) ∧ Hid (Below w2.heap.size w8 wr) ∧ Hid (Below w.heap.size w wr)) (fun i _ => M - (intOf i).toNat)
  case atStart => exact ⟨0, Nat.zero_le _, rfl, Lib.hid ⟨padW bl, HPL.out, P8.out⟩, Lib.hid ⟨rfl, rfl, rfl, Nat.le_refl _, fun _ _ => rfl⟩, B8⟩
  case round =>
    obtain ⟨j, hj, rfl, hL, hb2, hb⟩ := hrel
    by_cases hlt : j < M
    · have hd : decide ((j : Int) < (M : Int)) = true := by simp; omega
      have hdn : decide (j < M) = true := by simp; omega
      have hj0 : (0 : Int) ≤ (j : Int) := Int.natCast_nonneg _
      have hj1 : (j : Int) < (M : Int) := by omega
      obtain ⟨L, hLl, hLi⟩ := hL.out
      obtain ⟨x, hx⟩ : ∃ x, L[j]'(by omega) = x := ⟨_, rfl⟩
      have hcx : wr.cell? ⟨g, j, none⟩ = some (.int .u8 (x.toNat : Int)) := by
        refine hLi.cell ?_
        simp [bvs, bv, List.getElem?_eq_getElem (show j < L.length by omega), hx]
      have hfz : wr.frozen? ⟨g, j, none⟩ = false := hLi.frozen hlt
      have hx3 := xor3 x
      obtain ⟨y, hy⟩ : ∃ y, x ^^^ 3 = y := ⟨_, rfl⟩
      rw [hy] at hx3
      have HN : Hid (∃ L : List UInt8, L.length = M ∧ Lies (wr.setCell ⟨g, j, none⟩ (bv y)) g M (bvs L)) := Lib.hid ⟨L.set j y, by simp [hLl], by
        have := hLi.set1 j (bv y)
        simpa [bvs, List.map_set] using this⟩
      have B2N : Hid (Below w2.heap.size w8 (wr.setCell ⟨g, j, none⟩ (bv y))) := Lib.hid (hb2.out.setCell GB.out _)
      have BN : Hid (Below w.heap.size w (wr.setCell ⟨g, j, none⟩ (bv y))) := Lib.hid (hb.out.setCell (Nat.le_trans B2.out.size GB.out) _)
      clear hL hLi hLl hx hy
      go_wp2_with fail
      go_roundw
      case rel => exact ⟨j + 1, by omega, by go_num, HN, B2N, BN⟩
      case measure => simp [intOf]; omega
    · have hd : decide ((j : Int) < (M : Int)) = false := by simp; omega
      have hdn : decide (j < M) = false := by simp; omega
      have O9 := Lib.hid (O8.out.below hb2.out)
      have B9 := hb
      have Z9 := Lib.hid (Nat.le_trans Z28.out hb2.out.size)
      clear hL hb2 hb
      go_wp2_with fail
      refine (own_any (HS.out.below B9.out) B9.out.size).mono ?_
      rintro e wa ⟨Aa, ca, rfl, hoa, hba⟩
      rw [HM.out, HBE.out] at hoa
      rw [HM.out]
      have Ba := Lib.hid (B9.out.trans (hba.mono B9.out.size))
      have Oa := Lib.hid (O9.out.below (hba.mono Z9.out))
      have Xa := Lib.hid (hoa.sl (Nat.le_refl _))
      clear hoa hba
      go_wp2_with fail
      refine (slices_same Oa.out Xa.out (by omega)).mono ?_
      rintro e wb ⟨rfl, k2, rfl⟩
      go_wp2_with fail
      go_ret
      exact ⟨rfl, below_drewN Ba.out k2⟩

set_option maxRecDepth 100000 in
theorem lifted (os : Os) (started : os.Started) (H : Type) (enc : TypeId × Value → H) :
    ReturnsInHanded {} Tryd.checked os 3 .any (fun w args => (Rows.shaDigestsSpec.pre enc Tryd.prog Tryd.f3 [] false w args ∧ laidMetH Tryd.prog laidL w) ∧ sizedMet enc Tryd.prog Tryd.f3 (OpenSpec.ofChange Rows.shaDigestsSpec) false w args)
      (Rows.shaDigestsSpec.post enc Tryd.prog Tryd.f3 false true false false) := by
  refine returnsInHanded_of_change_and (C := Tryd.checked) (X := fun w _ => laidMetH Tryd.prog laidL w) (fun _ _ _ hh h => h.of_heap hh) own started (by kernel_rfl) Tryd.func3
    (ChangeSpec.witness_shaped (enc := enc) (C := Tryd.checked) (os := os) (X := fun w _ => laidMetH Tryd.prog laidL w) false (World.doorLaid Tryd.prog 14 os) #[.slice none 0 0] 8 rfl (World.shaped_of_RefB (by kernel_rfl) (by kernel_rfl)) (by kernel_rfl) (by kernel_rfl) (by kernel_rfl) (door_met os _)) ?_
  intro W base args ds gs before hval0 hW _ _ hL _
  have hval : ∀ (j : Nat) t v, Tryd.f3.params[j]? = some t → args[j]? = some v → Value.okWide Tryd.prog W .any base t v := hval0
  have hW' := hW
  obtain ⟨p, q, hA0, hV, rfl, hfz, hnd⟩ := hW
  have hA : DataW.TrodAll enc Tryd.prog W 0 (fun _ => true) true Tryd.f3.params.toList args.toList ds p := hA0
  rw [Tryd.params3] at hA hval
  obtain ⟨v0, vs0, d0, ds0, p0, q0, hargs, rfl, rfl, h0, r0⟩ := trodAll_cons hA
  obtain ⟨rfl, rfl, rfl⟩ := trodAll_nil r0
  obtain rfl : args = #[v0] := by cases args; simp_all
  obtain ⟨rfl, rfl⟩ := trodVars_none hV
  have hGK := gk_of_laid hL
  have k0 := h0
  have lt0 : ∀ x ∈ p0, x.block < W.heap.size := by obtain ⟨m, hm⟩ := k0; exact DataW.trod_lt m _ _ _ hm
  obtain ⟨a0, len0, cap0, rfl⟩ := okWide_slice Tryd.underlying22 (hval 0 22 v0 rfl rfl)
  obtain ⟨l0, s0⟩ : ∃ l, SlB W W.heap.size a0 len0 cap0 l := by
    obtain ⟨fuel, hf⟩ := h0
    rcases open_ints Tryd.underlying22 Tryd.underlying5 (by kernel_rfl) hf with ⟨hcs, _⟩ | ⟨x, l, c, zs, hcs, _, hl, hm, hz, _, hcell, hwz⟩
    · simp [Value.cells] at hcs
      obtain ⟨rfl, rfl, rfl⟩ := hcs
      exact ⟨[], SlB.nil_⟩
    · simp [Value.cells] at hcs
      obtain ⟨rfl, rfl, rfl⟩ := hcs
      exact sl_arg hl hm (by simpa using hz) hcell hwz
  clear hA0 hval0
  refine (walk s0 hGK).mono fun e W' ⟨he, bel⟩ => ?_
  subst he
  exact ⟨_, rfl, _, _, _, [], _, [], hW', trodAll_mk1 (shut_bool Tryd.underlying4 _), (trodAll_cons_mk (Below.trod laidOut (by kernel_rfl) (of_decide_eq_true (by kernel_rfl)) k0 bel lt0) trodAll_mk0), rfl, bel.frame _, fun h => by cases h⟩

theorem over : Rows.shaDigestsRow.holds Tryd.pinned (OpenSpec.ofChange Rows.shaDigestsSpec) :=
  OpenClaim.holds_of_wide 3 Tryd.f3 rfl rfl rfl rfl rfl rfl rfl ⟨rfl, rfl, rfl, rfl, rfl⟩ rfl rfl rfl rfl rfl (by kernel_rfl) Tryd.func3 (by kernel_rfl)
    (of_decide_eq_true (by kernel_rfl)) (by unfold Func.isWrapper; first | (rw [if_pos (by decide +kernel)]; kernel_rfl) | (rw [if_neg (by decide +kernel)]; exact ⟨rfl, rfl⟩))
    (fun os started H enc _ => lifted os started H enc)

theorem proved : Rows.ShaDigestsCardSaid :=
  Claim7.holds_tied_plain_at .later [] [.data] true Rows.shaDigestsCard.stood.harness false
    over (fun _ h => by cases h) (by kernel_rfl) (fun _ h => by cases h) shaDigests_row_tie rfl ⟨rfl, rfl⟩ (by kernel_rfl) rfl
    (fun f fn hf hfn => by
      obtain rfl : f = 3 := Option.some.inj ((show Tryd.prog.funcNamed "confluence/confluencelaw03.ShaDigests" = some 3 by kernel_rfl).symm.trans hf) |>.symm
      obtain rfl : fn = Tryd.f3 := (Option.some.inj (Tryd.func3.symm.trans hfn)).symm
      exact ⟨by kernel_rfl, fun j t ht => by
        have hall : (Tryd.f3.params.all fun u => !Tryd.prog.wantsStandIn u) = true := by kernel_rfl
        have := Array.all_eq_true_iff_forall_mem.1 hall t (Array.mem_of_getElem? ht)
        exact (by simpa using this : Tryd.prog.wantsStandIn t = false)⟩)
    (by kernel_rfl)
#print axioms proved
end Go.Proofs.YtgbpbbjglikheaaDoor.shaDigests
