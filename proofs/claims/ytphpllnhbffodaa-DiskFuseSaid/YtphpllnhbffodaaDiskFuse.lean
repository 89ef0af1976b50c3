/-
  PROVED HERE: whatever acts before and l, and whatever number n, confluencelaw02.DiskFuse(before, l, n) returns true: a disk with a fuse does as one without, till it is used up; then the power goes. No condition.
-/
import Derived.Test.YtphpllnhbffodaaTw
import Derived.Test.YtphpllnhbffodaaRows
import Derived.ProofKit
import Derived.OpenShut
import Derived.ChangeOld
import Derived.Carry
namespace Go.Proofs.Ytphpllnhbffodaa.diskFuse
open Go.ChangeShapes Go.WideShapes Go.ChangeAt Go.RowKit
set_option linter.unusedVariables false

set_option linter.unusedSimpArgs false
theorem fu_read {M : Mo} {fn kind i : Int} {b : UInt8} {ks : List Bool} (h : M.Bare) (hk : whichI kind = 0) :
    (M.fus fn).act kind i b ks = ((M.act kind i b ks).1.fus fn, (M.act kind i b ks).2) := fus_read fn h hk
theorem fu_miss {M : Mo} {fn kind i : Int} {b : UInt8} {ks : List Bool} (h : M.Bare) (hk : whichI kind ≤ 3) (ht : thB M.safe.length kind i = false) :
    (M.fus fn).act kind i b ks = ((M.act kind i b ks).1.fus fn, (M.act kind i b ks).2) := by rw [fus_miss fn h hk ht, bare_miss h hk ht]
theorem fu_any {M : Mo} {fn kind i : Int} {b : UInt8} {ks : List Bool} (h : M.Bare) (hk : whichI kind ≤ 3) (hn : ¬ (fn = 0 ∧ thB M.safe.length kind i = true ∧ 0 < whichI kind)) :
    (M.fus fn).act kind i b ks = ((M.act kind i b ks).1.fus (if thB M.safe.length kind i = true ∧ 0 < whichI kind then fn - 1 else fn), (M.act kind i b ks).2) := by
  cases ht : thB M.safe.length kind i
  · rw [if_neg (by simp)]
    exact fu_miss h hk ht
  · by_cases h0 : 0 < whichI kind
    · rw [if_pos ⟨rfl, h0⟩]
      exact fus_on h hk h0 ht (fun e => hn ⟨e, ht, h0⟩)
    · rw [if_neg (fun e => h0 e.2)]
      exact fu_read h (by rcases whichI_cases kind with e | e | e | e | e | e | e <;> omega)
/-- A fuse that is used up: what is told then. -/
theorem out_read (M : Mo) (i : Int) : (M.out_).read i = (M.out_, Zb, 9) := by simp [Mo.out_, Mo.read]
theorem out_sync (M : Mo) : (M.out_).sync = (M.out_, 9) := by simp [Mo.out_, Mo.sync, Mo.alter]
theorem out_arm (M : Mo) (n : Int) : (M.out_).arm n = (M.out_, 9) := by simp [Mo.out_, Mo.arm]
theorem out_fail (M : Mo) (n : Int) : (M.out_).fail n = (M.out_, 9) := by simp [Mo.out_, Mo.fail]
theorem out_crash (M : Mo) (lv : Nat → Bool) : (M.out_).crash lv = M.crash lv := rfl
theorem run_make_bools (n : Nat) (h : n ≤ 1000000000) (w : World) :
    (Instr.makeSlice 33 (.int .i64 (n : Int)) (.int .i64 (n : Int))).run Try.prog w = .ok (.slice (some ⟨w.heap.size, 0, none⟩) n n) (w.alloc (.cells (bls (List.replicate n false)).toArray 4)) := by
  obtain ⟨i0, hi, hz, hz1, hz2⟩ := info_parts info_bool
  have hr := run_make (P := Try.prog) w 33 _ i0 _ Try.underlying33 hi hz .i64 .i64 (n : Int) (n : Int) (by omega) (by omega) (by rw [hz2]; omega) (by omega)
  simp only [Int.toNat_natCast, hz1, Nat.mul_one] at hr
  rw [hr]
  congr 3
  apply Array.ext
  · simp [madeCells, bls]
  · intro i _ _
    simp [madeCells, bls, Value.cells, Nat.mod_one]
/-- While the acts are done at both disks. -/
def FaR (W : World) (ga gb k : Nat) (fn : Int) (w : World) : Prop :=
  ∃ Sa Sb Mb, Tw W w ga Sa (Mb.fus fn) gb Sb Mb ∧ Mb.Bare ∧ Mb.safe.length = 6 ∧ Mb.ops ≤ 100 + k ∧ (Mb.wt.length : Int) ≤ 100 + k ∧ 0 ≤ fn ∧ fn ≤ 30
theorem FaR.weak {W : World} {ga gb k : Nat} {fn : Int} {w : World} (h : FaR W ga gb k fn w) : FaR W ga gb (k + 1) fn w := by
  obtain ⟨Sa, Sb, Mb, h1, h2, h3, h4, h5, h6, h7⟩ := h
  exact ⟨Sa, Sb, Mb, h1, h2, h3, by omega, by omega, h6, h7⟩
theorem FaR.below {W : World} {ga gb k : Nat} {fn : Int} {w w' : World} (h : FaR W ga gb k fn w) (hb : Below w.heap.size w w') : FaR W ga gb k fn w' := by
  obtain ⟨Sa, Sb, Mb, h1, h2⟩ := h
  exact ⟨Sa, Sb, Mb, h1.below hb, h2⟩
set_option maxRecDepth 100000 in
set_option maxHeartbeats 4000000 in
theorem walk (A : Option Addr) (n c : Nat) (l : List Ac) (A' : Option Addr) (n' c' : Nat) (l' : List Ac) (x : Int) (W : World) (hs : Acts W W.heap.size A n c l) (hs' : Acts W W.heap.size A' n' c' l') :
    Calls Try.prog 5 #[.slice A n c, .slice A' n' c', .int .i64 x] W fun e w' => e = .returned (.bool true) ∧ Below W.heap.size W w' := by
  have hsm := some_any A' n' c' hs'.cap hs'.max
  obtain ⟨m, hm⟩ : ∃ m, min n' 100 = m := ⟨_, rfl⟩
  have hm100 : m ≤ 100 := by omega
  have hsk := hs'.take (k := m) (by omega)
  obtain ⟨al, has⟩ : ∃ al, l'.take m = al := ⟨_, rfl⟩
  rw [has] at hsk
  rw [hm] at hsm
  have HS := Lib.hid hsk
  have HSM := Lib.hid hsm
  have HBF := Lib.hid hs
  clear hs hs' hsm hsk has hm
  go_enter Try.func5, Try.ntmps5
  go_wp2_with fail
  refine (wakes_any _).mono ?_
  rintro e w1 ⟨rfl, hb1⟩
  have HB1 := Lib.hid hb1
  clear hb1
  go_wp2_with fail
  refine (used_any A n c l W.heap.size w1 (HBF.out.below HB1.out) HB1.out.size).mono ?_
  rintro e w2 ⟨ga, S2, M, rfl, hL2, hB, h6, hops, hwt⟩
  have HM := Lib.hid (And.intro hB (And.intro h6 (And.intro hops hwt)))
  have L2 := Lib.hid (show Live W w2 ga S2 M from ⟨hL2.1, fun b hb => Nat.le_trans HB1.out.size (hL2.2.1 b hb), HB1.out.trans (hL2.2.2.mono HB1.out.size)⟩)
  clear hL2 hB h6 hops hwt
  go_wp2_with fail
  refine (copy_dk L2.out.1 (by have := HM.out; omega)).mono ?_
  rintro e w3 ⟨gb, S3, rfl, hd3, hS3, hb3⟩
  have T3 := Lib.hid (Tw.start L2.out hd3 hS3 hb3)
  clear hd3 hS3 hb3
  go_wp2_with fail
  have hu : IntKind.u64.wrap x = x % 18446744073709551616 := rfl
  have hv2 : (x % 18446744073709551616).tmod 30 = x % 18446744073709551616 % 30 := Int.tmod_eq_emod_of_nonneg (by omega)
  have hv3 : wrap64 (x % 18446744073709551616 % 30) = x % 18446744073709551616 % 30 := by unfold wrap64; omega
  have hv0 : 0 ≤ x % 18446744073709551616 % 30 := by omega
  have hv1 : x % 18446744073709551616 % 30 < 30 := by omega
  rw [hu, hv2, hv3]
  clear hu hv2 hv3
  generalize x % 18446744073709551616 % 30 = v at hv0 hv1 ⊢
  have hfl : M.arm v = (M.fus v, 0) := by
    unfold Mo.arm Mo.fus
    rw [HM.out.1.dead, decide_eq_true hv0]
    simp
  have HFL := Lib.hid hfl
  clear hfl
  have HFC := Lib.hid (arm_dk T3.out.a.1 v (by omega))
  rw [HFL.out] at HFC
  refine (HFC.out).mono ?_
  rintro e w4 ⟨rfl, S4, hd4, hm4, hg4⟩
  have R4 : Hid (FaR W ga gb 0 v w4) := Lib.hid ⟨S4, S3, M, T3.out.stepA hd4 hm4 hg4, HM.out.1, HM.out.2.1, by have := HM.out.2.2.1; omega, by have := HM.out.2.2.2; omega, hv0, by omega⟩
  clear hd4 hm4 hg4
  go_wp2_with (first
    | (go_at_call 10; refine (HSM.out _).mono ?_; rintro e w5 ⟨rfl, rfl⟩))
  go_loopw [50, 2] (fun i nn wr => ∃ (k : Nat) (fn : Int), k ≤ m ∧ i = .int .i64 (k : Int) ∧ nn = .int .i64 fn ∧ Hid (FaR W ga gb k fn wr)) (fun i _ _ => m - (intOf i).toNat)
  case atStart => exact ⟨0, v, Nat.zero_le _, rfl, rfl, R4⟩
  case round =>
    obtain ⟨k, fn, hk, rfl, rfl, hrel⟩ := hrel
    by_cases hlt : k < m
    · have hd : decide ((k : Int) < (m : Int)) = true := by simp; omega
      have hk0 : (0 : Int) ≤ (k : Int) := Int.natCast_nonneg _
      have hk1 : (k : Int) < (m : Int) := by omega
      have hlas : al.length = m := HS.out.len
      obtain ⟨bb, oo, hA, hbb, hcells⟩ := HS.out.pos (by omega)
      have hcell := hcells k (by omega)
      obtain ⟨a, ha⟩ : ∃ a, al[k]'(by omega) = a := ⟨_, rfl⟩
      have haok := HS.out.ok a (by rw [← ha]; exact List.getElem_mem _)
      rw [ha] at hcell
      have hbw : Below W.heap.size W wr := by obtain ⟨_, _, _, h1, _⟩ := hrel.out; exact h1.a.2.2
      have hcw := rangeAt_keep hcell (hbw.block bb hbb)
      subst hA
      obtain ⟨kind, nn, b, Ak, lk, ck, ks⟩ := a
      have q0 : wr.cell? ⟨bb, oo + k * 4, none⟩ = some (.int .i64 kind) := hcw 0 _ rfl
      have q1 : wr.cell? ⟨bb, oo + k * 4 + 1, none⟩ = some (.int .i64 nn) := hcw 1 _ rfl
      have q2 : wr.cell? ⟨bb, oo + k * 4 + 2, none⟩ = some (.int .u8 (b.toNat : Int)) := hcw 2 _ rfl
      have q3 : wr.cell? ⟨bb, oo + k * 4 + 3, none⟩ = some (.slice Ak lk ck) := hcw 3 _ rfl
      have hqb : bb < wr.heap.size := Nat.lt_of_lt_of_le hbb hbw.size
      have HKS : Hid (SlV W W.heap.size Ak lk ck (bls ks)) := Lib.hid haok.ks
      have HN := Lib.hid haok.n
      have hbx : Below wr.heap.size wr (boxU wr ⟨kind, nn, b, Ak, lk, ck, ks⟩) := (Below.refl _ _).alloc (Nat.le_refl _) _
      have RX := Lib.hid (hrel.out.below hbx)
      have AX : Hid (Lies (boxU wr ⟨kind, nn, b, Ak, lk, ck, ks⟩) wr.heap.size 4 [.int .i64 kind, .int .i64 nn, .int .u8 (b.toNat : Int), .slice Ak lk ck]) := Lib.hid (Lies.new wr [.int .i64 kind, .int .i64 nn, .int .u8 (b.toNat : Int), .slice Ak lk ck] 35)
      have HBX := Lib.hid hbx
      clear hcell hcells ha haok hbw hcw hbx hlas
      go_wp2_with fail
      refine (which_any kind nn b Ak lk ck _).mono ?_
      rintro e w6 ⟨rfl, hb6⟩
      have R6 := Lib.hid (RX.out.below hb6)
      have A6 := Lib.hid (AX.out.below hb6 AX.out.lt)
      have e0 := A6.out.cell (j := 0) rfl
      have e1 := A6.out.cell (j := 1) rfl
      have e2 := A6.out.cell (j := 2) rfl
      have e3 := A6.out.cell (j := 3) rfl
      have HB6 := Lib.hid hb6
      clear hb6
      by_cases h3 : 3 < whichI kind
      · have h3' : decide (3 < whichI kind) = true := by simpa using h3
        go_wp2
        go_roundw
        case rel => exact ⟨k + 1, fn, by omega, by go_num, rfl, Lib.hid R6.out.weak⟩
        case measure => simp [intOf]; omega
      · have h3' : decide (3 < whichI kind) = false := by simpa using h3
        obtain ⟨Sa, Sb, Mb, hT, hBare, h6, ho, hw, hf1, hf2⟩ := hrel.out
        have NS := Lib.hid (show ¬ Sa wr.heap.size ∧ ¬ Sb wr.heap.size from ⟨fun h => by have := hT.a.1.lt _ h; omega, fun h => by have := hT.b.1.lt _ h; omega⟩)
        have T6 := Lib.hid ((hT.below HBX.out).below HB6.out)
        have HBA := Lib.hid hBare
        have H6 := Lib.hid h6
        have HOW := Lib.hid (And.intro ho hw)
        have HK3 := Lib.hid (show whichI kind ≤ 3 by omega)
        clear hT hBare h6 ho hw
        go_upto_region 14 with fail
        go_cut [12] (fun th wx => ∃ tb : Bool, th = .bool tb ∧ Hid (tb = thB Mb.safe.length kind nn) ∧ Hid (Below w6.heap.size w6 wx))
        case first =>
          go_wp2_with fail
          refine (which_any kind nn b Ak lk ck _).mono ?_
          rintro e w7 ⟨rfl, hb7⟩
          have HB7 := Lib.hid hb7
          have A7 := Lib.hid (A6.out.below hb7 A6.out.lt)
          clear e0 e1 e2 e3 hb7
          have e0 := A7.out.cell (j := 0) rfl
          have e1 := A7.out.cell (j := 1) rfl
          have e2 := A7.out.cell (j := 2) rfl
          have e3 := A7.out.cell (j := 3) rfl
          obtain ⟨kd, hkd⟩ : ∃ kd, whichI kind = kd := ⟨_, rfl⟩
          have HKD := Lib.hid hkd
          rw [hkd]
          clear hkd h3 h3'
          have hcases : kd = 3 ∨ (kd ≠ 3 ∧ 0 ≤ nn ∧ nn < 6) ∨ (kd ≠ 3 ∧ 0 ≤ nn ∧ ¬ nn < 6) ∨ (kd ≠ 3 ∧ ¬ 0 ≤ nn) := by omega
          rcases hcases with h | ⟨h, g0, g1⟩ | ⟨h, g0, g1⟩ | ⟨h, g0⟩
          · subst h
            have HTH : Hid (true = thB Mb.safe.length kind nn) := Lib.hid (thB_3 HKD.out).symm
            go_wp2_with fail
            go_meet
            case rel => exact ⟨true, rfl, HTH, HB7⟩
          · have h' : (kd == 3) = false := by simpa using h
            have g0' : decide (0 ≤ nn) = true := by simpa using g0
            have g1' : decide (nn < 6) = true := by simpa using g1
            have HTH : Hid (true = thB Mb.safe.length kind nn) := Lib.hid (by rw [thB_0 (by rw [HKD.out]; exact h), H6.out]; simp [hasB]; omega)
            go_wp2_with fail
            go_meet
            case rel => exact ⟨true, rfl, HTH, HB7⟩
          · have h' : (kd == 3) = false := by simpa using h
            have g0' : decide (0 ≤ nn) = true := by simpa using g0
            have g1' : decide (nn < 6) = false := by simpa using g1
            have HTH : Hid (false = thB Mb.safe.length kind nn) := Lib.hid (by rw [thB_0 (by rw [HKD.out]; exact h), H6.out]; simp [hasB]; omega)
            go_wp2_with fail
            go_meet
            case rel => exact ⟨false, rfl, HTH, HB7⟩
          · have h' : (kd == 3) = false := by simpa using h
            have g0' : decide (0 ≤ nn) = false := by simpa using g0
            have HTH : Hid (false = thB Mb.safe.length kind nn) := Lib.hid (by rw [thB_0 (by rw [HKD.out]; exact h), H6.out]; simp [hasB]; omega)
            go_wp2_with fail
            go_meet
            case rel => exact ⟨false, rfl, HTH, HB7⟩
        case rest =>
        obtain ⟨tb, rfl, htb, hbc⟩ := hcut
        obtain ⟨w5c, rfl⟩ : ∃ w5c : World, w5c = wc := ⟨_, rfl⟩
        have T5c := Lib.hid (T6.out.below hbc.out)
        have A5c := Lib.hid (A6.out.below hbc.out A6.out.lt)
        clear e0 e1 e2 e3 hbc T6 A6 h3 h3'
        have e0 := A5c.out.cell (j := 0) rfl
        have e1 := A5c.out.cell (j := 1) rfl
        have e2 := A5c.out.cell (j := 2) rfl
        have e3 := A5c.out.cell (j := 3) rfl
        go_upto_region 15 with fail
        go_cut [79] (fun t wx => ∃ tt : Bool, t = .bool tt ∧ Hid (tt = (decide (fn = 0) && (tb && decide (0 < whichI kind)))) ∧ Hid (Below w5c.heap.size w5c wx))
        case first =>
          by_cases hfn : fn = 0
          · subst hfn
            cases tb
            · go_wp2_with fail
              go_meet
              case rel => exact ⟨false, rfl, Lib.hid rfl, Lib.hid (Below.refl _ _)⟩
            · go_wp2_with fail
              refine (which_any kind nn b Ak lk ck _).mono ?_
              rintro e w7 ⟨rfl, hb7⟩
              have HB7 := Lib.hid hb7
              clear hb7
              by_cases hp : 0 < whichI kind
              · have hp' : decide (0 < whichI kind) = true := by simpa using hp
                go_wp2_with fail
                go_meet
                case rel => exact ⟨true, rfl, Lib.hid (by rw [hp']; rfl), HB7⟩
              · have hp' : decide (0 < whichI kind) = false := by simpa using hp
                go_wp2_with fail
                go_meet
                case rel => exact ⟨false, rfl, Lib.hid (by rw [hp']; rfl), HB7⟩
          · have hfn' : (fn == 0) = false := by simpa using hfn
            go_wp2_with fail
            go_meet
            case rel => exact ⟨false, rfl, Lib.hid (by rw [decide_eq_false hfn]; rfl), Lib.hid (Below.refl _ _)⟩
        case rest =>
        obtain ⟨tt, rfl, htt, hbc⟩ := hcut
        obtain ⟨w7, rfl⟩ : ∃ w7 : World, w7 = wc := ⟨_, rfl⟩
        have T7 := Lib.hid (T5c.out.below hbc.out)
        have A7 := Lib.hid (A5c.out.below hbc.out A5c.out.lt)
        have Z7 := Lib.hid (show wr.heap.size < w7.heap.size from A7.out.lt)
        clear e0 e1 e2 e3 hbc T5c A5c
        have e0 := A7.out.cell (j := 0) rfl
        have e1 := A7.out.cell (j := 1) rfl
        have e2 := A7.out.cell (j := 2) rfl
        have e3 := A7.out.cell (j := 3) rfl
        cases tt
        · as_aux_lemma =>
            have HTT := Lib.hid (show ¬ (fn = 0 ∧ thB Mb.safe.length kind nn = true ∧ 0 < whichI kind) from fun ⟨h1, h2, h3⟩ => by have h := htt.out; rw [decide_eq_true h1, htb.out, h2, decide_eq_true h3] at h; cases h)
            obtain ⟨fm, hfm⟩ : ∃ fm, (if thB Mb.safe.length kind nn = true ∧ 0 < whichI kind then fn - 1 else fn) = fm := ⟨_, rfl⟩
            have HFM := Lib.hid hfm
            clear hfm
            have HEQ := Lib.hid (fu_any (fn := fn) (i := nn) (b := b) (ks := ks) HBA.out HK3.out HTT.out)
            have hA := happens_dk kind nn b (ks := ks) (HKS.out.below T7.out.a.2.2) T7.out.a.2.2.size T7.out.a.1 (by have h2 := HOW.out; show Mb.ops ≤ _; omega) (by have h2 := HOW.out; show Mb.wt.length ≤ _; omega) HN.out
            have hB := fun (w' : World) (S' : Nat → Prop) (M' : Mo) (t : Tw W w' ga S' M' gb Sb Mb) => happens_dk kind nn b (ks := ks) (HKS.out.below t.b.2.2) t.b.2.2.size t.b.1 (by have h2 := HOW.out; omega) (by have h2 := HOW.out; omega) HN.out
            have hbr := HBA.out.act (i := nn) (b := b) (ks := ks) HK3.out
            have hln := act_len T7.out.b.1.ok kind nn b ks
            rw [HEQ.out, HFM.out] at hA
            clear HEQ
            generalize Mb.act kind nn b ks = r at hA hB hbr hln
            obtain ⟨Mb', bq, ev⟩ := r
            simp only at hA hB hbr hln
            have HA := Lib.hid hA
            have HB := Lib.hid hB
            have HBR := Lib.hid hbr
            have HBQ := Lib.hid hln
            clear hA hB hbr hln
            go_wp2_with fail
            refine (HA.out).mono ?_
            rintro e w8 ⟨rfl, Sa8, hd8, hm8, hg8⟩
            have T8 := Lib.hid (T7.out.stepA hd8 hm8 hg8)
            have A8 := Lib.hid (A7.out.mv_ hm8 NS.out.1)
            clear hd8 hm8 hg8 e0 e1 e2 e3
            have hb9 : Below w8.heap.size w8 ((zbW w8).setCells w8.heap.size 0 (bvs bq)) := below_setCells (zbW_below w8) (Nat.le_refl _) 0 (bvs bq)
            have TH8 := Lib.hid (Z64_there w8)
            have T9 := Lib.hid (T8.out.below hb9)
            have A9 := Lib.hid (A8.out.below hb9 A8.out.lt)
            have P9 : Hid (Lies ((zbW w8).setCells w8.heap.size 0 (bvs bq)) w8.heap.size 64 (bvs bq)) := Lib.hid ((Lies.zb w8).set_ (by rw [bvs_len, HBQ.out]))
            have NP9 := Lib.hid (show ¬ Sb w8.heap.size from fun h => by have := T8.out.b.1.lt _ h; omega)
            have e0 := A9.out.cell (j := 0) rfl
            have e1 := A9.out.cell (j := 1) rfl
            have e2 := A9.out.cell (j := 2) rfl
            have e3 := A9.out.cell (j := 3) rfl
            clear hb9
            go_wp2_with (first
              | (with_reducible refine al_block rfl rfl ?_)
              | (with_reducible refine st_block rfl _ _ rfl w8.heap.size 0 bq HBQ rfl rfl TH8.out ?_))
            generalize (zbW w8).setCells w8.heap.size 0 (bvs bq) = w9 at T9 A9 P9 e0 e1 e2 e3 ⊢
            refine (HB.out w9 _ _ T9.out).mono ?_
            rintro e w10 ⟨rfl, Sb10, hd10, hm10, hg10⟩
            have T10 := Lib.hid (T9.out.stepB hd10 hm10 hg10)
            have P10 := Lib.hid (P9.out.mv_ hm10 NP9.out)
            have A10 := Lib.hid (A9.out.mv_ hm10 NS.out.2)
            clear hd10 hm10 hg10 e0 e1 e2 e3
            have hb11 : Below w10.heap.size w10 ((zbW w10).setCells w10.heap.size 0 (bvs bq)) := below_setCells (zbW_below w10) (Nat.le_refl _) 0 (bvs bq)
            have TH10 := Lib.hid (Z64_there w10)
            have T11 := Lib.hid (T10.out.below hb11)
            have P11 := Lib.hid (P10.out.below hb11 P10.out.lt)
            have A11 := Lib.hid (A10.out.below hb11 A10.out.lt)
            have Q11 : Hid (Lies ((zbW w10).setCells w10.heap.size 0 (bvs bq)) w10.heap.size 64 (bvs bq)) := Lib.hid ((Lies.zb w10).set_ (by rw [bvs_len, HBQ.out]))
            clear hb11
            have hE := fun w => blk_same HBQ.out w
            have hne : (ev != ev) = false := by simp
            have e0 := A11.out.cell (j := 0) rfl
            have e1 := A11.out.cell (j := 1) rfl
            have e2 := A11.out.cell (j := 2) rfl
            have e3 := A11.out.cell (j := 3) rfl
            cases tb
            · have hq : fm = fn := by rw [← HFM.out, if_neg (fun h => by have := htb.out; rw [h.1] at this; cases this)]
              subst hq
              go_wp2_with (first
                | (with_reducible refine al_block rfl rfl ?_)
                | (with_reducible refine st_block rfl _ _ rfl w10.heap.size 0 bq HBQ rfl rfl TH10.out ?_)
                | (with_reducible refine ld_block rfl (.tmp 24) rfl w8.heap.size 0 bq HBQ rfl P11.out.rg ?_)
                | (with_reducible refine ld_block rfl (.tmp 26) rfl w10.heap.size 0 bq HBQ rfl Q11.out.rg ?_))
              go_roundw
              case rel =>
                refine ⟨k + 1, fm, by omega, by go_num, by first | rfl | go_num, Lib.hid ⟨Sa8, Sb10, Mb', ?_, ?_, ?_, ?_, ?_, ?_, ?_⟩⟩
                · exact T11.out
                · exact HBR.out.1
                · rw [HBR.out.2.1]; exact H6.out
                · have := HBR.out; have := HOW.out; omega
                · have := HBR.out; have := HOW.out; omega
                · omega
                · omega
              case measure => simp [intOf]; omega
            · go_wp2_with (first
                | (with_reducible refine al_block rfl rfl ?_)
                | (with_reducible refine st_block rfl _ _ rfl w10.heap.size 0 bq HBQ rfl rfl TH10.out ?_)
                | (with_reducible refine ld_block rfl (.tmp 24) rfl w8.heap.size 0 bq HBQ rfl P11.out.rg ?_)
                | (with_reducible refine ld_block rfl (.tmp 26) rfl w10.heap.size 0 bq HBQ rfl Q11.out.rg ?_))
              refine (which_any kind nn b Ak lk ck _).mono ?_
              rintro e w12 ⟨rfl, hbw⟩
              have Tw12 := Lib.hid (T11.out.below hbw)
              have Aw12 := Lib.hid (A11.out.below hbw A11.out.lt)
              clear hbw e0 e1 e2 e3
              have e0 := Aw12.out.cell (j := 0) rfl
              have e1 := Aw12.out.cell (j := 1) rfl
              have e2 := Aw12.out.cell (j := 2) rfl
              have e3 := Aw12.out.cell (j := 3) rfl
              by_cases hp : 0 < whichI kind
              · have hp' : decide (0 < whichI kind) = true := by simpa using hp
                have hq : fm = fn - 1 := by rw [← HFM.out, if_pos ⟨htb.out.symm, hp⟩]
                have hz : fn ≠ 0 := fun h => HTT.out ⟨h, htb.out.symm, hp⟩
                subst hq
                go_wp2_with fail
                go_roundw
                case rel =>
                  refine ⟨k + 1, fn - 1, by omega, by go_num, by first | rfl | go_num, Lib.hid ⟨Sa8, Sb10, Mb', ?_, ?_, ?_, ?_, ?_, ?_, ?_⟩⟩
                  · exact Tw12.out
                  · exact HBR.out.1
                  · rw [HBR.out.2.1]; exact H6.out
                  · have := HBR.out; have := HOW.out; omega
                  · have := HBR.out; have := HOW.out; omega
                  · omega
                  · omega
                case measure => simp [intOf]; omega
              · have hp' : decide (0 < whichI kind) = false := by simpa using hp
                have hq : fm = fn := by rw [← HFM.out, if_neg (fun h => hp h.2)]
                subst hq
                go_wp2_with fail
                go_roundw
                case rel =>
                  refine ⟨k + 1, fm, by omega, by go_num, by first | rfl | go_num, Lib.hid ⟨Sa8, Sb10, Mb', ?_, ?_, ?_, ?_, ?_, ?_, ?_⟩⟩
                  · exact Tw12.out
                  · exact HBR.out.1
                  · rw [HBR.out.2.1]; exact H6.out
                  · have := HBR.out; have := HOW.out; omega
                  · have := HBR.out; have := HOW.out; omega
                  · omega
                  · omega
                case measure => simp [intOf]; omega
        · as_aux_lemma =>
            have h := htt.out
            have h0 : fn = 0 := by by_cases h0 : fn = 0; exact h0; rw [decide_eq_false h0] at h; cases h
            have h1 : tb = true := by cases tb; rw [Bool.false_and, Bool.and_false] at h; cases h; rfl
            have h2 : 0 < whichI kind := by by_cases h2 : 0 < whichI kind; exact h2; rw [decide_eq_false h2, Bool.and_false, Bool.and_false] at h; cases h
            subst h0 h1
            have HTH := Lib.hid htb.out.symm
            have HPK := Lib.hid h2
            clear h h2
            go_wp2_with fail
            refine (pend_dk T7.out.b.1 (by have h2 := HOW.out; omega)).mono ?_
            rintro e w8 ⟨A1, n1, c1, rfl, ho1, hn1, hb8⟩
            have T8 := Lib.hid (T7.out.below hb8)
            have A8 := Lib.hid (A7.out.below hb8 A7.out.lt)
            have S8 : Hid (SlS w8 (Both Sa Sb) A1 n1 c1 (ints (secsOf Mb))) := Lib.hid (sls_own ho1 T7.out.both)
            have HN1 := Lib.hid (show n1 ≤ 1000 by have h2 := HOW.out; omega)
            have HZ := Lib.hid Zb_len
            clear ho1 hb8 hn1 e0 e1 e2 e3
            have e0 := A8.out.cell (j := 0) rfl
            have e1 := A8.out.cell (j := 1) rfl
            have e2 := A8.out.cell (j := 2) rfl
            have e3 := A8.out.cell (j := 3) rfl
            have hA := happens_dk kind nn b (ks := ks) (HKS.out.below T8.out.a.2.2) T8.out.a.2.2.size T8.out.a.1 (by have h2 := HOW.out; show Mb.ops ≤ _; omega) (by have h2 := HOW.out; show Mb.wt.length ≤ _; omega) HN.out
            rw [fus_now (i := nn) (b := b) (ks := ks) HBA.out HK3.out HPK.out HTH.out] at hA
            have HA := Lib.hid hA
            clear hA
            go_wp2_with fail
            refine (HA.out).mono ?_
            rintro e w9 ⟨rfl, Sa9, hd9, hm9, hg9⟩
            clear e0 e1 e2 e3
            have T9 := Lib.hid (T8.out.stepA hd9 hm9 hg9)
            have S9 := Lib.hid (S8.out.stepA hm9 hg9)
            clear hd9 hm9 hg9
            have hb10 : Below w9.heap.size w9 ((zbW w9).setCells w9.heap.size 0 (bvs Zb)) := below_setCells (zbW_below w9) (Nat.le_refl _) 0 (bvs Zb)
            have TH10 := Lib.hid (Z64_there w9)
            have T10 := Lib.hid (T9.out.below hb10)
            have S10 := Lib.hid (S9.out.below hb10)
            clear hb10
            go_wp2_with (first
              | (with_reducible refine al_block rfl rfl ?_)
              | (with_reducible refine st_block rfl _ _ rfl w9.heap.size 0 Zb HZ rfl rfl TH10.out ?_))
            generalize (zbW w9).setCells w9.heap.size 0 (bvs Zb) = w10 at T10 S10 ⊢
            have hR := read_dk T10.out.a.1 0 (by have h2 := HOW.out; show Mb.ops ≤ _; omega)
            rw [out_read] at hR
            have HR := Lib.hid hR
            clear hR
            refine (HR.out).mono ?_
            rintro e w11 ⟨rfl, Sa11, hd11, hm11, hg11⟩
            have T11 := Lib.hid (T10.out.stepA hd11 hm11 hg11)
            have S11 := Lib.hid (S10.out.stepA hm11 hg11)
            clear hd11 hm11 hg11
            have hb12 : Below w11.heap.size w11 ((zbW w11).setCells w11.heap.size 0 (bvs Zb)) := below_setCells (zbW_below w11) (Nat.le_refl _) 0 (bvs Zb)
            have TH12 := Lib.hid (Z64_there w11)
            have T12 := Lib.hid (T11.out.below hb12)
            have S12 := Lib.hid (S11.out.below hb12)
            clear hb12
            go_wp2_with (first
              | (with_reducible refine al_block rfl rfl ?_)
              | (with_reducible refine st_block rfl _ _ rfl w11.heap.size 0 Zb HZ rfl rfl TH12.out ?_))
            generalize (zbW w11).setCells w11.heap.size 0 (bvs Zb) = w12 at T12 S12 ⊢
            have hdd := dead_dk T12.out.a.1
            rw [show (Mb.out_).dead = true from rfl] at hdd
            refine hdd.mono ?_
            rintro e w' ⟨rfl, rfl⟩
            clear hdd
            have hR := sync_dk T12.out.a.1 (by have h2 := HOW.out; show Mb.ops ≤ _; omega) (by have h2 := HOW.out; show Mb.wt.length ≤ _; omega)
            rw [out_sync] at hR
            have HR2 := Lib.hid hR
            clear hR
            go_wp2_with fail
            refine (HR2.out).mono ?_
            rintro e w13 ⟨rfl, Sa13, hd13, hm13, hg13⟩
            have T13 := Lib.hid (T12.out.stepA hd13 hm13 hg13)
            have S13 := Lib.hid (S12.out.stepA hm13 hg13)
            clear hd13 hm13 hg13
            have hR := arm_dk T13.out.a.1 3 (by omega)
            rw [out_arm] at hR
            have HR3 := Lib.hid hR
            clear hR
            go_wp2_with fail
            refine (HR3.out).mono ?_
            rintro e w14 ⟨rfl, Sa14, hd14, hm14, hg14⟩
            have T14 := Lib.hid (T13.out.stepA hd14 hm14 hg14)
            have S14 := Lib.hid (S13.out.stepA hm14 hg14)
            clear hd14 hm14 hg14
            have hR := fail_dk T14.out.a.1 3 (by omega)
            rw [out_fail] at hR
            have HR4 := Lib.hid hR
            clear hR
            go_wp2_with fail
            refine (HR4.out).mono ?_
            rintro e w15 ⟨rfl, Sa15, hd15, hm15, hg15⟩
            have T15 := Lib.hid (T14.out.stepA hd15 hm15 hg15)
            have S15 := Lib.hid (S14.out.stepA hm15 hg15)
            clear hd15 hm15 hg15
            go_wp2_with fail
            refine (pend_dk T15.out.a.1 (by have h2 := HOW.out; show Mb.wt.length ≤ _; omega)).mono ?_
            rintro e w16 ⟨A2, n2, c2, rfl, ho2, hn2, hb16⟩
            have S2 : Hid (SlV w16 w16.heap.size A2 n2 c2 (ints (secsOf Mb))) := Lib.hid (own_slv ho2)
            have T16 := Lib.hid (T15.out.below hb16)
            have S16 := Lib.hid (S15.out.below hb16)
            clear ho2 hn2 hb16
            go_wp2_with fail
            refine (equal_one S2.out S16.out.sl).mono ?_
            rintro e w17 ⟨rfl, hb17⟩
            have T17 := Lib.hid (T16.out.below hb17)
            clear hb17
            have OA := Lib.hid (show Calls Try.prog 29 #[rp ga] w17 fun e w' => e = .returned (.int .i64 Mb.ops) ∧ w17 = w' from by have h := ops_dk T17.out.a.1; exact h)
            have OB := Lib.hid (ops_dk T17.out.b.1)
            have hne : (Mb.ops != Mb.ops) = false := by simp
            have hmk := run_make_bools n1 (by have := HN1.out; omega) w17
            have hn0 : (0 : Int) ≤ (n1 : Int) := Int.natCast_nonneg _
            have hbk : Below w17.heap.size w17 (w17.alloc (.cells (bls (List.replicate n1 false)).toArray 4)) := (Below.refl _ _).alloc (Nat.le_refl _) _
            have T18 := Lib.hid (T17.out.below hbk)
            have O18 : Hid ((w17.alloc (.cells (bls (List.replicate n1 false)).toArray 4)).ownsRow w17.heap.size 4 1 (.slice (some ⟨w17.heap.size, 0, none⟩) n1 n1) n1 (bls (List.replicate n1 false))) := Lib.hid (World.ownsRow_lit w17 (bls (List.replicate n1 false)).toArray n1 (Nat.le_refl _) (by have := HN1.out; unfold maxLen; omega) (by simp [bls]))
            have HBO := Lib.hid T17.out.both
            have HW17 := Lib.hid T17.out.a.2.2.size
            clear hbk
            go_wp2_with (first
              | (go_at_call 29; (first | (with_reducible refine (OA.out).mono ?_) | (with_reducible refine (OB.out).mono ?_)); rintro e w' ⟨rfl, rfl⟩))
            obtain ⟨wo, hwo⟩ : ∃ wo : World, wo = wr := ⟨_, rfl⟩
            have HWO := Lib.hid hwo
            clear hwo
            go_loopw [138] (fun i wq => ∃ (j : Nat) (ys : List Bool), j ≤ n1 ∧ i = .int .i64 (j : Int) ∧ Hid (ys.length = n1) ∧ Hid (wq.ownsRow w17.heap.size 4 1 (.slice (some ⟨w17.heap.size, 0, none⟩) n1 n1) n1 (bls ys)) ∧ Hid (Tw W wq ga Sa15 Mb.out_ gb Sb Mb)) (fun i _ => n1 - (intOf i).toNat)
            case atStart => exact ⟨0, List.replicate n1 false, Nat.zero_le _, rfl, Lib.hid (by simp), O18, T18⟩
            case round =>
              obtain ⟨j, ys, hj, rfl, hyl, hown, htw⟩ := hrel
              by_cases hjl : j < n1
              · have hd2 : decide ((j : Int) < (n1 : Int)) = true := by simp; omega
                have hj0 : (0 : Int) ≤ (j : Int) := Int.natCast_nonneg _
                have hj1 : (j : Int) < (n1 : Int) := by omega
                have hn1k : (n1 : Int) ≤ 1000 := by have := HN1.out; omega
                have q1 := hown.out.cellAt j (by omega)
                rw [List.getElem?_eq_getElem (by simp [bls, hyl.out]; exact hjl)] at q1
                have q2 := hown.out.frozenAt j
                go_wp2
                go_roundw
                case rel => exact ⟨j + 1, ys.set j ((j : Int) % 2 == 0), by omega, by go_num, Lib.hid (by rw [List.length_set]; exact hyl.out), Lib.hid (by have := (hown.out.stored j (.bool ((j : Int) % 2 == 0))).1; simpa [bls, List.map_set] using this), Lib.hid (htw.out.set_ (p := ⟨w17.heap.size, j, none⟩) (fun b hb => by have := HBO.out b hb; show b ≠ w17.heap.size; omega) HW17.out _)⟩
                case measure => simp [intOf]; omega
              · have hd2 : decide ((j : Int) < (n1 : Int)) = false := by simp; omega
                have SK := Lib.hid (sls_own hown.out HBO.out)
                have TK := Lib.hid htw.out
                have HYL := Lib.hid hyl.out
                clear hyl hown htw
                have hcr := crash_dk TK.out.a.1 SK.out.sl (Nat.le_refl _) (fun x hx hS => by injection hx with hx; subst hx; exact absurd (HBO.out _ (.inl hS)) (Nat.lt_irrefl _)) (by have h2 := HOW.out; show Mb.wt.length ≤ _; omega)
                rw [out_crash] at hcr
                obtain ⟨lv, hlv⟩ : ∃ lv, lvB ys = lv := ⟨_, rfl⟩
                rw [hlv] at hcr
                obtain ⟨Mc, hmc⟩ : ∃ Mc, Mb.crash lv = Mc := ⟨_, rfl⟩
                rw [hmc] at hcr
                have HCR := Lib.hid hcr
                have HLV := Lib.hid hlv
                have HMC := Lib.hid hmc
                have HMP := Lib.hid (show Mc.Plain ∧ Mc.safe.length = 6 ∧ Mc.ops = Mb.ops ∧ Mc.dead = false from by subst hmc; exact ⟨⟨rfl, rfl, rfl⟩, (settle_len _ _ _ _).trans H6.out, rfl, rfl⟩)
                clear hcr hlv hmc
                go_wp2_with fail
                refine (HCR.out).mono ?_
                rintro e w19 ⟨rfl, Sa19, hd19, hm19, hg19⟩
                have T19 := Lib.hid (TK.out.stepA hd19 hm19 hg19)
                have S19 := Lib.hid (SK.out.stepA hm19 hg19)
                clear hd19 hm19 hg19
                have hcr := crash_dk T19.out.b.1 S19.out.sl (Nat.le_refl _) (fun x hx hS => by injection hx with hx; subst hx; exact absurd (HBO.out _ (.inr hS)) (Nat.lt_irrefl _)) (by have h2 := HOW.out; omega)
                rw [HLV.out, HMC.out] at hcr
                have HCR2 := Lib.hid hcr
                clear hcr
                go_wp2_with fail
                refine (HCR2.out).mono ?_
                rintro e w20 ⟨rfl, Sb20, hd20, hm20, hg20⟩
                have T20 := Lib.hid (T19.out.stepB hd20 hm20 hg20)
                clear hd20 hm20 hg20
                have hdd := dead_dk T20.out.a.1
                rw [HMP.out.2.2.2] at hdd
                have DA := Lib.hid hdd
                clear hdd
                have HHA := Lib.hid (holds_dk T20.out.a.1 HMP.out.1 (by have h1 := HMP.out.2.1; omega) (by have h1 := HMP.out.2.2.1; have h2 := HOW.out; omega))
                have HF := Lib.hid (hld_len T20.out.b.1.ok)
                go_wp2_with (first
                  | (go_at_call 25; refine (DA.out).mono ?_; rintro e w' ⟨rfl, rfl⟩))
                refine (HHA.out).mono ?_
                rintro e w21 ⟨rfl, Se, hd21, hm21, hg21⟩
                have T21 := Lib.hid (T20.out.stepA hd21 hm21 hg21)
                clear hd21 hm21 hg21
                have hb22 : Below w21.heap.size w21 ((w21.alloc (.cells Z6 50)).setCells w21.heap.size 0 (bvs (sixB Mc.hld))) := below_setCells ((Below.refl _ _).alloc (Nat.le_refl _) _) (Nat.le_refl _) _ _
                have TH21 := Lib.hid (rowIs_there (Z6_new w21) 0 384 (by omega))
                have T22 := Lib.hid (T21.out.below hb22)
                have R22 := Lib.hid (six_set HF.out TH21.out)
                have NS22 := Lib.hid (show ¬ Sb20 w21.heap.size from fun h => by have := T21.out.b.1.lt _ h; omega)
                have LT22 := Lib.hid (show w21.heap.size < ((w21.alloc (.cells Z6 50)).setCells w21.heap.size 0 (bvs (sixB Mc.hld))).heap.size from by rw [size_setCells]; simp)
                clear hb22
                go_wp2_with (first
                  | (with_reducible refine al_six rfl rfl ?_)
                  | (with_reducible refine st_six rfl _ _ rfl w21.heap.size Mc.hld HF rfl rfl TH21.out ?_))
                generalize (w21.alloc (.cells Z6 50)).setCells w21.heap.size 0 (bvs (sixB Mc.hld)) = w22 at T22 R22 LT22 ⊢
                have HHB := Lib.hid (holds_dk T22.out.b.1 HMP.out.1 (by have h1 := HMP.out.2.1; omega) (by have h1 := HMP.out.2.2.1; have h2 := HOW.out; omega))
                refine (HHB.out).mono ?_
                rintro e w23 ⟨rfl, Sf, hd23, hm23, hg23⟩
                have T23 := Lib.hid (T22.out.stepB hd23 hm23 hg23)
                have R23 := Lib.hid (rangeAt_keep R22.out (hm23.block _ LT22.out NS22.out))
                have LT23 := Lib.hid (Nat.lt_of_lt_of_le LT22.out hm23.size)
                clear hd23 hm23 hg23
                have hb24 : Below w23.heap.size w23 ((w23.alloc (.cells Z6 50)).setCells w23.heap.size 0 (bvs (sixB Mc.hld))) := below_setCells ((Below.refl _ _).alloc (Nat.le_refl _) _) (Nat.le_refl _) _ _
                have TH23 := Lib.hid (rowIs_there (Z6_new w23) 0 384 (by omega))
                have T24 := Lib.hid (T23.out.below hb24)
                have Q24 := Lib.hid (six_set HF.out TH23.out)
                have R24 := Lib.hid (rangeAt_keep R23.out (hb24.block _ LT23.out))
                clear hb24
                have hE := fun w => six_eq HF.out w
                go_wp2_with (first
                  | (with_reducible refine al_six rfl rfl ?_)
                  | (with_reducible refine st_six rfl _ _ rfl w23.heap.size Mc.hld HF rfl rfl TH23.out ?_)
                  | (with_reducible refine ld_six rfl (.tmp 20) rfl w21.heap.size Mc.hld HF rfl R24.out ?_)
                  | (with_reducible refine ld_six rfl (.tmp 22) rfl w23.heap.size Mc.hld HF rfl Q24.out ?_))
                go_ret
                exact ⟨rfl, T24.out.a.2.2⟩
    · have hd : decide ((k : Int) < (m : Int)) = false := by simp; omega
      obtain rfl : k = m := by omega
      obtain ⟨Sa, Sb, Mb, hT, hBare, h6, ho, hw, hf1, hf2⟩ := hrel.out
      have HBA := Lib.hid hBare
      have H6 := Lib.hid h6
      have HOW := Lib.hid (And.intro ho hw)
      have T5 := Lib.hid hT
      clear hT hBare h6 ho hw hrel
      have hdd := dead_dk T5.out.a.1
      rw [show (Mb.fus fn).dead = Mb.dead from rfl, HBA.out.dead] at hdd
      have DA := Lib.hid hdd
      have HPA := Lib.hid (pend_dk T5.out.a.1 (by have h2 := HOW.out; show Mb.wt.length ≤ _; omega))
      have HPB := Lib.hid (fun w' (hb : Below wr.heap.size wr w') => pend_dk (T5.out.below hb).b.1 (by have h2 := HOW.out; omega))
      clear hdd
      go_wp2_with (first
        | (go_at_call 25; refine (DA.out).mono ?_; rintro e w' ⟨rfl, rfl⟩))
      refine (HPA.out).mono ?_
      rintro e w13 ⟨A1, n1, c1, rfl, ho1, hn1, hb13⟩
      have S1 : Hid (SlV w13 w13.heap.size A1 n1 c1 (ints (secsOf Mb))) := Lib.hid (own_slv ho1)
      have B13 := Lib.hid hb13
      clear ho1 hn1 hb13
      go_wp2_with fail
      refine (HPB.out _ B13.out).mono ?_
      rintro e w14 ⟨A2, n2, c2, rfl, ho2, hn2, hb14⟩
      have S2 : Hid (SlV w14 w14.heap.size A2 n2 c2 (ints (secsOf Mb))) := Lib.hid (own_slv ho2)
      have B14 := Lib.hid hb14
      clear ho2 hn2 hb14
      go_wp2_with fail
      refine (equal_one (S1.out.below B14.out) S2.out).mono ?_
      rintro e w15 ⟨rfl, hb15⟩
      have B15 := Lib.hid hb15
      clear hb15
      go_wp2
      go_ret
      exact ⟨rfl, ((T5.out.a.2.2.trans (B13.out.mono T5.out.a.2.2.size)).trans (B14.out.mono (Nat.le_trans T5.out.a.2.2.size B13.out.size))).trans (B15.out.mono (Nat.le_trans (Nat.le_trans T5.out.a.2.2.size B13.out.size) B14.out.size))⟩

theorem own : ownKnob Try.prog.godebug = none := by kernel_rfl
theorem laidOut : laidOutB Try.prog = true := by kernel_rfl

set_option maxRecDepth 100000 in
theorem lifted (os : Os) (started : os.Started) (H : Type) (enc : TypeId × Value → H) :
    ReturnsInHanded {} Try.checked os 5 .any (Rows.diskFuseSpec.pre6 enc Try.prog Try.f5 Rows.diskFuseRow.domain false) (Rows.diskFuseSpec.post enc Try.prog Try.f5 false true false false) := by
  refine returnsInHanded_of_change (C := Try.checked) own started (by kernel_rfl) Try.func5
    (ChangeSpec.witness6 (enc := enc) (C := Try.checked) false ⟨#[], #[.slice none 0 0, .slice none 0 0, .int .i64 0], []⟩ 8 (by kernel_rfl) (by kernel_rfl) (by kernel_rfl) (by kernel_rfl)) ?_
  intro W base args ds gs before hval0 hW hcnd _
  have hval : ∀ (j : Nat) t v, Try.f5.params[j]? = some t → args[j]? = some v → Value.okWide Try.prog W .any base t v := hval0
  have hW' := hW
  obtain ⟨p, q, hA0, hV, rfl, hfz, hnd⟩ := hW
  have hA : DataW.TrodAll enc Try.prog W 0 (fun _ => true) true Try.f5.params.toList args.toList ds p := hA0
  rw [Try.params5] at hA hval
  obtain ⟨v0, vs0, d0, ds0, p0, q0, hargs, rfl, rfl, h0, r0⟩ := trodAll_cons hA
  obtain ⟨v1, vs1, d1, ds1, p1, q1, rfl, rfl, rfl, h1, r1⟩ := trodAll_cons r0
  obtain ⟨v2, vs2, d2, ds2, p2, q2, rfl, rfl, rfl, h2, r2⟩ := trodAll_cons r1
  obtain ⟨rfl, rfl, rfl⟩ := trodAll_nil r2
  obtain rfl : args = #[v0, v1, v2] := by cases args; simp_all
  obtain ⟨rfl, rfl⟩ := trodVars_none hV
  have k0 := h0
  have lt0 : ∀ x ∈ p0, x.block < W.heap.size := by obtain ⟨m, hm⟩ := k0; exact DataW.trod_lt m _ _ _ hm
  obtain ⟨A0, n0, c0, l0, rfl, s0⟩ := acts_arg (hval 0 22 v0 rfl rfl) h0
  have k1 := h1
  have lt1 : ∀ x ∈ p1, x.block < W.heap.size := by obtain ⟨m, hm⟩ := k1; exact DataW.trod_lt m _ _ _ hm
  obtain ⟨A1, n1, c1, l1, rfl, s1⟩ := acts_arg (hval 1 22 v1 rfl rfl) h1
  have k2 := h2
  have lt2 : ∀ x ∈ p2, x.block < W.heap.size := by obtain ⟨m, hm⟩ := k2; exact DataW.trod_lt m _ _ _ hm
  obtain ⟨a2, rfl, e2, f2, w2⟩ := open_int Try.underlying3 (hval 2 3 v2 rfl rfl) h2
  have b2 := bounds_i64 w2
  clear hA0 hval0
  refine (walk A0 n0 c0 l0 A1 n1 c1 l1 a2 W s0 s1).mono fun e W' ⟨he, bel⟩ => ?_
  subst he
  exact ⟨_, rfl, _, _, _, [], _, [], hW', trodAll_mk1 (shut_bool Try.underlying4 _), (trodAll_cons_mk (Below.trod laidOut (by kernel_rfl) (of_decide_eq_true (by kernel_rfl)) k0 bel lt0) (trodAll_cons_mk (Below.trod laidOut (by kernel_rfl) (of_decide_eq_true (by kernel_rfl)) k1 bel lt1) (trodAll_cons_mk (Below.trod laidOut (by kernel_rfl) (of_decide_eq_true (by kernel_rfl)) k2 bel lt2) trodAll_mk0))), rfl, bel.frame _, fun h => by cases h⟩

theorem over : Rows.diskFuseRow.holds Try.pinned (OpenSpec.ofChange Rows.diskFuseSpec) :=
  OpenClaim.holds_of_wide 5 Try.f5 rfl rfl rfl rfl rfl rfl rfl ⟨rfl, rfl, rfl, rfl, rfl⟩ rfl rfl rfl rfl rfl (by kernel_rfl) Try.func5 (by kernel_rfl)
    (of_decide_eq_true (by kernel_rfl)) (by unfold Func.isWrapper; first | (rw [if_pos (by decide +kernel)]; kernel_rfl) | (rw [if_neg (by decide +kernel)]; exact ⟨rfl, rfl⟩))
    (fun os started H enc _ => lifted os started H enc)

theorem proved : Rows.DiskFuseSaid := over
#print axioms proved
end Go.Proofs.Ytphpllnhbffodaa.diskFuse
