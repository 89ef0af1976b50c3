/-
  PROVED HERE: whatever acts before and l, and whatever number n, confluencelaw02.DiskFault(before, l, n) returns true: just the one operation fails at which the fault is, and nothing comes of it. No condition.
-/
import Derived.Test.YtphpllnhbffodaaTw
import Derived.Test.YtphpllnhbffodaaRows
import Derived.ProofKit
import Derived.OpenShut
import Derived.ChangeOld
import Derived.Carry
namespace Go.Proofs.Ytphpllnhbffodaa.diskFault
open Go.ChangeShapes Go.WideShapes Go.ChangeAt Go.RowKit
set_option linter.unusedVariables false

set_option linter.unusedSimpArgs false
/-- The disk with the fault, told by the one without. -/
def Mz (M : Mo) (fd : Bool) (fn : Int) : Mo := if fd then M else M.fal fn
theorem Mz.ops (M : Mo) (fd : Bool) (fn : Int) : (Mz M fd fn).ops = M.ops := by cases fd <;> rfl
theorem Mz.wt (M : Mo) (fd : Bool) (fn : Int) : (Mz M fd fn).wt = M.wt := by cases fd <;> rfl
theorem fa_both {M : Mo} {fd : Bool} {fn kind i : Int} {b : UInt8} {ks : List Bool} (h : M.Bare) (hk : whichI kind ≤ 3) (hc : thB M.safe.length kind i = false ∨ fd = true ∨ fn ≠ 0) :
    (Mz M fd fn).act kind i b ks = (Mz (M.act kind i b ks).1 fd (if thB M.safe.length kind i = true then fn - 1 else fn), (M.act kind i b ks).2) := by
  cases fd
  · cases ht : thB M.safe.length kind i
    · show (M.fal fn).act kind i b ks = _
      rw [fal_miss fn h hk ht, bare_miss h hk ht]
      rfl
    · show (M.fal fn).act kind i b ks = _
      rw [fal_on h hk ht (by rcases hc with x | x | x; rw [ht] at x; cases x; cases x; exact x)]
      rfl
  · rfl
/-- While the acts are done at both disks. -/
def FaR (W : World) (ga gb k : Nat) (fn : Int) (fd : Bool) (w : World) : Prop :=
  ∃ Sa Sb Mb, Tw W w ga Sa (Mz Mb fd fn) gb Sb Mb ∧ Mb.Bare ∧ Mb.safe.length = 6 ∧ Mb.ops ≤ 100 + k ∧ (Mb.wt.length : Int) ≤ 100 + k ∧ (fd = false → 0 ≤ fn) ∧ -(k : Int) ≤ fn ∧ fn ≤ 30
theorem FaR.weak {W : World} {ga gb k : Nat} {fn : Int} {fd : Bool} {w : World} (h : FaR W ga gb k fn fd w) : FaR W ga gb (k + 1) fn fd w := by
  obtain ⟨Sa, Sb, Mb, h1, h2, h3, h4, h5, h6, h7, h8⟩ := h
  exact ⟨Sa, Sb, Mb, h1, h2, h3, by omega, by omega, h6, by omega, h8⟩
theorem FaR.below {W : World} {ga gb k : Nat} {fn : Int} {fd : Bool} {w w' : World} (h : FaR W ga gb k fn fd w) (hb : Below w.heap.size w w') : FaR W ga gb k fn fd w' := by
  obtain ⟨Sa, Sb, Mb, h1, h2⟩ := h
  exact ⟨Sa, Sb, Mb, h1.below hb, h2⟩

set_option maxRecDepth 100000 in
set_option maxHeartbeats 4000000 in
theorem walk (A : Option Addr) (n c : Nat) (l : List Ac) (A' : Option Addr) (n' c' : Nat) (l' : List Ac) (x : Int) (W : World) (hs : Acts W W.heap.size A n c l) (hs' : Acts W W.heap.size A' n' c' l') :
    Calls Try.prog 6 #[.slice A n c, .slice A' n' c', .int .i64 x] W fun e w' => e = .returned (.bool true) ∧ Below W.heap.size W w' := by
  have hsm := some_any A' n' c' hs'.cap hs'.max
  obtain ⟨m, hm⟩ : ∃ m, min n' 100 = m := ⟨_, rfl⟩
  have hm100 : m ≤ 100 := by omega
  have hsk := hs'.take (k := m) (by omega)
  obtain ⟨al, has⟩ : ∃ al, l'.take m = al := ⟨_, rfl⟩
  rw [has] at hsk
  rw [hm] at hsm
  have HS := Lib.hid hsk
  have HSM := Lib.hid hsm
  have HBF := Lib.hid hs
  clear hs hs' hsm hsk has hm
  go_enter Try.func6, Try.ntmps6
  go_wp2_with fail
  refine (wakes_any _).mono ?_
  rintro e w1 ⟨rfl, hb1⟩
  have HB1 := Lib.hid hb1
  clear hb1
  go_wp2_with fail
  refine (used_any A n c l W.heap.size w1 (HBF.out.below HB1.out) HB1.out.size).mono ?_
  rintro e w2 ⟨ga, S2, M, rfl, hL2, hB, h6, hops, hwt⟩
  have HM := Lib.hid (And.intro hB (And.intro h6 (And.intro hops hwt)))
  have L2 := Lib.hid (show Live W w2 ga S2 M from ⟨hL2.1, fun b hb => Nat.le_trans HB1.out.size (hL2.2.1 b hb), HB1.out.trans (hL2.2.2.mono HB1.out.size)⟩)
  clear hL2 hB h6 hops hwt
  go_wp2_with fail
  refine (copy_dk L2.out.1 (by have := HM.out; omega)).mono ?_
  rintro e w3 ⟨gb, S3, rfl, hd3, hS3, hb3⟩
  have T3 := Lib.hid (Tw.start L2.out hd3 hS3 hb3)
  clear hd3 hS3 hb3
  go_wp2_with fail
  have hu : IntKind.u64.wrap x = x % 18446744073709551616 := rfl
  have hv2 : (x % 18446744073709551616).tmod 30 = x % 18446744073709551616 % 30 := Int.tmod_eq_emod_of_nonneg (by omega)
  have hv3 : wrap64 (x % 18446744073709551616 % 30) = x % 18446744073709551616 % 30 := by unfold wrap64; omega
  have hv0 : 0 ≤ x % 18446744073709551616 % 30 := by omega
  have hv1 : x % 18446744073709551616 % 30 < 30 := by omega
  rw [hu, hv2, hv3]
  clear hu hv2 hv3
  generalize x % 18446744073709551616 % 30 = v at hv0 hv1 ⊢
  have hfl : M.fail v = (M.fal v, 0) := by
    unfold Mo.fail Mo.fal
    rw [HM.out.1.dead, decide_eq_true hv0]
    simp
  have HFL := Lib.hid hfl
  clear hfl
  have HFC := Lib.hid (fail_dk T3.out.a.1 v (by omega))
  rw [HFL.out] at HFC
  refine (HFC.out).mono ?_
  rintro e w4 ⟨rfl, S4, hd4, hm4, hg4⟩
  have R4 : Hid (FaR W ga gb 0 v false w4) := Lib.hid ⟨S4, S3, M, T3.out.stepA hd4 hm4 hg4, HM.out.1, HM.out.2.1, by have := HM.out.2.2.1; omega, by have := HM.out.2.2.2; omega, fun _ => hv0, by omega, by omega⟩
  clear hd4 hm4 hg4
  go_wp2_with (first
    | (go_at_call 10; refine (HSM.out _).mono ?_; rintro e w5 ⟨rfl, rfl⟩))
  go_loopw [46, 2, 10] (fun i nn f wr => ∃ (k : Nat) (fn : Int) (fd : Bool), k ≤ m ∧ i = .int .i64 (k : Int) ∧ nn = .int .i64 fn ∧ f = .bool fd ∧ Hid (FaR W ga gb k fn fd wr)) (fun i _ _ _ => m - (intOf i).toNat)
  case atStart => exact ⟨0, v, false, Nat.zero_le _, rfl, rfl, rfl, R4⟩
  case round =>
    obtain ⟨k, fn, fd, hk, rfl, rfl, rfl, hrel⟩ := hrel
    by_cases hlt : k < m
    · have hd : decide ((k : Int) < (m : Int)) = true := by simp; omega
      have hk0 : (0 : Int) ≤ (k : Int) := Int.natCast_nonneg _
      have hk1 : (k : Int) < (m : Int) := by omega
      have hlas : al.length = m := HS.out.len
      obtain ⟨bb, oo, hA, hbb, hcells⟩ := HS.out.pos (by omega)
      have hcell := hcells k (by omega)
      obtain ⟨a, ha⟩ : ∃ a, al[k]'(by omega) = a := ⟨_, rfl⟩
      have haok := HS.out.ok a (by rw [← ha]; exact List.getElem_mem _)
      rw [ha] at hcell
      have hbw : Below W.heap.size W wr := by obtain ⟨_, _, _, h1, _⟩ := hrel.out; exact h1.a.2.2
      have hcw := rangeAt_keep hcell (hbw.block bb hbb)
      subst hA
      obtain ⟨kind, nn, b, Ak, lk, ck, ks⟩ := a
      have q0 : wr.cell? ⟨bb, oo + k * 4, none⟩ = some (.int .i64 kind) := hcw 0 _ rfl
      have q1 : wr.cell? ⟨bb, oo + k * 4 + 1, none⟩ = some (.int .i64 nn) := hcw 1 _ rfl
      have q2 : wr.cell? ⟨bb, oo + k * 4 + 2, none⟩ = some (.int .u8 (b.toNat : Int)) := hcw 2 _ rfl
      have q3 : wr.cell? ⟨bb, oo + k * 4 + 3, none⟩ = some (.slice Ak lk ck) := hcw 3 _ rfl
      have hqb : bb < wr.heap.size := Nat.lt_of_lt_of_le hbb hbw.size
      have HKS : Hid (SlV W W.heap.size Ak lk ck (bls ks)) := Lib.hid haok.ks
      have HN := Lib.hid haok.n
      have hbx : Below wr.heap.size wr (boxU wr ⟨kind, nn, b, Ak, lk, ck, ks⟩) := (Below.refl _ _).alloc (Nat.le_refl _) _
      have RX := Lib.hid (hrel.out.below hbx)
      have AX : Hid (Lies (boxU wr ⟨kind, nn, b, Ak, lk, ck, ks⟩) wr.heap.size 4 [.int .i64 kind, .int .i64 nn, .int .u8 (b.toNat : Int), .slice Ak lk ck]) := Lib.hid (Lies.new wr [.int .i64 kind, .int .i64 nn, .int .u8 (b.toNat : Int), .slice Ak lk ck] 35)
      have HBX := Lib.hid hbx
      clear hcell hcells ha haok hbw hcw hbx hlas
      go_wp2_with fail
      refine (which_any kind nn b Ak lk ck _).mono ?_
      rintro e w6 ⟨rfl, hb6⟩
      have R6 := Lib.hid (RX.out.below hb6)
      have A6 := Lib.hid (AX.out.below hb6 AX.out.lt)
      have e0 := A6.out.cell (j := 0) rfl
      have e1 := A6.out.cell (j := 1) rfl
      have e2 := A6.out.cell (j := 2) rfl
      have e3 := A6.out.cell (j := 3) rfl
      have HB6 := Lib.hid hb6
      clear hb6
      by_cases h3 : 3 < whichI kind
      · have h3' : decide (3 < whichI kind) = true := by simpa using h3
        go_wp2
        go_roundw
        case rel => exact ⟨k + 1, fn, fd, by omega, by go_num, rfl, rfl, Lib.hid R6.out.weak⟩
        case measure => simp [intOf]; omega
      · have h3' : decide (3 < whichI kind) = false := by simpa using h3
        obtain ⟨Sa, Sb, Mb, hT, hBare, h6, ho, hw, hf0, hf1, hf2⟩ := hrel.out
        have NS := Lib.hid (show ¬ Sa wr.heap.size ∧ ¬ Sb wr.heap.size from ⟨fun h => by have := hT.a.1.lt _ h; omega, fun h => by have := hT.b.1.lt _ h; omega⟩)
        have T6 := Lib.hid ((hT.below HBX.out).below HB6.out)
        have HBA := Lib.hid hBare
        have H6 := Lib.hid h6
        have HOW := Lib.hid (And.intro ho hw)
        have HK3 := Lib.hid (show whichI kind ≤ 3 by omega)
        have HF0 := Lib.hid hf0
        clear hT hBare h6 ho hw hf0
        go_wp2_with fail
        refine (which_any kind nn b Ak lk ck _).mono ?_
        rintro e w7 ⟨rfl, hb7⟩
        have T7 := Lib.hid (T6.out.below hb7)
        have A7 := Lib.hid (A6.out.below hb7 A6.out.lt)
        have e0 := A7.out.cell (j := 0) rfl
        have e1 := A7.out.cell (j := 1) rfl
        have e2 := A7.out.cell (j := 2) rfl
        have e3 := A7.out.cell (j := 3) rfl
        have Z7 := Lib.hid (show wr.heap.size < w7.heap.size from A7.out.lt)
        clear hb7 T6 A6
        obtain ⟨kd, hkd⟩ : ∃ kd, whichI kind = kd := ⟨_, rfl⟩
        have HKD := Lib.hid hkd
        rw [hkd]
        clear hkd h3 h3'
        have hcases : kd = 3 ∨ (kd ≠ 3 ∧ 0 ≤ nn ∧ nn < 6) ∨ (kd ≠ 3 ∧ 0 ≤ nn ∧ ¬ nn < 6) ∨ (kd ≠ 3 ∧ ¬ 0 ≤ nn) := by omega
        rcases hcases with h | ⟨h, g0, g1⟩ | ⟨h, g0, g1⟩ | ⟨h, g0⟩
        · subst h
          have HTH : Hid (thB Mb.safe.length kind nn = true) := Lib.hid (thB_3 HKD.out)
          by_cases hfn : fn = 0
          · subst hfn
            cases fd
            · have HEQ := Lib.hid (fal_now (i := nn) (b := b) (ks := ks) HBA.out HK3.out HTH.out)
              have hA := happens_dk kind nn b (ks := ks) (HKS.out.below T7.out.a.2.2) T7.out.a.2.2.size T7.out.a.1 (by have h1 := Mz.ops Mb false 0; have h2 := HOW.out; omega) (by have h1 := Mz.wt Mb false 0; have h2 := HOW.out; rw [h1]; omega) HN.out
              rw [show Mz Mb false 0 = Mb.fal 0 from rfl, HEQ.out] at hA
              have HA := Lib.hid hA
              have HZ := Lib.hid Zb_len
              clear HEQ hA
              go_wp2_with fail
              refine (HA.out).mono ?_
              rintro e w8 ⟨rfl, Sa8, hd8, hm8, hg8⟩
              have T8 := Lib.hid (T7.out.stepA hd8 hm8 hg8)
              clear hd8 hm8 hg8 e0 e1 e2 e3
              have hb9 : Below w8.heap.size w8 ((zbW w8).setCells w8.heap.size 0 (bvs Zb)) := below_setCells (zbW_below w8) (Nat.le_refl _) 0 (bvs Zb)
              have TH8 := Lib.hid (Z64_there w8)
              have T9 := Lib.hid (T8.out.below hb9)
              have P9 : Hid (Lies ((zbW w8).setCells w8.heap.size 0 (bvs Zb)) w8.heap.size 64 (bvs Zb)) := Lib.hid ((Lies.zb w8).set_ (by rw [bvs_len, Zb_len]))
              clear hb9
              have hdd := dead_dk T9.out.a.1
              rw [HBA.out.dead] at hdd
              have DA := Lib.hid hdd
              have OA := Lib.hid (ops_dk T9.out.a.1)
              have OB := Lib.hid (ops_dk T9.out.b.1)
              clear hdd
              have hE := fun w => blk_zero w
              have hne : (Mb.ops != Mb.ops) = false := by simp
              go_wp2_with (first
                | (with_reducible refine al_block rfl rfl ?_)
                | (with_reducible refine st_block rfl _ _ rfl w8.heap.size 0 Zb HZ rfl rfl TH8.out ?_)
                | (with_reducible refine ldw_block rfl _ rfl w8.heap.size 0 Zb HZ rfl P9.out.rg ?_)
                | (with_reducible refine bz_block rfl rfl ?_)
                | (go_at_call 25; refine (DA.out).mono ?_; rintro e w' ⟨rfl, rfl⟩)
                | (go_at_call 29; (first | (with_reducible refine (OA.out).mono ?_) | (with_reducible refine (OB.out).mono ?_)); rintro e w' ⟨rfl, rfl⟩))
              go_roundw
              case rel =>
                refine ⟨k + 1, 0, true, by omega, by go_num, by first | rfl | go_num, rfl, Lib.hid ⟨Sa8, Sb, Mb, ?_, ?_, ?_, ?_, ?_, ?_, ?_, ?_⟩⟩
                · exact T9.out
                · exact HBA.out
                · exact H6.out
                · have := HOW.out; omega
                · have := HOW.out; omega
                · intro he; cases he
                · omega
                · omega
              case measure => simp [intOf]; omega
            · have HEQ := Lib.hid (fa_both (i := nn) (b := b) (ks := ks) (fn := (0 : Int)) (fd := true) HBA.out HK3.out (.inr (.inl rfl)))
              have hA := happens_dk kind nn b (ks := ks) (HKS.out.below T7.out.a.2.2) T7.out.a.2.2.size T7.out.a.1 (by have h1 := Mz.ops Mb true (0 : Int); have h2 := HOW.out; omega) (by have h1 := Mz.wt Mb true (0 : Int); have h2 := HOW.out; rw [h1]; omega) HN.out
              have hB := fun (w' : World) (S' : Nat → Prop) (M' : Mo) (t : Tw W w' ga S' M' gb Sb Mb) => happens_dk kind nn b (ks := ks) (HKS.out.below t.b.2.2) t.b.2.2.size t.b.1 (by have h2 := HOW.out; omega) (by have h2 := HOW.out; omega) HN.out
              have hbr := HBA.out.act (i := nn) (b := b) (ks := ks) HK3.out
              have hln := act_len T7.out.b.1.ok kind nn b ks
              rw [HEQ.out, HTH.out] at hA
              clear HEQ
              generalize Mb.act kind nn b ks = r at hA hB hbr hln
              obtain ⟨Mb', bq, ev⟩ := r
              simp only at hA hB hbr hln
              have HA := Lib.hid hA
              have HB := Lib.hid hB
              have HBR := Lib.hid hbr
              have HBQ := Lib.hid hln
              clear hA hB hbr hln
              go_wp2_with fail
              refine (HA.out).mono ?_
              rintro e w8 ⟨rfl, Sa8, hd8, hm8, hg8⟩
              have T8 := Lib.hid (T7.out.stepA hd8 hm8 hg8)
              have A8 := Lib.hid (A7.out.mv_ hm8 NS.out.1)
              clear hd8 hm8 hg8 e0 e1 e2 e3
              have hb9 : Below w8.heap.size w8 ((zbW w8).setCells w8.heap.size 0 (bvs bq)) := below_setCells (zbW_below w8) (Nat.le_refl _) 0 (bvs bq)
              have TH8 := Lib.hid (Z64_there w8)
              have T9 := Lib.hid (T8.out.below hb9)
              have A9 := Lib.hid (A8.out.below hb9 A8.out.lt)
              have P9 : Hid (Lies ((zbW w8).setCells w8.heap.size 0 (bvs bq)) w8.heap.size 64 (bvs bq)) := Lib.hid ((Lies.zb w8).set_ (by rw [bvs_len, HBQ.out]))
              have NP9 := Lib.hid (show ¬ Sb w8.heap.size from fun h => by have := T8.out.b.1.lt _ h; omega)
              have e0 := A9.out.cell (j := 0) rfl
              have e1 := A9.out.cell (j := 1) rfl
              have e2 := A9.out.cell (j := 2) rfl
              have e3 := A9.out.cell (j := 3) rfl
              clear hb9
              go_wp2_with (first
                | (with_reducible refine al_block rfl rfl ?_)
                | (with_reducible refine st_block rfl _ _ rfl w8.heap.size 0 bq HBQ rfl rfl TH8.out ?_))
              generalize (zbW w8).setCells w8.heap.size 0 (bvs bq) = w9 at T9 A9 P9 e0 e1 e2 e3 ⊢
              refine (HB.out w9 _ _ T9.out).mono ?_
              rintro e w10 ⟨rfl, Sb10, hd10, hm10, hg10⟩
              have T10 := Lib.hid (T9.out.stepB hd10 hm10 hg10)
              have P10 := Lib.hid (P9.out.mv_ hm10 NP9.out)
              have A10 := Lib.hid (A9.out.mv_ hm10 NS.out.2)
              clear hd10 hm10 hg10 e0 e1 e2 e3
              have hb11 : Below w10.heap.size w10 ((zbW w10).setCells w10.heap.size 0 (bvs bq)) := below_setCells (zbW_below w10) (Nat.le_refl _) 0 (bvs bq)
              have TH10 := Lib.hid (Z64_there w10)
              have T11 := Lib.hid (T10.out.below hb11)
              have P11 := Lib.hid (P10.out.below hb11 P10.out.lt)
              have A11 := Lib.hid (A10.out.below hb11 A10.out.lt)
              have Q11 : Hid (Lies ((zbW w10).setCells w10.heap.size 0 (bvs bq)) w10.heap.size 64 (bvs bq)) := Lib.hid ((Lies.zb w10).set_ (by rw [bvs_len, HBQ.out]))
              clear hb11
              have hE := fun w => blk_same HBQ.out w
              have hne : (ev != ev) = false := by simp
              have e0 := A11.out.cell (j := 0) rfl
              have e1 := A11.out.cell (j := 1) rfl
              have e2 := A11.out.cell (j := 2) rfl
              have e3 := A11.out.cell (j := 3) rfl
              go_wp2_with (first
                | (with_reducible refine al_block rfl rfl ?_)
                | (with_reducible refine st_block rfl _ _ rfl w10.heap.size 0 bq HBQ rfl rfl TH10.out ?_)
                | (with_reducible refine ld_block rfl (.tmp 16) rfl w8.heap.size 0 bq HBQ rfl P11.out.rg ?_)
                | (with_reducible refine ld_block rfl (.tmp 18) rfl w10.heap.size 0 bq HBQ rfl Q11.out.rg ?_))
              go_roundw
              case rel =>
                refine ⟨k + 1, -1, true, by omega, by go_num, by first | rfl | go_num, rfl, Lib.hid ⟨Sa8, Sb10, Mb', ?_, ?_, ?_, ?_, ?_, ?_, ?_, ?_⟩⟩
                · exact T11.out
                · exact HBR.out.1
                · rw [HBR.out.2.1]; exact H6.out
                · have := HBR.out; have := HOW.out; omega
                · have := HBR.out; have := HOW.out; omega
                · intro he; cases he
                · omega
                · omega
              case measure => simp [intOf]; omega
          · have hfn' : (fn == 0) = false := by simpa using hfn
            have HEQ := Lib.hid (fa_both (i := nn) (b := b) (ks := ks) (fn := fn) (fd := fd) HBA.out HK3.out (.inr (.inr hfn)))
            have hA := happens_dk kind nn b (ks := ks) (HKS.out.below T7.out.a.2.2) T7.out.a.2.2.size T7.out.a.1 (by have h1 := Mz.ops Mb fd fn; have h2 := HOW.out; omega) (by have h1 := Mz.wt Mb fd fn; have h2 := HOW.out; rw [h1]; omega) HN.out
            have hB := fun (w' : World) (S' : Nat → Prop) (M' : Mo) (t : Tw W w' ga S' M' gb Sb Mb) => happens_dk kind nn b (ks := ks) (HKS.out.below t.b.2.2) t.b.2.2.size t.b.1 (by have h2 := HOW.out; omega) (by have h2 := HOW.out; omega) HN.out
            have hbr := HBA.out.act (i := nn) (b := b) (ks := ks) HK3.out
            have hln := act_len T7.out.b.1.ok kind nn b ks
            rw [HEQ.out, HTH.out] at hA
            clear HEQ
            generalize Mb.act kind nn b ks = r at hA hB hbr hln
            obtain ⟨Mb', bq, ev⟩ := r
            simp only at hA hB hbr hln
            have HA := Lib.hid hA
            have HB := Lib.hid hB
            have HBR := Lib.hid hbr
            have HBQ := Lib.hid hln
            clear hA hB hbr hln
            go_wp2_with fail
            refine (HA.out).mono ?_
            rintro e w8 ⟨rfl, Sa8, hd8, hm8, hg8⟩
            have T8 := Lib.hid (T7.out.stepA hd8 hm8 hg8)
            have A8 := Lib.hid (A7.out.mv_ hm8 NS.out.1)
            clear hd8 hm8 hg8 e0 e1 e2 e3
            have hb9 : Below w8.heap.size w8 ((zbW w8).setCells w8.heap.size 0 (bvs bq)) := below_setCells (zbW_below w8) (Nat.le_refl _) 0 (bvs bq)
            have TH8 := Lib.hid (Z64_there w8)
            have T9 := Lib.hid (T8.out.below hb9)
            have A9 := Lib.hid (A8.out.below hb9 A8.out.lt)
            have P9 : Hid (Lies ((zbW w8).setCells w8.heap.size 0 (bvs bq)) w8.heap.size 64 (bvs bq)) := Lib.hid ((Lies.zb w8).set_ (by rw [bvs_len, HBQ.out]))
            have NP9 := Lib.hid (show ¬ Sb w8.heap.size from fun h => by have := T8.out.b.1.lt _ h; omega)
            have e0 := A9.out.cell (j := 0) rfl
            have e1 := A9.out.cell (j := 1) rfl
            have e2 := A9.out.cell (j := 2) rfl
            have e3 := A9.out.cell (j := 3) rfl
            clear hb9
            go_wp2_with (first
              | (with_reducible refine al_block rfl rfl ?_)
              | (with_reducible refine st_block rfl _ _ rfl w8.heap.size 0 bq HBQ rfl rfl TH8.out ?_))
            generalize (zbW w8).setCells w8.heap.size 0 (bvs bq) = w9 at T9 A9 P9 e0 e1 e2 e3 ⊢
            refine (HB.out w9 _ _ T9.out).mono ?_
            rintro e w10 ⟨rfl, Sb10, hd10, hm10, hg10⟩
            have T10 := Lib.hid (T9.out.stepB hd10 hm10 hg10)
            have P10 := Lib.hid (P9.out.mv_ hm10 NP9.out)
            have A10 := Lib.hid (A9.out.mv_ hm10 NS.out.2)
            clear hd10 hm10 hg10 e0 e1 e2 e3
            have hb11 : Below w10.heap.size w10 ((zbW w10).setCells w10.heap.size 0 (bvs bq)) := below_setCells (zbW_below w10) (Nat.le_refl _) 0 (bvs bq)
            have TH10 := Lib.hid (Z64_there w10)
            have T11 := Lib.hid (T10.out.below hb11)
            have P11 := Lib.hid (P10.out.below hb11 P10.out.lt)
            have A11 := Lib.hid (A10.out.below hb11 A10.out.lt)
            have Q11 : Hid (Lies ((zbW w10).setCells w10.heap.size 0 (bvs bq)) w10.heap.size 64 (bvs bq)) := Lib.hid ((Lies.zb w10).set_ (by rw [bvs_len, HBQ.out]))
            clear hb11
            have hE := fun w => blk_same HBQ.out w
            have hne : (ev != ev) = false := by simp
            have e0 := A11.out.cell (j := 0) rfl
            have e1 := A11.out.cell (j := 1) rfl
            have e2 := A11.out.cell (j := 2) rfl
            have e3 := A11.out.cell (j := 3) rfl
            go_wp2_with (first
              | (with_reducible refine al_block rfl rfl ?_)
              | (with_reducible refine st_block rfl _ _ rfl w10.heap.size 0 bq HBQ rfl rfl TH10.out ?_)
              | (with_reducible refine ld_block rfl (.tmp 16) rfl w8.heap.size 0 bq HBQ rfl P11.out.rg ?_)
              | (with_reducible refine ld_block rfl (.tmp 18) rfl w10.heap.size 0 bq HBQ rfl Q11.out.rg ?_))
            go_roundw
            case rel =>
              refine ⟨k + 1, fn - 1, fd, by omega, by go_num, by first | rfl | go_num, rfl, Lib.hid ⟨Sa8, Sb10, Mb', ?_, ?_, ?_, ?_, ?_, ?_, ?_, ?_⟩⟩
              · exact T11.out
              · exact HBR.out.1
              · rw [HBR.out.2.1]; exact H6.out
              · have := HBR.out; have := HOW.out; omega
              · have := HBR.out; have := HOW.out; omega
              · intro he; have := HF0.out he; omega
              · omega
              · omega
            case measure => simp [intOf]; omega
        · have h' : (kd == 3) = false := by simpa using h
          have g0' : decide (0 ≤ nn) = true := by simpa using g0
          have g1' : decide (nn < 6) = true := by simpa using g1
          have HTH : Hid (thB Mb.safe.length kind nn = true) := Lib.hid (by rw [thB_0 (by rw [HKD.out]; exact h), H6.out]; simp [hasB]; omega)
          by_cases hfn : fn = 0
          · subst hfn
            cases fd
            · have HEQ := Lib.hid (fal_now (i := nn) (b := b) (ks := ks) HBA.out HK3.out HTH.out)
              have hA := happens_dk kind nn b (ks := ks) (HKS.out.below T7.out.a.2.2) T7.out.a.2.2.size T7.out.a.1 (by have h1 := Mz.ops Mb false 0; have h2 := HOW.out; omega) (by have h1 := Mz.wt Mb false 0; have h2 := HOW.out; rw [h1]; omega) HN.out
              rw [show Mz Mb false 0 = Mb.fal 0 from rfl, HEQ.out] at hA
              have HA := Lib.hid hA
              have HZ := Lib.hid Zb_len
              clear HEQ hA
              go_wp2_with fail
              refine (HA.out).mono ?_
              rintro e w8 ⟨rfl, Sa8, hd8, hm8, hg8⟩
              have T8 := Lib.hid (T7.out.stepA hd8 hm8 hg8)
              clear hd8 hm8 hg8 e0 e1 e2 e3
              have hb9 : Below w8.heap.size w8 ((zbW w8).setCells w8.heap.size 0 (bvs Zb)) := below_setCells (zbW_below w8) (Nat.le_refl _) 0 (bvs Zb)
              have TH8 := Lib.hid (Z64_there w8)
              have T9 := Lib.hid (T8.out.below hb9)
              have P9 : Hid (Lies ((zbW w8).setCells w8.heap.size 0 (bvs Zb)) w8.heap.size 64 (bvs Zb)) := Lib.hid ((Lies.zb w8).set_ (by rw [bvs_len, Zb_len]))
              clear hb9
              have hdd := dead_dk T9.out.a.1
              rw [HBA.out.dead] at hdd
              have DA := Lib.hid hdd
              have OA := Lib.hid (ops_dk T9.out.a.1)
              have OB := Lib.hid (ops_dk T9.out.b.1)
              clear hdd
              have hE := fun w => blk_zero w
              have hne : (Mb.ops != Mb.ops) = false := by simp
              go_wp2_with (first
                | (with_reducible refine al_block rfl rfl ?_)
                | (with_reducible refine st_block rfl _ _ rfl w8.heap.size 0 Zb HZ rfl rfl TH8.out ?_)
                | (with_reducible refine ldw_block rfl _ rfl w8.heap.size 0 Zb HZ rfl P9.out.rg ?_)
                | (with_reducible refine bz_block rfl rfl ?_)
                | (go_at_call 25; refine (DA.out).mono ?_; rintro e w' ⟨rfl, rfl⟩)
                | (go_at_call 29; (first | (with_reducible refine (OA.out).mono ?_) | (with_reducible refine (OB.out).mono ?_)); rintro e w' ⟨rfl, rfl⟩))
              go_roundw
              case rel =>
                refine ⟨k + 1, 0, true, by omega, by go_num, by first | rfl | go_num, rfl, Lib.hid ⟨Sa8, Sb, Mb, ?_, ?_, ?_, ?_, ?_, ?_, ?_, ?_⟩⟩
                · exact T9.out
                · exact HBA.out
                · exact H6.out
                · have := HOW.out; omega
                · have := HOW.out; omega
                · intro he; cases he
                · omega
                · omega
              case measure => simp [intOf]; omega
            · have HEQ := Lib.hid (fa_both (i := nn) (b := b) (ks := ks) (fn := (0 : Int)) (fd := true) HBA.out HK3.out (.inr (.inl rfl)))
              have hA := happens_dk kind nn b (ks := ks) (HKS.out.below T7.out.a.2.2) T7.out.a.2.2.size T7.out.a.1 (by have h1 := Mz.ops Mb true (0 : Int); have h2 := HOW.out; omega) (by have h1 := Mz.wt Mb true (0 : Int); have h2 := HOW.out; rw [h1]; omega) HN.out
              have hB := fun (w' : World) (S' : Nat → Prop) (M' : Mo) (t : Tw W w' ga S' M' gb Sb Mb) => happens_dk kind nn b (ks := ks) (HKS.out.below t.b.2.2) t.b.2.2.size t.b.1 (by have h2 := HOW.out; omega) (by have h2 := HOW.out; omega) HN.out
              have hbr := HBA.out.act (i := nn) (b := b) (ks := ks) HK3.out
              have hln := act_len T7.out.b.1.ok kind nn b ks
              rw [HEQ.out, HTH.out] at hA
              clear HEQ
              generalize Mb.act kind nn b ks = r at hA hB hbr hln
              obtain ⟨Mb', bq, ev⟩ := r
              simp only at hA hB hbr hln
              have HA := Lib.hid hA
              have HB := Lib.hid hB
              have HBR := Lib.hid hbr
              have HBQ := Lib.hid hln
              clear hA hB hbr hln
              go_wp2_with fail
              refine (HA.out).mono ?_
              rintro e w8 ⟨rfl, Sa8, hd8, hm8, hg8⟩
              have T8 := Lib.hid (T7.out.stepA hd8 hm8 hg8)
              have A8 := Lib.hid (A7.out.mv_ hm8 NS.out.1)
              clear hd8 hm8 hg8 e0 e1 e2 e3
              have hb9 : Below w8.heap.size w8 ((zbW w8).setCells w8.heap.size 0 (bvs bq)) := below_setCells (zbW_below w8) (Nat.le_refl _) 0 (bvs bq)
              have TH8 := Lib.hid (Z64_there w8)
              have T9 := Lib.hid (T8.out.below hb9)
              have A9 := Lib.hid (A8.out.below hb9 A8.out.lt)
              have P9 : Hid (Lies ((zbW w8).setCells w8.heap.size 0 (bvs bq)) w8.heap.size 64 (bvs bq)) := Lib.hid ((Lies.zb w8).set_ (by rw [bvs_len, HBQ.out]))
              have NP9 := Lib.hid (show ¬ Sb w8.heap.size from fun h => by have := T8.out.b.1.lt _ h; omega)
              have e0 := A9.out.cell (j := 0) rfl
              have e1 := A9.out.cell (j := 1) rfl
              have e2 := A9.out.cell (j := 2) rfl
              have e3 := A9.out.cell (j := 3) rfl
              clear hb9
              go_wp2_with (first
                | (with_reducible refine al_block rfl rfl ?_)
                | (with_reducible refine st_block rfl _ _ rfl w8.heap.size 0 bq HBQ rfl rfl TH8.out ?_))
              generalize (zbW w8).setCells w8.heap.size 0 (bvs bq) = w9 at T9 A9 P9 e0 e1 e2 e3 ⊢
              refine (HB.out w9 _ _ T9.out).mono ?_
              rintro e w10 ⟨rfl, Sb10, hd10, hm10, hg10⟩
              have T10 := Lib.hid (T9.out.stepB hd10 hm10 hg10)
              have P10 := Lib.hid (P9.out.mv_ hm10 NP9.out)
              have A10 := Lib.hid (A9.out.mv_ hm10 NS.out.2)
              clear hd10 hm10 hg10 e0 e1 e2 e3
              have hb11 : Below w10.heap.size w10 ((zbW w10).setCells w10.heap.size 0 (bvs bq)) := below_setCells (zbW_below w10) (Nat.le_refl _) 0 (bvs bq)
              have TH10 := Lib.hid (Z64_there w10)
              have T11 := Lib.hid (T10.out.below hb11)
              have P11 := Lib.hid (P10.out.below hb11 P10.out.lt)
              have A11 := Lib.hid (A10.out.below hb11 A10.out.lt)
              have Q11 : Hid (Lies ((zbW w10).setCells w10.heap.size 0 (bvs bq)) w10.heap.size 64 (bvs bq)) := Lib.hid ((Lies.zb w10).set_ (by rw [bvs_len, HBQ.out]))
              clear hb11
              have hE := fun w => blk_same HBQ.out w
              have hne : (ev != ev) = false := by simp
              have e0 := A11.out.cell (j := 0) rfl
              have e1 := A11.out.cell (j := 1) rfl
              have e2 := A11.out.cell (j := 2) rfl
              have e3 := A11.out.cell (j := 3) rfl
              go_wp2_with (first
                | (with_reducible refine al_block rfl rfl ?_)
                | (with_reducible refine st_block rfl _ _ rfl w10.heap.size 0 bq HBQ rfl rfl TH10.out ?_)
                | (with_reducible refine ld_block rfl (.tmp 16) rfl w8.heap.size 0 bq HBQ rfl P11.out.rg ?_)
                | (with_reducible refine ld_block rfl (.tmp 18) rfl w10.heap.size 0 bq HBQ rfl Q11.out.rg ?_))
              go_roundw
              case rel =>
                refine ⟨k + 1, -1, true, by omega, by go_num, by first | rfl | go_num, rfl, Lib.hid ⟨Sa8, Sb10, Mb', ?_, ?_, ?_, ?_, ?_, ?_, ?_, ?_⟩⟩
                · exact T11.out
                · exact HBR.out.1
                · rw [HBR.out.2.1]; exact H6.out
                · have := HBR.out; have := HOW.out; omega
                · have := HBR.out; have := HOW.out; omega
                · intro he; cases he
                · omega
                · omega
              case measure => simp [intOf]; omega
          · have hfn' : (fn == 0) = false := by simpa using hfn
            have HEQ := Lib.hid (fa_both (i := nn) (b := b) (ks := ks) (fn := fn) (fd := fd) HBA.out HK3.out (.inr (.inr hfn)))
            have hA := happens_dk kind nn b (ks := ks) (HKS.out.below T7.out.a.2.2) T7.out.a.2.2.size T7.out.a.1 (by have h1 := Mz.ops Mb fd fn; have h2 := HOW.out; omega) (by have h1 := Mz.wt Mb fd fn; have h2 := HOW.out; rw [h1]; omega) HN.out
            have hB := fun (w' : World) (S' : Nat → Prop) (M' : Mo) (t : Tw W w' ga S' M' gb Sb Mb) => happens_dk kind nn b (ks := ks) (HKS.out.below t.b.2.2) t.b.2.2.size t.b.1 (by have h2 := HOW.out; omega) (by have h2 := HOW.out; omega) HN.out
            have hbr := HBA.out.act (i := nn) (b := b) (ks := ks) HK3.out
            have hln := act_len T7.out.b.1.ok kind nn b ks
            rw [HEQ.out, HTH.out] at hA
            clear HEQ
            generalize Mb.act kind nn b ks = r at hA hB hbr hln
            obtain ⟨Mb', bq, ev⟩ := r
            simp only at hA hB hbr hln
            have HA := Lib.hid hA
            have HB := Lib.hid hB
            have HBR := Lib.hid hbr
            have HBQ := Lib.hid hln
            clear hA hB hbr hln
            go_wp2_with fail
            refine (HA.out).mono ?_
            rintro e w8 ⟨rfl, Sa8, hd8, hm8, hg8⟩
            have T8 := Lib.hid (T7.out.stepA hd8 hm8 hg8)
            have A8 := Lib.hid (A7.out.mv_ hm8 NS.out.1)
            clear hd8 hm8 hg8 e0 e1 e2 e3
            have hb9 : Below w8.heap.size w8 ((zbW w8).setCells w8.heap.size 0 (bvs bq)) := below_setCells (zbW_below w8) (Nat.le_refl _) 0 (bvs bq)
            have TH8 := Lib.hid (Z64_there w8)
            have T9 := Lib.hid (T8.out.below hb9)
            have A9 := Lib.hid (A8.out.below hb9 A8.out.lt)
            have P9 : Hid (Lies ((zbW w8).setCells w8.heap.size 0 (bvs bq)) w8.heap.size 64 (bvs bq)) := Lib.hid ((Lies.zb w8).set_ (by rw [bvs_len, HBQ.out]))
            have NP9 := Lib.hid (show ¬ Sb w8.heap.size from fun h => by have := T8.out.b.1.lt _ h; omega)
            have e0 := A9.out.cell (j := 0) rfl
            have e1 := A9.out.cell (j := 1) rfl
            have e2 := A9.out.cell (j := 2) rfl
            have e3 := A9.out.cell (j := 3) rfl
            clear hb9
            go_wp2_with (first
              | (with_reducible refine al_block rfl rfl ?_)
              | (with_reducible refine st_block rfl _ _ rfl w8.heap.size 0 bq HBQ rfl rfl TH8.out ?_))
            generalize (zbW w8).setCells w8.heap.size 0 (bvs bq) = w9 at T9 A9 P9 e0 e1 e2 e3 ⊢
            refine (HB.out w9 _ _ T9.out).mono ?_
            rintro e w10 ⟨rfl, Sb10, hd10, hm10, hg10⟩
            have T10 := Lib.hid (T9.out.stepB hd10 hm10 hg10)
            have P10 := Lib.hid (P9.out.mv_ hm10 NP9.out)
            have A10 := Lib.hid (A9.out.mv_ hm10 NS.out.2)
            clear hd10 hm10 hg10 e0 e1 e2 e3
            have hb11 : Below w10.heap.size w10 ((zbW w10).setCells w10.heap.size 0 (bvs bq)) := below_setCells (zbW_below w10) (Nat.le_refl _) 0 (bvs bq)
            have TH10 := Lib.hid (Z64_there w10)
            have T11 := Lib.hid (T10.out.below hb11)
            have P11 := Lib.hid (P10.out.below hb11 P10.out.lt)
            have A11 := Lib.hid (A10.out.below hb11 A10.out.lt)
            have Q11 : Hid (Lies ((zbW w10).setCells w10.heap.size 0 (bvs bq)) w10.heap.size 64 (bvs bq)) := Lib.hid ((Lies.zb w10).set_ (by rw [bvs_len, HBQ.out]))
            clear hb11
            have hE := fun w => blk_same HBQ.out w
            have hne : (ev != ev) = false := by simp
            have e0 := A11.out.cell (j := 0) rfl
            have e1 := A11.out.cell (j := 1) rfl
            have e2 := A11.out.cell (j := 2) rfl
            have e3 := A11.out.cell (j := 3) rfl
            go_wp2_with (first
              | (with_reducible refine al_block rfl rfl ?_)
              | (with_reducible refine st_block rfl _ _ rfl w10.heap.size 0 bq HBQ rfl rfl TH10.out ?_)
              | (with_reducible refine ld_block rfl (.tmp 16) rfl w8.heap.size 0 bq HBQ rfl P11.out.rg ?_)
              | (with_reducible refine ld_block rfl (.tmp 18) rfl w10.heap.size 0 bq HBQ rfl Q11.out.rg ?_))
            go_roundw
            case rel =>
              refine ⟨k + 1, fn - 1, fd, by omega, by go_num, by first | rfl | go_num, rfl, Lib.hid ⟨Sa8, Sb10, Mb', ?_, ?_, ?_, ?_, ?_, ?_, ?_, ?_⟩⟩
              · exact T11.out
              · exact HBR.out.1
              · rw [HBR.out.2.1]; exact H6.out
              · have := HBR.out; have := HOW.out; omega
              · have := HBR.out; have := HOW.out; omega
              · intro he; have := HF0.out he; omega
              · omega
              · omega
            case measure => simp [intOf]; omega
        · have h' : (kd == 3) = false := by simpa using h
          have g0' : decide (0 ≤ nn) = true := by simpa using g0
          have g1' : decide (nn < 6) = false := by simpa using g1
          have HTH : Hid (thB Mb.safe.length kind nn = false) := Lib.hid (by rw [thB_0 (by rw [HKD.out]; exact h), H6.out]; simp [hasB]; omega)
          have HEQ := Lib.hid (fa_both (i := nn) (b := b) (ks := ks) (fn := fn) (fd := fd) HBA.out HK3.out (.inl HTH.out))
          have hA := happens_dk kind nn b (ks := ks) (HKS.out.below T7.out.a.2.2) T7.out.a.2.2.size T7.out.a.1 (by have h1 := Mz.ops Mb fd fn; have h2 := HOW.out; omega) (by have h1 := Mz.wt Mb fd fn; have h2 := HOW.out; rw [h1]; omega) HN.out
          have hB := fun (w' : World) (S' : Nat → Prop) (M' : Mo) (t : Tw W w' ga S' M' gb Sb Mb) => happens_dk kind nn b (ks := ks) (HKS.out.below t.b.2.2) t.b.2.2.size t.b.1 (by have h2 := HOW.out; omega) (by have h2 := HOW.out; omega) HN.out
          have hbr := HBA.out.act (i := nn) (b := b) (ks := ks) HK3.out
          have hln := act_len T7.out.b.1.ok kind nn b ks
          rw [HEQ.out, HTH.out] at hA
          clear HEQ
          generalize Mb.act kind nn b ks = r at hA hB hbr hln
          obtain ⟨Mb', bq, ev⟩ := r
          simp only at hA hB hbr hln
          have HA := Lib.hid hA
          have HB := Lib.hid hB
          have HBR := Lib.hid hbr
          have HBQ := Lib.hid hln
          clear hA hB hbr hln
          go_wp2_with fail
          refine (HA.out).mono ?_
          rintro e w8 ⟨rfl, Sa8, hd8, hm8, hg8⟩
          have T8 := Lib.hid (T7.out.stepA hd8 hm8 hg8)
          have A8 := Lib.hid (A7.out.mv_ hm8 NS.out.1)
          clear hd8 hm8 hg8 e0 e1 e2 e3
          have hb9 : Below w8.heap.size w8 ((zbW w8).setCells w8.heap.size 0 (bvs bq)) := below_setCells (zbW_below w8) (Nat.le_refl _) 0 (bvs bq)
          have TH8 := Lib.hid (Z64_there w8)
          have T9 := Lib.hid (T8.out.below hb9)
          have A9 := Lib.hid (A8.out.below hb9 A8.out.lt)
          have P9 : Hid (Lies ((zbW w8).setCells w8.heap.size 0 (bvs bq)) w8.heap.size 64 (bvs bq)) := Lib.hid ((Lies.zb w8).set_ (by rw [bvs_len, HBQ.out]))
          have NP9 := Lib.hid (show ¬ Sb w8.heap.size from fun h => by have := T8.out.b.1.lt _ h; omega)
          have e0 := A9.out.cell (j := 0) rfl
          have e1 := A9.out.cell (j := 1) rfl
          have e2 := A9.out.cell (j := 2) rfl
          have e3 := A9.out.cell (j := 3) rfl
          clear hb9
          go_wp2_with (first
            | (with_reducible refine al_block rfl rfl ?_)
            | (with_reducible refine st_block rfl _ _ rfl w8.heap.size 0 bq HBQ rfl rfl TH8.out ?_))
          generalize (zbW w8).setCells w8.heap.size 0 (bvs bq) = w9 at T9 A9 P9 e0 e1 e2 e3 ⊢
          refine (HB.out w9 _ _ T9.out).mono ?_
          rintro e w10 ⟨rfl, Sb10, hd10, hm10, hg10⟩
          have T10 := Lib.hid (T9.out.stepB hd10 hm10 hg10)
          have P10 := Lib.hid (P9.out.mv_ hm10 NP9.out)
          have A10 := Lib.hid (A9.out.mv_ hm10 NS.out.2)
          clear hd10 hm10 hg10 e0 e1 e2 e3
          have hb11 : Below w10.heap.size w10 ((zbW w10).setCells w10.heap.size 0 (bvs bq)) := below_setCells (zbW_below w10) (Nat.le_refl _) 0 (bvs bq)
          have TH10 := Lib.hid (Z64_there w10)
          have T11 := Lib.hid (T10.out.below hb11)
          have P11 := Lib.hid (P10.out.below hb11 P10.out.lt)
          have A11 := Lib.hid (A10.out.below hb11 A10.out.lt)
          have Q11 : Hid (Lies ((zbW w10).setCells w10.heap.size 0 (bvs bq)) w10.heap.size 64 (bvs bq)) := Lib.hid ((Lies.zb w10).set_ (by rw [bvs_len, HBQ.out]))
          clear hb11
          have hE := fun w => blk_same HBQ.out w
          have hne : (ev != ev) = false := by simp
          have e0 := A11.out.cell (j := 0) rfl
          have e1 := A11.out.cell (j := 1) rfl
          have e2 := A11.out.cell (j := 2) rfl
          have e3 := A11.out.cell (j := 3) rfl
          go_wp2_with (first
            | (with_reducible refine al_block rfl rfl ?_)
            | (with_reducible refine st_block rfl _ _ rfl w10.heap.size 0 bq HBQ rfl rfl TH10.out ?_)
            | (with_reducible refine ld_block rfl (.tmp 16) rfl w8.heap.size 0 bq HBQ rfl P11.out.rg ?_)
            | (with_reducible refine ld_block rfl (.tmp 18) rfl w10.heap.size 0 bq HBQ rfl Q11.out.rg ?_))
          go_roundw
          case rel =>
            refine ⟨k + 1, fn, fd, by omega, by go_num, by first | rfl | go_num, rfl, Lib.hid ⟨Sa8, Sb10, Mb', ?_, ?_, ?_, ?_, ?_, ?_, ?_, ?_⟩⟩
            · exact T11.out
            · exact HBR.out.1
            · rw [HBR.out.2.1]; exact H6.out
            · have := HBR.out; have := HOW.out; omega
            · have := HBR.out; have := HOW.out; omega
            · intro he; have := HF0.out he; omega
            · omega
            · omega
          case measure => simp [intOf]; omega
        · have h' : (kd == 3) = false := by simpa using h
          have g0' : decide (0 ≤ nn) = false := by simpa using g0
          have HTH : Hid (thB Mb.safe.length kind nn = false) := Lib.hid (by rw [thB_0 (by rw [HKD.out]; exact h), H6.out]; simp [hasB]; omega)
          have HEQ := Lib.hid (fa_both (i := nn) (b := b) (ks := ks) (fn := fn) (fd := fd) HBA.out HK3.out (.inl HTH.out))
          have hA := happens_dk kind nn b (ks := ks) (HKS.out.below T7.out.a.2.2) T7.out.a.2.2.size T7.out.a.1 (by have h1 := Mz.ops Mb fd fn; have h2 := HOW.out; omega) (by have h1 := Mz.wt Mb fd fn; have h2 := HOW.out; rw [h1]; omega) HN.out
          have hB := fun (w' : World) (S' : Nat → Prop) (M' : Mo) (t : Tw W w' ga S' M' gb Sb Mb) => happens_dk kind nn b (ks := ks) (HKS.out.below t.b.2.2) t.b.2.2.size t.b.1 (by have h2 := HOW.out; omega) (by have h2 := HOW.out; omega) HN.out
          have hbr := HBA.out.act (i := nn) (b := b) (ks := ks) HK3.out
          have hln := act_len T7.out.b.1.ok kind nn b ks
          rw [HEQ.out, HTH.out] at hA
          clear HEQ
          generalize Mb.act kind nn b ks = r at hA hB hbr hln
          obtain ⟨Mb', bq, ev⟩ := r
          simp only at hA hB hbr hln
          have HA := Lib.hid hA
          have HB := Lib.hid hB
          have HBR := Lib.hid hbr
          have HBQ := Lib.hid hln
          clear hA hB hbr hln
          go_wp2_with fail
          refine (HA.out).mono ?_
          rintro e w8 ⟨rfl, Sa8, hd8, hm8, hg8⟩
          have T8 := Lib.hid (T7.out.stepA hd8 hm8 hg8)
          have A8 := Lib.hid (A7.out.mv_ hm8 NS.out.1)
          clear hd8 hm8 hg8 e0 e1 e2 e3
          have hb9 : Below w8.heap.size w8 ((zbW w8).setCells w8.heap.size 0 (bvs bq)) := below_setCells (zbW_below w8) (Nat.le_refl _) 0 (bvs bq)
          have TH8 := Lib.hid (Z64_there w8)
          have T9 := Lib.hid (T8.out.below hb9)
          have A9 := Lib.hid (A8.out.below hb9 A8.out.lt)
          have P9 : Hid (Lies ((zbW w8).setCells w8.heap.size 0 (bvs bq)) w8.heap.size 64 (bvs bq)) := Lib.hid ((Lies.zb w8).set_ (by rw [bvs_len, HBQ.out]))
          have NP9 := Lib.hid (show ¬ Sb w8.heap.size from fun h => by have := T8.out.b.1.lt _ h; omega)
          have e0 := A9.out.cell (j := 0) rfl
          have e1 := A9.out.cell (j := 1) rfl
          have e2 := A9.out.cell (j := 2) rfl
          have e3 := A9.out.cell (j := 3) rfl
          clear hb9
          go_wp2_with (first
            | (with_reducible refine al_block rfl rfl ?_)
            | (with_reducible refine st_block rfl _ _ rfl w8.heap.size 0 bq HBQ rfl rfl TH8.out ?_))
          generalize (zbW w8).setCells w8.heap.size 0 (bvs bq) = w9 at T9 A9 P9 e0 e1 e2 e3 ⊢
          refine (HB.out w9 _ _ T9.out).mono ?_
          rintro e w10 ⟨rfl, Sb10, hd10, hm10, hg10⟩
          have T10 := Lib.hid (T9.out.stepB hd10 hm10 hg10)
          have P10 := Lib.hid (P9.out.mv_ hm10 NP9.out)
          have A10 := Lib.hid (A9.out.mv_ hm10 NS.out.2)
          clear hd10 hm10 hg10 e0 e1 e2 e3
          have hb11 : Below w10.heap.size w10 ((zbW w10).setCells w10.heap.size 0 (bvs bq)) := below_setCells (zbW_below w10) (Nat.le_refl _) 0 (bvs bq)
          have TH10 := Lib.hid (Z64_there w10)
          have T11 := Lib.hid (T10.out.below hb11)
          have P11 := Lib.hid (P10.out.below hb11 P10.out.lt)
          have A11 := Lib.hid (A10.out.below hb11 A10.out.lt)
          have Q11 : Hid (Lies ((zbW w10).setCells w10.heap.size 0 (bvs bq)) w10.heap.size 64 (bvs bq)) := Lib.hid ((Lies.zb w10).set_ (by rw [bvs_len, HBQ.out]))
          clear hb11
          have hE := fun w => blk_same HBQ.out w
          have hne : (ev != ev) = false := by simp
          have e0 := A11.out.cell (j := 0) rfl
          have e1 := A11.out.cell (j := 1) rfl
          have e2 := A11.out.cell (j := 2) rfl
          have e3 := A11.out.cell (j := 3) rfl
          go_wp2_with (first
            | (with_reducible refine al_block rfl rfl ?_)
            | (with_reducible refine st_block rfl _ _ rfl w10.heap.size 0 bq HBQ rfl rfl TH10.out ?_)
            | (with_reducible refine ld_block rfl (.tmp 16) rfl w8.heap.size 0 bq HBQ rfl P11.out.rg ?_)
            | (with_reducible refine ld_block rfl (.tmp 18) rfl w10.heap.size 0 bq HBQ rfl Q11.out.rg ?_))
          go_roundw
          case rel =>
            refine ⟨k + 1, fn, fd, by omega, by go_num, by first | rfl | go_num, rfl, Lib.hid ⟨Sa8, Sb10, Mb', ?_, ?_, ?_, ?_, ?_, ?_, ?_, ?_⟩⟩
            · exact T11.out
            · exact HBR.out.1
            · rw [HBR.out.2.1]; exact H6.out
            · have := HBR.out; have := HOW.out; omega
            · have := HBR.out; have := HOW.out; omega
            · intro he; have := HF0.out he; omega
            · omega
            · omega
          case measure => simp [intOf]; omega
    · have hd : decide ((k : Int) < (m : Int)) = false := by simp; omega
      obtain rfl : k = m := by omega
      obtain ⟨Sa, Sb, Mb, hT, hBare, h6, ho, hw, hf0, hf1, hf2⟩ := hrel.out
      have HBA := Lib.hid hBare
      have H6 := Lib.hid h6
      have HOW := Lib.hid (And.intro ho hw)
      have T5 := Lib.hid hT
      clear hT hBare h6 ho hw hf0 hrel
      have HFA := Lib.hid (show ∃ Ma, Ma = (Mz Mb fd fn) ∧ Ma.dead = false ∧ Ma.fu = nope ∧ Ma.safe = Mb.safe ∧ Ma.wt = Mb.wt ∧ Ma.ops = Mb.ops from ⟨_, rfl, by cases fd <;> exact HBA.out.dead, by cases fd <;> exact HBA.out.fu, by cases fd <;> rfl, by cases fd <;> rfl, by cases fd <;> rfl⟩)
      obtain ⟨Ma, hMa, hd1, hd2, hd3, hd4, hd5⟩ := HFA.out
      rw [← hMa] at T5
      have hfl : (Ma.fail (-7)) = ({ Ma with fa := (false, -7) }, 0) := by unfold Mo.fail; rw [hd1]; simp
      have hfc := fail_dk T5.out.a.1 (-7) (by omega)
      rw [hfl] at hfc
      obtain ⟨Mc, hMc⟩ : ∃ Mc : Mo, Mc = { Ma with fa := (false, -7) } := ⟨_, rfl⟩
      rw [← hMc] at hfc
      have HMC := Lib.hid (show Mc.Plain ∧ Mc.safe = Mb.safe ∧ Mc.wt = Mb.wt ∧ Mc.ops = Mb.ops from by subst hMc; exact ⟨⟨hd1, by show Ma.fu.1 = false; rw [hd2]; rfl, rfl⟩, hd3, hd4, hd5⟩)
      have HFC := Lib.hid hfc
      clear hfc hfl hMc hMa hd1 hd2 hd3 hd4 hd5 HFA
      go_wp2_with fail
      refine (HFC.out).mono ?_
      rintro e w8 ⟨rfl, Sc, hd8, hm8, hg8⟩
      have T8 := Lib.hid (T5.out.stepA hd8 hm8 hg8)
      clear hd8 hm8 hg8
      have HHA := Lib.hid (holds_dk T8.out.a.1 HMC.out.1 (by have h1 := HMC.out.2.1; have h2 := H6.out; rw [h1]; omega) (by have h1 := HMC.out.2.2.2; have h2 := HOW.out; omega))
      have hhe : Mc.hld = Mb.hld := funext fun i => hld_same HMC.out.2.1 HMC.out.2.2.1 i
      rw [hhe] at HHA
      clear hhe
      have HF := Lib.hid (hld_len T8.out.b.1.ok)
      go_wp2_with fail
      refine (HHA.out).mono ?_
      rintro e w9 ⟨rfl, Se, hd9, hm9, hg9⟩
      have T9 := Lib.hid (T8.out.stepA hd9 hm9 hg9)
      clear hd9 hm9 hg9
      have hb10 : Below w9.heap.size w9 ((w9.alloc (.cells Z6 50)).setCells w9.heap.size 0 (bvs (sixB Mb.hld))) := below_setCells ((Below.refl _ _).alloc (Nat.le_refl _) _) (Nat.le_refl _) _ _
      have TH9 := Lib.hid (rowIs_there (Z6_new w9) 0 384 (by omega))
      have T10 := Lib.hid (T9.out.below hb10)
      have R10 := Lib.hid (six_set HF.out TH9.out)
      have NS10 := Lib.hid (show ¬ Sb w9.heap.size from fun h => by have := T9.out.b.1.lt _ h; omega)
      have LT10 := Lib.hid (show w9.heap.size < ((w9.alloc (.cells Z6 50)).setCells w9.heap.size 0 (bvs (sixB Mb.hld))).heap.size from by rw [size_setCells]; simp)
      clear hb10
      go_wp2_with (first
        | (with_reducible refine al_six rfl rfl ?_)
        | (with_reducible refine st_six rfl _ _ rfl w9.heap.size Mb.hld HF rfl rfl TH9.out ?_))
      generalize (w9.alloc (.cells Z6 50)).setCells w9.heap.size 0 (bvs (sixB Mb.hld)) = w10 at T10 R10 LT10 ⊢
      have HHB := Lib.hid (holds_dk T10.out.b.1 HBA.out.plain (by have := H6.out; omega) (by have h2 := HOW.out; omega))
      refine (HHB.out).mono ?_
      rintro e w11 ⟨rfl, Sf, hd11, hm11, hg11⟩
      have T11 := Lib.hid (T10.out.stepB hd11 hm11 hg11)
      have R11 := Lib.hid (rangeAt_keep R10.out (hm11.block _ LT10.out NS10.out))
      have LT11 := Lib.hid (Nat.lt_of_lt_of_le LT10.out hm11.size)
      clear hd11 hm11 hg11
      have hb12 : Below w11.heap.size w11 ((w11.alloc (.cells Z6 50)).setCells w11.heap.size 0 (bvs (sixB Mb.hld))) := below_setCells ((Below.refl _ _).alloc (Nat.le_refl _) _) (Nat.le_refl _) _ _
      have TH11 := Lib.hid (rowIs_there (Z6_new w11) 0 384 (by omega))
      have T12 := Lib.hid (T11.out.below hb12)
      have Q12 := Lib.hid (six_set HF.out TH11.out)
      have R12 := Lib.hid (rangeAt_keep R11.out (hb12.block _ LT11.out))
      clear hb12
      have hE := fun w => six_eq HF.out w
      have HPA := Lib.hid (fun w' (hb : Below ((w11.alloc (.cells Z6 50)).setCells w11.heap.size 0 (bvs (sixB Mb.hld))).heap.size _ w') => pend_dk (T12.out.below hb).a.1 (by have h1 := HMC.out.2.2.1; have h2 := HOW.out; show Mc.wt.length ≤ _; rw [h1]; omega))
      have HPB := Lib.hid (fun w' (hb : Below ((w11.alloc (.cells Z6 50)).setCells w11.heap.size 0 (bvs (sixB Mb.hld))).heap.size _ w') => pend_dk (T12.out.below hb).b.1 (by have h2 := HOW.out; show Mb.wt.length ≤ _; omega))
      go_wp2_with (first
        | (with_reducible refine al_six rfl rfl ?_)
        | (with_reducible refine st_six rfl _ _ rfl w11.heap.size Mb.hld HF rfl rfl TH11.out ?_)
        | (with_reducible refine ld_six rfl (.tmp 20) rfl w9.heap.size Mb.hld HF rfl R12.out ?_)
        | (with_reducible refine ld_six rfl (.tmp 22) rfl w11.heap.size Mb.hld HF rfl Q12.out ?_))
      refine (HPA.out _ (Below.refl _ _)).mono ?_
      rintro e w13 ⟨A1, n1, c1, rfl, ho1, hn1, hb13⟩
      have S1 : Hid (SlV w13 w13.heap.size A1 n1 c1 (ints (secsOf Mb))) := Lib.hid (by have h := own_slv ho1; rw [← show secsOf Mc = secsOf Mb by unfold secsOf; rw [HMC.out.2.2.1]]; exact h)
      have B13 := Lib.hid hb13
      clear ho1 hn1 hb13
      go_wp2_with fail
      refine (HPB.out _ B13.out).mono ?_
      rintro e w14 ⟨A2, n2, c2, rfl, ho2, hn2, hb14⟩
      have S2 : Hid (SlV w14 w14.heap.size A2 n2 c2 (ints (secsOf Mb))) := Lib.hid (own_slv ho2)
      have B14 := Lib.hid hb14
      clear ho2 hn2 hb14
      go_wp2_with fail
      refine (equal_one (S1.out.below B14.out) S2.out).mono ?_
      rintro e w15 ⟨rfl, hb15⟩
      have B15 := Lib.hid hb15
      clear hb15
      go_wp2
      go_ret
      exact ⟨rfl, ((T12.out.a.2.2.trans (B13.out.mono T12.out.a.2.2.size)).trans (B14.out.mono (Nat.le_trans T12.out.a.2.2.size B13.out.size))).trans (B15.out.mono (Nat.le_trans (Nat.le_trans T12.out.a.2.2.size B13.out.size) B14.out.size))⟩

theorem own : ownKnob Try.prog.godebug = none := by kernel_rfl
theorem laidOut : laidOutB Try.prog = true := by kernel_rfl

set_option maxRecDepth 100000 in
theorem lifted (os : Os) (started : os.Started) (H : Type) (enc : TypeId × Value → H) :
    ReturnsInHanded {} Try.checked os 6 .any (Rows.diskFaultSpec.pre6 enc Try.prog Try.f6 Rows.diskFaultRow.domain false) (Rows.diskFaultSpec.post enc Try.prog Try.f6 false true false false) := by
  refine returnsInHanded_of_change (C := Try.checked) own started (by kernel_rfl) Try.func6
    (ChangeSpec.witness6 (enc := enc) (C := Try.checked) false ⟨#[], #[.slice none 0 0, .slice none 0 0, .int .i64 0], []⟩ 8 (by kernel_rfl) (by kernel_rfl) (by kernel_rfl) (by kernel_rfl)) ?_
  intro W base args ds gs before hval0 hW hcnd _
  have hval : ∀ (j : Nat) t v, Try.f6.params[j]? = some t → args[j]? = some v → Value.okWide Try.prog W .any base t v := hval0
  have hW' := hW
  obtain ⟨p, q, hA0, hV, rfl, hfz, hnd⟩ := hW
  have hA : DataW.TrodAll enc Try.prog W 0 (fun _ => true) true Try.f6.params.toList args.toList ds p := hA0
  rw [Try.params6] at hA hval
  obtain ⟨v0, vs0, d0, ds0, p0, q0, hargs, rfl, rfl, h0, r0⟩ := trodAll_cons hA
  obtain ⟨v1, vs1, d1, ds1, p1, q1, rfl, rfl, rfl, h1, r1⟩ := trodAll_cons r0
  obtain ⟨v2, vs2, d2, ds2, p2, q2, rfl, rfl, rfl, h2, r2⟩ := trodAll_cons r1
  obtain ⟨rfl, rfl, rfl⟩ := trodAll_nil r2
  obtain rfl : args = #[v0, v1, v2] := by cases args; simp_all
  obtain ⟨rfl, rfl⟩ := trodVars_none hV
  have k0 := h0
  have lt0 : ∀ x ∈ p0, x.block < W.heap.size := by obtain ⟨m, hm⟩ := k0; exact DataW.trod_lt m _ _ _ hm
  obtain ⟨A0, n0, c0, l0, rfl, s0⟩ := acts_arg (hval 0 22 v0 rfl rfl) h0
  have k1 := h1
  have lt1 : ∀ x ∈ p1, x.block < W.heap.size := by obtain ⟨m, hm⟩ := k1; exact DataW.trod_lt m _ _ _ hm
  obtain ⟨A1, n1, c1, l1, rfl, s1⟩ := acts_arg (hval 1 22 v1 rfl rfl) h1
  have k2 := h2
  have lt2 : ∀ x ∈ p2, x.block < W.heap.size := by obtain ⟨m, hm⟩ := k2; exact DataW.trod_lt m _ _ _ hm
  obtain ⟨a2, rfl, e2, f2, w2⟩ := open_int Try.underlying3 (hval 2 3 v2 rfl rfl) h2
  have b2 := bounds_i64 w2
  clear hA0 hval0
  refine (walk A0 n0 c0 l0 A1 n1 c1 l1 a2 W s0 s1).mono fun e W' ⟨he, bel⟩ => ?_
  subst he
  exact ⟨_, rfl, _, _, _, [], _, [], hW', trodAll_mk1 (shut_bool Try.underlying4 _), (trodAll_cons_mk (Below.trod laidOut (by kernel_rfl) (of_decide_eq_true (by kernel_rfl)) k0 bel lt0) (trodAll_cons_mk (Below.trod laidOut (by kernel_rfl) (of_decide_eq_true (by kernel_rfl)) k1 bel lt1) (trodAll_cons_mk (Below.trod laidOut (by kernel_rfl) (of_decide_eq_true (by kernel_rfl)) k2 bel lt2) trodAll_mk0))), rfl, bel.frame _, fun h => by cases h⟩

theorem over : Rows.diskFaultRow.holds Try.pinned (OpenSpec.ofChange Rows.diskFaultSpec) :=
  OpenClaim.holds_of_wide 6 Try.f6 rfl rfl rfl rfl rfl rfl rfl ⟨rfl, rfl, rfl, rfl, rfl⟩ rfl rfl rfl rfl rfl (by kernel_rfl) Try.func6 (by kernel_rfl)
    (of_decide_eq_true (by kernel_rfl)) (by unfold Func.isWrapper; first | (rw [if_pos (by decide +kernel)]; kernel_rfl) | (rw [if_neg (by decide +kernel)]; exact ⟨rfl, rfl⟩))
    (fun os started H enc _ => lifted os started H enc)

theorem proved : Rows.DiskFaultSaid := over
#print axioms proved
end Go.Proofs.Ytphpllnhbffodaa.diskFault
