/-
  PROVED HERE: whatever acts l, confluencelaw02.DiskLatest(l) returns true: as long as the power stays a sector holds what was written last, and so many writes wait as were done since the last sync. No condition.
-/
import Derived.Test.YtclgkmaeolnlaaaLawe
import Derived.Test.YtclgkmaeolnlaaaRows
import Derived.ProofKit
import Derived.OpenShut
import Derived.ChangeOld
import Derived.Carry
namespace Go.Proofs.Ytclgkmaeolnlaaa.diskLatest
open Go.ChangeShapes Go.WideShapes Go.ChangeAt Go.RowKit
set_option linter.unusedVariables false

set_option linter.unusedSimpArgs false
/-- A store into a block that is not the disk's. -/
theorem live_set {W w : World} {g : Nat} {S : Nat → Prop} {M : Mo} (h : Live W w g S M) {b : Nat} (hnb : ¬ S b) (hWb : W.heap.size ≤ b) (o : Nat) (vs : List Value) : Live W (w.setCells b o vs) g S M :=
  ⟨h.1.keep (Nat.le_of_eq (size_setCells _ _ _ _).symm) fun k hk => (setCells_os _ _ _ _).2.2.2.2 k (fun e => hnb (e ▸ hk)), h.2.1, below_setCells h.2.2 hWb _ _⟩
/-- While the acts are done. -/
def Rel (W : World) (g b5 : Nat) (k : Nat) (M : Mo) (wr : World) : Prop :=
  ∃ S, Live W wr g S M ∧ M.Plain ∧ M.safe.length = 6 ∧ M.ops ≤ k ∧ (M.wt.length : Int) ≤ k ∧ wr.rowIs b5 59 384 (sixF M.hld) ∧ ¬ S b5 ∧ W.heap.size ≤ b5
theorem Rel.below {W wr w' : World} {g b5 k : Nat} {M : Mo} (h : Rel W g b5 k M wr) (hb : Below wr.heap.size wr w') : Rel W g b5 k M w' := by
  obtain ⟨S, h1, h2, h3, h4, h5, h6, h7, h8⟩ := h
  exact ⟨S, h1.below hb, h2, h3, h4, h5, h6.of_block (hb.block _ h6.lt), h7, h8⟩
theorem Rel.weak {W wr : World} {g b5 k : Nat} {M : Mo} (h : Rel W g b5 k M wr) : Rel W g b5 (k + 1) M wr := by
  obtain ⟨S, h1, h2, h3, h4, h5, h6, h7, h8⟩ := h
  exact ⟨S, h1, h2, h3, by omega, by omega, h6, h7, h8⟩
theorem Rel.after {W w3 w4 : World} {g b5 k : Nat} {S S4 : Nat → Prop} {M M' : Mo} {f : Nat → List UInt8} (hL : Live W w3 g S M) (hd : Dk w4 g S4 M') (hm : Mv S w3 w4) (hg : Grow S S4 w3) (hrow : w3.rowIs b5 59 384 (sixF f)) (hf : ∀ i, M'.hld i = f i)
    (hnb : ¬ S b5) (hWb : W.heap.size ≤ b5) (hP : M'.Plain) (h6 : M'.safe.length = 6) (hops : M'.ops ≤ ((k + 1 : Nat) : Int)) (hwt : (M'.wt.length : Int) ≤ ((k + 1 : Nat) : Int)) : Rel W g b5 (k + 1) M' w4 :=
  ⟨S4, hL.step hd hm hg, hP, h6, hops, hwt, (hrow.of_block (hm.block b5 hrow.lt hnb)).congr fun j _ => by unfold sixF; rw [hf], fun hS => by
    rcases hg _ hS with x | x
    · exact hnb x
    · have := hrow.lt; omega, hWb⟩
/-- What a round has when the act's kind is known. -/
abbrev boxA (wr : World) (a : Ac) : World := wr.alloc (.cells #[.int .i64 a.kind, .int .i64 a.n, .int .u8 (a.b.toNat : Int), .slice a.A a.l a.c] 36)

set_option maxRecDepth 100000 in
set_option maxHeartbeats 40000000 in
theorem walk (A : Option Addr) (n c : Nat) (l : List Ac) (W : World) (hs : Acts W W.heap.size A n c l) :
    Calls Try.prog 9 #[.slice A n c] W fun e w' => e = .returned (.bool true) ∧ Below W.heap.size W w' := by
  have hsm := some_any A n c hs.cap hs.max
  obtain ⟨m, hm⟩ : ∃ m, min n 100 = m := ⟨_, rfl⟩
  have hm100 : m ≤ 100 := by omega
  have hsk := hs.take (k := m) (by omega)
  obtain ⟨al, has⟩ : ∃ al, l.take m = al := ⟨_, rfl⟩
  rw [has] at hsk
  rw [hm] at hsm
  have HS := Lib.hid hsk
  have HSM := Lib.hid hsm
  clear hs hsm hsk has hm
  go_enter Try.func9, Try.ntmps9
  go_wp2_with fail
  refine (wakes_any _).mono ?_
  rintro e w1 ⟨rfl, hb1⟩
  have HB1 := Lib.hid hb1
  clear hb1
  go_wp2_with fail
  refine (new_any 6 (by omega) (by omega) w1).mono ?_
  rintro e w2 ⟨g, S2, rfl, hd2, hS2, hb2⟩
  have R0 : Hid (Rel W g w2.heap.size 0 (Mo.new 6) (w2.alloc (.cells Z6 59))) := Lib.hid (by
    have hb3 : Below w2.heap.size w2 (w2.alloc (.cells Z6 59)) := (Below.refl _ _).alloc (Nat.le_refl _) _
    refine ⟨S2, ⟨hd2.below hb3, fun b hb => Nat.le_trans HB1.out.size (hS2 b hb), (HB1.out.trans (hb2.mono HB1.out.size)).trans (hb3.mono (Nat.le_trans HB1.out.size hb2.size))⟩, ⟨rfl, rfl, rfl⟩, by simp [Mo.new], by simp [Mo.new], by simp [Mo.new], (Z6_new w2).congr fun j hj => ?_, fun hS => by have := hd2.lt _ hS; omega, Nat.le_trans HB1.out.size hb2.size⟩
    have e : ∀ i, (Mo.new 6).hld i = Zb := fun i => by
      unfold Mo.hld
      split
      · rename_i hi
        have hi' : i < 6 := by simpa [Mo.new] using hi
        show (List.replicate 6 Zb).getD i [] = Zb
        rw [getD_of_lt (by simpa using hi'), List.getElem_replicate]
      · rfl
    unfold sixF
    rw [e, getD_of_lt (by rw [Zb_len]; omega), Zb_at])
  clear hd2 hS2 hb2
  go_wp2_with (first
    | (with_reducible refine al_six rfl rfl ?_)
    | (go_at_call 14; refine (HSM.out _).mono ?_; rintro e w3 ⟨rfl, rfl⟩))
  go_loopw [6, 23] (fun x i wr => ∃ (k : Nat) (M : Mo), k ≤ m ∧ i = .int .i64 (k : Int) ∧ x = .int .i64 (M.wt.length : Int) ∧ Hid (Rel W g w2.heap.size k M wr)) (fun _ i _ => m - (intOf i).toNat)
  case atStart => exact ⟨0, Mo.new 6, Nat.zero_le _, rfl, rfl, R0⟩
  case round =>
    obtain ⟨k, M, hk, rfl, rfl, hrel⟩ := hrel
    by_cases hlt : k < m
    · have hd : decide ((k : Int) < (m : Int)) = true := by simp; omega
      have hk0 : (0 : Int) ≤ (k : Int) := Int.natCast_nonneg _
      have hk1 : (k : Int) < (m : Int) := by omega
      have hlas : al.length = m := HS.out.len
      obtain ⟨bb, oo, hA, hbb, hcells⟩ := HS.out.pos (by omega)
      have hcell := hcells k (by omega)
      obtain ⟨a, ha⟩ : ∃ a, al[k]'(by omega) = a := ⟨_, rfl⟩
      have haok := HS.out.ok a (by rw [← ha]; exact List.getElem_mem _)
      rw [ha] at hcell
      have hbw : Below W.heap.size W wr := by obtain ⟨S, h1, _⟩ := hrel.out; exact h1.2.2
      have hcw := rangeAt_keep hcell (hbw.block bb hbb)
      subst hA
      obtain ⟨kind, nn, b, Ak, lk, ck, ks⟩ := a
      have q0 : wr.cell? ⟨bb, oo + k * 4, none⟩ = some (.int .i64 kind) := hcw 0 _ rfl
      have q1 : wr.cell? ⟨bb, oo + k * 4 + 1, none⟩ = some (.int .i64 nn) := hcw 1 _ rfl
      have q2 : wr.cell? ⟨bb, oo + k * 4 + 2, none⟩ = some (.int .u8 (b.toNat : Int)) := hcw 2 _ rfl
      have q3 : wr.cell? ⟨bb, oo + k * 4 + 3, none⟩ = some (.slice Ak lk ck) := hcw 3 _ rfl
      have hqb : bb < wr.heap.size := Nat.lt_of_lt_of_le hbb hbw.size
      have HKS : Hid (SlV W W.heap.size Ak lk ck (bls ks)) := Lib.hid haok.ks
      have HN := Lib.hid haok.n
      have HBW := Lib.hid hbw
      have hbx : Below wr.heap.size wr (boxA wr ⟨kind, nn, b, Ak, lk, ck, ks⟩) := (Below.refl _ _).alloc (Nat.le_refl _) _
      have RX := Lib.hid (hrel.out.below hbx)
      have BX := Lib.hid (Bl.new wr 36 [.int .i64 kind, .int .i64 nn, .int .u8 (b.toNat : Int), .slice Ak lk ck])
      clear hcell hcells ha haok hbw hcw hbx hlas
      go_wp2_with fail
      refine (which_any kind nn b Ak lk ck _).mono ?_
      rintro e w3 ⟨rfl, hb3⟩
      have RX3 := Lib.hid (RX.out.below hb3)
      have BX3 := Lib.hid (BX.out.below hb3 (by simp))
      have LT3 := Lib.hid (show wr.heap.size < w3.heap.size from Nat.lt_of_lt_of_le (by simp) hb3.size)
      have e0 := BX3.out.cell 0
      have e1 := BX3.out.cell 1
      have e2 := BX3.out.cell 2
      have e3 := BX3.out.cell 3
      simp only [List.getElem?_cons_zero, List.getElem?_cons_succ] at e0 e1 e2 e3
      clear hb3
      rcases whichI_cases kind with hkd | hkd | hkd | hkd | hkd | hkd | hkd
      · have HKD := Lib.hid hkd
        rw [hkd]
        clear hkd
        obtain ⟨S, hL, hP, h6, hops, hwt, hrow, hnb, hWb⟩ := RX3.out
        have HL := Lib.hid hL
        have HP := Lib.hid hP
        have H6 := Lib.hid h6
        have HROW := Lib.hid hrow
        have HNB := Lib.hid hnb
        have HWB := Lib.hid hWb
        have HO := Lib.hid (And.intro hops hwt)
        clear hL hP h6 hops hwt hrow hnb hWb
        go_wp2_with fail
        refine (happens_dk kind nn b (ks := ks) (HKS.out.below HL.out.2.2) HL.out.2.2.size HL.out.1 (by have := HO.out; omega) (by have := HO.out; omega) HN.out).mono ?_
        rintro e w5 ⟨rfl, S5, hd5, hm5, hg5⟩
        obtain ⟨hP', hs', hw', ho'⟩ := act_read HP.out (M := M) (kind := kind) (n := nn) b ks HKD.out
        have h6' : (M.act kind nn b ks).1.safe.length = 6 := by rw [hs']; exact H6.out
        have hwl : (M.act kind nn b ks).1.wt.length = M.wt.length := by rw [hw']
        have R5 := Lib.hid (Rel.after (k := k) HL.out hd5 hm5 hg5 HROW.out (fun i => hld_same hs' hw' i) HNB.out HWB.out hP' h6' (by have := HO.out; omega) (by have := HO.out; omega))
        have hpd := pending_dk hd5 (by have := HO.out; omega)
        rw [hwl] at hpd
        have HPD := Lib.hid hpd
        clear hd5 hm5 hg5 hpd
        go_wp2_with fail
        refine (HPD.out).mono ?_
        rintro e w6 ⟨v6, rfl, ho6, hb6⟩
        obtain ⟨A6, c6, rfl⟩ := own_form ho6
        have R6 := Lib.hid (R5.out.below hb6)
        clear ho6 hb6
        have hwv : wrap64 ((M.wt.length : Int) + 1) = (M.wt.length : Int) + 1 := by have := HO.out; unfold wrap64; omega
        have hwq : ((M.wt.length : Int) + 1 != (M.wt.length : Int) + 1) = false := by simp
        simp only [hwv]
        go_wp2
        go_roundw
        case rel => exact ⟨k + 1, _, by omega, by go_num, by first | (rw [hwl]; first | rfl | go_num | (simp; done)) | go_num, R6⟩
        case measure => simp [intOf]; omega
      · have HKD := Lib.hid hkd
        rw [hkd]
        clear hkd
        obtain ⟨S, hL, hP, h6, hops, hwt, hrow, hnb, hWb⟩ := RX3.out
        have HL := Lib.hid hL
        have HP := Lib.hid hP
        have H6 := Lib.hid h6
        have HROW := Lib.hid hrow
        have HNB := Lib.hid hnb
        have HWB := Lib.hid hWb
        have HO := Lib.hid (And.intro hops hwt)
        clear hL hP h6 hops hwt hrow hnb hWb
        by_cases hn0 : 0 ≤ nn
        · by_cases hn6 : nn < 6
          · have hd1 : decide (0 ≤ nn) = true := by simpa using hn0
            have hd2 : decide (nn < 6) = true := by simpa using hn6
            obtain ⟨x, hx⟩ : ∃ x : Nat, nn = (x : Int) := ⟨nn.toNat, by omega⟩
            subst hx
            have hx6 : x < 6 := by omega
            have HB : Hid (hasB 6 (x : Int) = true) := Lib.hid (by simp [hasB]; omega)
            have HA := Lib.hid (actB_len b)
            have T3 := rowIs_there HROW.out (x * 64) 64 (by omega)
            have hxc : (x : Int) < 6 := hn6
            have hx0 : (0 : Int) ≤ (x : Int) := hn0
            go_wp2
            have hu := Try.underlying38
            have hi : (Try.prog.info? 38).map (·.size) = some (bvs (actB b)).length := size_of HA.out
            have h64 : (bvs (actB b)).length = 64 := by rw [bvs_len, HA.out]
            have hall := bvs_one (actB b)
            have nbx : w2.heap.size ≠ wr.heap.size := fun e => by
              have h1 := HROW.out
              obtain ⟨cs, hcs⟩ := rowIs_blk h1
              exact ty_ne hcs BX3.out (by decide) e
            have HK3 := Lib.hid (show w3.drew.cell? ⟨wr.heap.size, 0, none⟩ = some (.int .i64 kind) ∧ w3.drew.cell? ⟨wr.heap.size, 1, none⟩ = some (.int .i64 (x : Int)) ∧ w3.drew.cell? ⟨wr.heap.size, 2, none⟩ = some (.int .u8 (b.toNat : Int)) ∧ w3.drew.cell? ⟨wr.heap.size, 3, none⟩ = some (.slice Ak lk ck) ∧ w3.drew.there w2.heap.size (x * 64) 64 from ⟨e0, e1, e2, e3, T3⟩)
            go_region_held3 (fun w' => w'.cell? ⟨wr.heap.size, 0, none⟩ = some (.int .i64 kind) ∧ w'.cell? ⟨wr.heap.size, 1, none⟩ = some (.int .i64 (x : Int)) ∧ w'.cell? ⟨wr.heap.size, 2, none⟩ = some (.int .u8 (b.toNat : Int)) ∧ w'.cell? ⟨wr.heap.size, 3, none⟩ = some (.slice Ak lk ck) ∧ w'.there w2.heap.size (x * 64) 64)
              (first | with_reducible exact HK3.out | with_reducible exact HK4.out | with_reducible exact HK5.out)
              ((go_at_call 28; refine (block_any kind (x : Int) b Ak lk ck _).mono ?_; rintro e w4 ⟨rfl, hb4⟩; have HB4 := Lib.hid (show Below w3.heap.size w3 w4 from (Below.refl _ _).drew.trans hb4); have HK4 := Lib.hid (And.intro (cell_of_blk (HB4.out.block _ LT3.out) e0) (And.intro (cell_of_blk (HB4.out.block _ LT3.out) e1) (And.intro (cell_of_blk (HB4.out.block _ LT3.out) e2) (And.intro (cell_of_blk (HB4.out.block _ LT3.out) e3) (there_below T3 HB4.out HROW.out.lt))))); have HK5 := Lib.hid (show (w4.setCells w2.heap.size (x * 64) (bvs (actB b))).cell? ⟨wr.heap.size, 0, none⟩ = some (.int .i64 kind) ∧ (w4.setCells w2.heap.size (x * 64) (bvs (actB b))).cell? ⟨wr.heap.size, 1, none⟩ = some (.int .i64 (x : Int)) ∧ (w4.setCells w2.heap.size (x * 64) (bvs (actB b))).cell? ⟨wr.heap.size, 2, none⟩ = some (.int .u8 (b.toNat : Int)) ∧ (w4.setCells w2.heap.size (x * 64) (bvs (actB b))).cell? ⟨wr.heap.size, 3, none⟩ = some (.slice Ak lk ck) ∧ (w4.setCells w2.heap.size (x * 64) (bvs (actB b))).there w2.heap.size (x * 64) 64 from ⟨(setCells_far (fun e => nbx e.symm) _ _).trans HK4.out.1, (setCells_far (fun e => nbx e.symm) _ _).trans HK4.out.2.1, (setCells_far (fun e => nbx e.symm) _ _).trans HK4.out.2.2.1, (setCells_far (fun e => nbx e.symm) _ _).trans HK4.out.2.2.2.1, World.there_setCells HK4.out.2.2.2.2 _ _ _⟩); clear hb4))
            obtain ⟨k0, k1, k2, k3, _⟩ := HK5.out
            have LW4 := Lib.hid (HL.out.below HB4.out)
            have L4 := Lib.hid (live_set LW4.out HNB.out HWB.out (x * 64) (bvs (actB b)))
            have ROW4 := Lib.hid ((rowIs_setCells w2.heap.size 59 384 (bvs (actB b)) (x * 64) _ _ (HROW.out.of_block (HB4.out.block _ HROW.out.lt))).congr (g := sixF (fun i => if i = x then actB b else M.hld i)) fun j hj => by
              rw [bvs_len, HA.out]
              show _ = bv ((if j / 64 = x then actB b else M.hld (j / 64)).getD (j % 64) 0)
              unfold sixF
              by_cases h1 : x * 64 ≤ j ∧ j < x * 64 + 64
              · rw [if_pos h1, if_pos (by omega), show j % 64 = j - x * 64 by omega]
                have hjl : j - x * 64 < (actB b).length := by rw [HA.out]; omega
                simp [bvs, List.getD_eq_getElem?_getD, hjl]
              · rw [if_neg h1, if_neg (by omega)])
            clear hu hi h64 hall T3 nbx HK3 HK4 HK5 LW4 HB4 BX3 BX RX RX3 e0 e1 e2 e3 q0 q1 q2 q3
            generalize hw9 : w4.setCells w2.heap.size (x * 64) (bvs (actB b)) = w9 at L4 ROW4 k0 k1 k2 k3 ⊢
            clear hw9
            go_wp2_with fail
            refine (happens_dk kind (x : Int) b (ks := ks) (HKS.out.below L4.out.2.2) L4.out.2.2.size L4.out.1 (by have := HO.out; omega) (by have := HO.out; omega) HN.out).mono ?_
            rintro e w5 ⟨rfl, S5, hd5, hm5, hg5⟩
            obtain ⟨hP', hs', hw', ho'⟩ := act_write HP.out (M := M) (kind := kind) (n := (x : Int)) b ks (.inl HKD.out) (by rw [H6.out]; exact HB.out)
            have h6' : (M.act kind (x : Int) b ks).1.safe.length = 6 := by rw [hs']; exact H6.out
            have hwl : (M.act kind (x : Int) b ks).1.wt.length = M.wt.length + 1 := by rw [hw']; simp
            have R5 := Lib.hid (Rel.after (k := k) L4.out hd5 hm5 hg5 ROW4.out (fun i => hld_snoc hs' (by rw [hw', Int.toNat_natCast]) (by rw [H6.out]; exact hx6) i) HNB.out HWB.out hP' h6' (by have := HO.out; omega) (by have := HO.out; omega))
            have hpd := pending_dk hd5 (by have := HO.out; omega)
            rw [hwl] at hpd
            have HPD := Lib.hid hpd
            clear hd5 hm5 hg5 hpd
            go_wp2_with fail
            refine (HPD.out).mono ?_
            rintro e w6 ⟨v6, rfl, ho6, hb6⟩
            obtain ⟨A6, c6, rfl⟩ := own_form ho6
            have R6 := Lib.hid (R5.out.below hb6)
            clear ho6 hb6
            have hwv : wrap64 ((M.wt.length : Int) + 1) = (M.wt.length : Int) + 1 := by have := HO.out; unfold wrap64; omega
            have hwq : ((M.wt.length : Int) + 1 != (M.wt.length : Int) + 1) = false := by simp
            simp only [hwv]
            go_wp2
            go_roundw
            case rel => exact ⟨k + 1, _, by omega, by go_num, by first | (rw [hwl]; first | rfl | go_num | (simp; done)) | go_num, R6⟩
            case measure => simp [intOf]; omega
          · have hd1 : decide (0 ≤ nn) = true := by simpa using hn0
            have hd2 : decide (nn < 6) = false := by simpa using hn6
            have HB : Hid (hasB 6 nn = false) := Lib.hid (by simp [hasB]; omega)
            go_wp2_with fail
            refine (happens_dk kind nn b (ks := ks) (HKS.out.below HL.out.2.2) HL.out.2.2.size HL.out.1 (by have := HO.out; omega) (by have := HO.out; omega) HN.out).mono ?_
            rintro e w5 ⟨rfl, S5, hd5, hm5, hg5⟩
            have hM : (M.act kind nn b ks).1 = M := act_miss HP.out b ks (.inl HKD.out) (by rw [H6.out]; exact HB.out)
            have hP' : (M.act kind nn b ks).1.Plain := by rw [hM]; exact HP.out
            have h6' : (M.act kind nn b ks).1.safe.length = 6 := by rw [hM]; exact H6.out
            have ho' : (M.act kind nn b ks).1.ops = M.ops := by rw [hM]
            have hwl : (M.act kind nn b ks).1.wt.length = M.wt.length := by rw [hM]
            have R5 := Lib.hid (Rel.after (k := k) HL.out hd5 hm5 hg5 HROW.out (fun i => by rw [hM]) HNB.out HWB.out hP' h6' (by have := HO.out; omega) (by have := HO.out; omega))
            have hpd := pending_dk hd5 (by have := HO.out; omega)
            rw [hwl] at hpd
            have HPD := Lib.hid hpd
            clear hd5 hm5 hg5 hpd
            go_wp2_with fail
            refine (HPD.out).mono ?_
            rintro e w6 ⟨v6, rfl, ho6, hb6⟩
            obtain ⟨A6, c6, rfl⟩ := own_form ho6
            have R6 := Lib.hid (R5.out.below hb6)
            clear ho6 hb6
            have hwv : wrap64 ((M.wt.length : Int) + 1) = (M.wt.length : Int) + 1 := by have := HO.out; unfold wrap64; omega
            have hwq : ((M.wt.length : Int) + 1 != (M.wt.length : Int) + 1) = false := by simp
            simp only [hwv]
            go_wp2
            go_roundw
            case rel => exact ⟨k + 1, _, by omega, by go_num, by first | (rw [hwl]; first | rfl | go_num | (simp; done)) | go_num, R6⟩
            case measure => simp [intOf]; omega
        · have hd1 : decide (0 ≤ nn) = false := by simpa using hn0
          have HB : Hid (hasB 6 nn = false) := Lib.hid (by simp [hasB]; omega)
          go_wp2_with fail
          refine (happens_dk kind nn b (ks := ks) (HKS.out.below HL.out.2.2) HL.out.2.2.size HL.out.1 (by have := HO.out; omega) (by have := HO.out; omega) HN.out).mono ?_
          rintro e w5 ⟨rfl, S5, hd5, hm5, hg5⟩
          have hM : (M.act kind nn b ks).1 = M := act_miss HP.out b ks (.inl HKD.out) (by rw [H6.out]; exact HB.out)
          have hP' : (M.act kind nn b ks).1.Plain := by rw [hM]; exact HP.out
          have h6' : (M.act kind nn b ks).1.safe.length = 6 := by rw [hM]; exact H6.out
          have ho' : (M.act kind nn b ks).1.ops = M.ops := by rw [hM]
          have hwl : (M.act kind nn b ks).1.wt.length = M.wt.length := by rw [hM]
          have R5 := Lib.hid (Rel.after (k := k) HL.out hd5 hm5 hg5 HROW.out (fun i => by rw [hM]) HNB.out HWB.out hP' h6' (by have := HO.out; omega) (by have := HO.out; omega))
          have hpd := pending_dk hd5 (by have := HO.out; omega)
          rw [hwl] at hpd
          have HPD := Lib.hid hpd
          clear hd5 hm5 hg5 hpd
          go_wp2_with fail
          refine (HPD.out).mono ?_
          rintro e w6 ⟨v6, rfl, ho6, hb6⟩
          obtain ⟨A6, c6, rfl⟩ := own_form ho6
          have R6 := Lib.hid (R5.out.below hb6)
          clear ho6 hb6
          have hwv : wrap64 ((M.wt.length : Int) + 1) = (M.wt.length : Int) + 1 := by have := HO.out; unfold wrap64; omega
          have hwq : ((M.wt.length : Int) + 1 != (M.wt.length : Int) + 1) = false := by simp
          simp only [hwv]
          go_wp2
          go_roundw
          case rel => exact ⟨k + 1, _, by omega, by go_num, by first | (rw [hwl]; first | rfl | go_num | (simp; done)) | go_num, R6⟩
          case measure => simp [intOf]; omega
      · have HKD := Lib.hid hkd
        rw [hkd]
        clear hkd
        obtain ⟨S, hL, hP, h6, hops, hwt, hrow, hnb, hWb⟩ := RX3.out
        have HL := Lib.hid hL
        have HP := Lib.hid hP
        have H6 := Lib.hid h6
        have HROW := Lib.hid hrow
        have HNB := Lib.hid hnb
        have HWB := Lib.hid hWb
        have HO := Lib.hid (And.intro hops hwt)
        clear hL hP h6 hops hwt hrow hnb hWb
        by_cases hn0 : 0 ≤ nn
        · by_cases hn6 : nn < 6
          · have hd1 : decide (0 ≤ nn) = true := by simpa using hn0
            have hd2 : decide (nn < 6) = true := by simpa using hn6
            obtain ⟨x, hx⟩ : ∃ x : Nat, nn = (x : Int) := ⟨nn.toNat, by omega⟩
            subst hx
            have hx6 : x < 6 := by omega
            have HB : Hid (hasB 6 (x : Int) = true) := Lib.hid (by simp [hasB]; omega)
            have HA := Lib.hid (actB_len b)
            have T3 := rowIs_there HROW.out (x * 64) 64 (by omega)
            have hxc : (x : Int) < 6 := hn6
            have hx0 : (0 : Int) ≤ (x : Int) := hn0
            go_wp2
            have hu := Try.underlying38
            have hi : (Try.prog.info? 38).map (·.size) = some (bvs (actB b)).length := size_of HA.out
            have h64 : (bvs (actB b)).length = 64 := by rw [bvs_len, HA.out]
            have hall := bvs_one (actB b)
            have nbx : w2.heap.size ≠ wr.heap.size := fun e => by
              have h1 := HROW.out
              obtain ⟨cs, hcs⟩ := rowIs_blk h1
              exact ty_ne hcs BX3.out (by decide) e
            have HK3 := Lib.hid (show w3.drew.cell? ⟨wr.heap.size, 0, none⟩ = some (.int .i64 kind) ∧ w3.drew.cell? ⟨wr.heap.size, 1, none⟩ = some (.int .i64 (x : Int)) ∧ w3.drew.cell? ⟨wr.heap.size, 2, none⟩ = some (.int .u8 (b.toNat : Int)) ∧ w3.drew.cell? ⟨wr.heap.size, 3, none⟩ = some (.slice Ak lk ck) ∧ w3.drew.there w2.heap.size (x * 64) 64 from ⟨e0, e1, e2, e3, T3⟩)
            go_region_held3 (fun w' => w'.cell? ⟨wr.heap.size, 0, none⟩ = some (.int .i64 kind) ∧ w'.cell? ⟨wr.heap.size, 1, none⟩ = some (.int .i64 (x : Int)) ∧ w'.cell? ⟨wr.heap.size, 2, none⟩ = some (.int .u8 (b.toNat : Int)) ∧ w'.cell? ⟨wr.heap.size, 3, none⟩ = some (.slice Ak lk ck) ∧ w'.there w2.heap.size (x * 64) 64)
              (first | with_reducible exact HK3.out | with_reducible exact HK4.out | with_reducible exact HK5.out)
              ((go_at_call 28; refine (block_any kind (x : Int) b Ak lk ck _).mono ?_; rintro e w4 ⟨rfl, hb4⟩; have HB4 := Lib.hid (show Below w3.heap.size w3 w4 from (Below.refl _ _).drew.trans hb4); have HK4 := Lib.hid (And.intro (cell_of_blk (HB4.out.block _ LT3.out) e0) (And.intro (cell_of_blk (HB4.out.block _ LT3.out) e1) (And.intro (cell_of_blk (HB4.out.block _ LT3.out) e2) (And.intro (cell_of_blk (HB4.out.block _ LT3.out) e3) (there_below T3 HB4.out HROW.out.lt))))); have HK5 := Lib.hid (show (w4.setCells w2.heap.size (x * 64) (bvs (actB b))).cell? ⟨wr.heap.size, 0, none⟩ = some (.int .i64 kind) ∧ (w4.setCells w2.heap.size (x * 64) (bvs (actB b))).cell? ⟨wr.heap.size, 1, none⟩ = some (.int .i64 (x : Int)) ∧ (w4.setCells w2.heap.size (x * 64) (bvs (actB b))).cell? ⟨wr.heap.size, 2, none⟩ = some (.int .u8 (b.toNat : Int)) ∧ (w4.setCells w2.heap.size (x * 64) (bvs (actB b))).cell? ⟨wr.heap.size, 3, none⟩ = some (.slice Ak lk ck) ∧ (w4.setCells w2.heap.size (x * 64) (bvs (actB b))).there w2.heap.size (x * 64) 64 from ⟨(setCells_far (fun e => nbx e.symm) _ _).trans HK4.out.1, (setCells_far (fun e => nbx e.symm) _ _).trans HK4.out.2.1, (setCells_far (fun e => nbx e.symm) _ _).trans HK4.out.2.2.1, (setCells_far (fun e => nbx e.symm) _ _).trans HK4.out.2.2.2.1, World.there_setCells HK4.out.2.2.2.2 _ _ _⟩); clear hb4))
            obtain ⟨k0, k1, k2, k3, _⟩ := HK5.out
            have LW4 := Lib.hid (HL.out.below HB4.out)
            have L4 := Lib.hid (live_set LW4.out HNB.out HWB.out (x * 64) (bvs (actB b)))
            have ROW4 := Lib.hid ((rowIs_setCells w2.heap.size 59 384 (bvs (actB b)) (x * 64) _ _ (HROW.out.of_block (HB4.out.block _ HROW.out.lt))).congr (g := sixF (fun i => if i = x then actB b else M.hld i)) fun j hj => by
              rw [bvs_len, HA.out]
              show _ = bv ((if j / 64 = x then actB b else M.hld (j / 64)).getD (j % 64) 0)
              unfold sixF
              by_cases h1 : x * 64 ≤ j ∧ j < x * 64 + 64
              · rw [if_pos h1, if_pos (by omega), show j % 64 = j - x * 64 by omega]
                have hjl : j - x * 64 < (actB b).length := by rw [HA.out]; omega
                simp [bvs, List.getD_eq_getElem?_getD, hjl]
              · rw [if_neg h1, if_neg (by omega)])
            clear hu hi h64 hall T3 nbx HK3 HK4 HK5 LW4 HB4 BX3 BX RX RX3 e0 e1 e2 e3 q0 q1 q2 q3
            generalize hw9 : w4.setCells w2.heap.size (x * 64) (bvs (actB b)) = w9 at L4 ROW4 k0 k1 k2 k3 ⊢
            clear hw9
            go_wp2_with fail
            refine (happens_dk kind (x : Int) b (ks := ks) (HKS.out.below L4.out.2.2) L4.out.2.2.size L4.out.1 (by have := HO.out; omega) (by have := HO.out; omega) HN.out).mono ?_
            rintro e w5 ⟨rfl, S5, hd5, hm5, hg5⟩
            obtain ⟨hP', hs', hw', ho'⟩ := act_write HP.out (M := M) (kind := kind) (n := (x : Int)) b ks (.inr HKD.out) (by rw [H6.out]; exact HB.out)
            have h6' : (M.act kind (x : Int) b ks).1.safe.length = 6 := by rw [hs']; exact H6.out
            have hwl : (M.act kind (x : Int) b ks).1.wt.length = M.wt.length + 1 := by rw [hw']; simp
            have R5 := Lib.hid (Rel.after (k := k) L4.out hd5 hm5 hg5 ROW4.out (fun i => hld_snoc hs' (by rw [hw', Int.toNat_natCast]) (by rw [H6.out]; exact hx6) i) HNB.out HWB.out hP' h6' (by have := HO.out; omega) (by have := HO.out; omega))
            have hpd := pending_dk hd5 (by have := HO.out; omega)
            rw [hwl] at hpd
            have HPD := Lib.hid hpd
            clear hd5 hm5 hg5 hpd
            go_wp2_with fail
            refine (HPD.out).mono ?_
            rintro e w6 ⟨v6, rfl, ho6, hb6⟩
            obtain ⟨A6, c6, rfl⟩ := own_form ho6
            have R6 := Lib.hid (R5.out.below hb6)
            clear ho6 hb6
            have hwv : wrap64 ((M.wt.length : Int) + 1) = (M.wt.length : Int) + 1 := by have := HO.out; unfold wrap64; omega
            have hwq : ((M.wt.length : Int) + 1 != (M.wt.length : Int) + 1) = false := by simp
            simp only [hwv]
            go_wp2
            go_roundw
            case rel => exact ⟨k + 1, _, by omega, by go_num, by first | (rw [hwl]; first | rfl | go_num | (simp; done)) | go_num, R6⟩
            case measure => simp [intOf]; omega
          · have hd1 : decide (0 ≤ nn) = true := by simpa using hn0
            have hd2 : decide (nn < 6) = false := by simpa using hn6
            have HB : Hid (hasB 6 nn = false) := Lib.hid (by simp [hasB]; omega)
            go_wp2_with fail
            refine (happens_dk kind nn b (ks := ks) (HKS.out.below HL.out.2.2) HL.out.2.2.size HL.out.1 (by have := HO.out; omega) (by have := HO.out; omega) HN.out).mono ?_
            rintro e w5 ⟨rfl, S5, hd5, hm5, hg5⟩
            have hM : (M.act kind nn b ks).1 = M := act_miss HP.out b ks (.inr HKD.out) (by rw [H6.out]; exact HB.out)
            have hP' : (M.act kind nn b ks).1.Plain := by rw [hM]; exact HP.out
            have h6' : (M.act kind nn b ks).1.safe.length = 6 := by rw [hM]; exact H6.out
            have ho' : (M.act kind nn b ks).1.ops = M.ops := by rw [hM]
            have hwl : (M.act kind nn b ks).1.wt.length = M.wt.length := by rw [hM]
            have R5 := Lib.hid (Rel.after (k := k) HL.out hd5 hm5 hg5 HROW.out (fun i => by rw [hM]) HNB.out HWB.out hP' h6' (by have := HO.out; omega) (by have := HO.out; omega))
            have hpd := pending_dk hd5 (by have := HO.out; omega)
            rw [hwl] at hpd
            have HPD := Lib.hid hpd
            clear hd5 hm5 hg5 hpd
            go_wp2_with fail
            refine (HPD.out).mono ?_
            rintro e w6 ⟨v6, rfl, ho6, hb6⟩
            obtain ⟨A6, c6, rfl⟩ := own_form ho6
            have R6 := Lib.hid (R5.out.below hb6)
            clear ho6 hb6
            have hwv : wrap64 ((M.wt.length : Int) + 1) = (M.wt.length : Int) + 1 := by have := HO.out; unfold wrap64; omega
            have hwq : ((M.wt.length : Int) + 1 != (M.wt.length : Int) + 1) = false := by simp
            simp only [hwv]
            go_wp2
            go_roundw
            case rel => exact ⟨k + 1, _, by omega, by go_num, by first | (rw [hwl]; first | rfl | go_num | (simp; done)) | go_num, R6⟩
            case measure => simp [intOf]; omega
        · have hd1 : decide (0 ≤ nn) = false := by simpa using hn0
          have HB : Hid (hasB 6 nn = false) := Lib.hid (by simp [hasB]; omega)
          go_wp2_with fail
          refine (happens_dk kind nn b (ks := ks) (HKS.out.below HL.out.2.2) HL.out.2.2.size HL.out.1 (by have := HO.out; omega) (by have := HO.out; omega) HN.out).mono ?_
          rintro e w5 ⟨rfl, S5, hd5, hm5, hg5⟩
          have hM : (M.act kind nn b ks).1 = M := act_miss HP.out b ks (.inr HKD.out) (by rw [H6.out]; exact HB.out)
          have hP' : (M.act kind nn b ks).1.Plain := by rw [hM]; exact HP.out
          have h6' : (M.act kind nn b ks).1.safe.length = 6 := by rw [hM]; exact H6.out
          have ho' : (M.act kind nn b ks).1.ops = M.ops := by rw [hM]
          have hwl : (M.act kind nn b ks).1.wt.length = M.wt.length := by rw [hM]
          have R5 := Lib.hid (Rel.after (k := k) HL.out hd5 hm5 hg5 HROW.out (fun i => by rw [hM]) HNB.out HWB.out hP' h6' (by have := HO.out; omega) (by have := HO.out; omega))
          have hpd := pending_dk hd5 (by have := HO.out; omega)
          rw [hwl] at hpd
          have HPD := Lib.hid hpd
          clear hd5 hm5 hg5 hpd
          go_wp2_with fail
          refine (HPD.out).mono ?_
          rintro e w6 ⟨v6, rfl, ho6, hb6⟩
          obtain ⟨A6, c6, rfl⟩ := own_form ho6
          have R6 := Lib.hid (R5.out.below hb6)
          clear ho6 hb6
          have hwv : wrap64 ((M.wt.length : Int) + 1) = (M.wt.length : Int) + 1 := by have := HO.out; unfold wrap64; omega
          have hwq : ((M.wt.length : Int) + 1 != (M.wt.length : Int) + 1) = false := by simp
          simp only [hwv]
          go_wp2
          go_roundw
          case rel => exact ⟨k + 1, _, by omega, by go_num, by first | (rw [hwl]; first | rfl | go_num | (simp; done)) | go_num, R6⟩
          case measure => simp [intOf]; omega
      · have HKD := Lib.hid hkd
        rw [hkd]
        clear hkd
        obtain ⟨S, hL, hP, h6, hops, hwt, hrow, hnb, hWb⟩ := RX3.out
        have HL := Lib.hid hL
        have HP := Lib.hid hP
        have H6 := Lib.hid h6
        have HROW := Lib.hid hrow
        have HNB := Lib.hid hnb
        have HWB := Lib.hid hWb
        have HO := Lib.hid (And.intro hops hwt)
        clear hL hP h6 hops hwt hrow hnb hWb
        go_wp2_with fail
        refine (happens_dk kind nn b (ks := ks) (HKS.out.below HL.out.2.2) HL.out.2.2.size HL.out.1 (by have := HO.out; omega) (by have := HO.out; omega) HN.out).mono ?_
        rintro e w5 ⟨rfl, S5, hd5, hm5, hg5⟩
        obtain ⟨hP', hs', hw', ho', hh'⟩ := act_sync HP.out HL.out.1.ok (kind := kind) (n := nn) b ks HKD.out
        have h6' : (M.act kind nn b ks).1.safe.length = 6 := by rw [hs']; exact H6.out
        have hwl : (M.act kind nn b ks).1.wt.length = 0 := by rw [hw']; rfl
        have R5 := Lib.hid (Rel.after (k := k) HL.out hd5 hm5 hg5 HROW.out hh' HNB.out HWB.out hP' h6' (by have := HO.out; omega) (by have := HO.out; omega))
        have hpd := pending_dk hd5 (by have := HO.out; omega)
        rw [hwl] at hpd
        have HPD := Lib.hid hpd
        clear hd5 hm5 hg5 hpd
        go_wp2_with fail
        refine (HPD.out).mono ?_
        rintro e w6 ⟨v6, rfl, ho6, hb6⟩
        obtain ⟨A6, c6, rfl⟩ := own_form ho6
        have R6 := Lib.hid (R5.out.below hb6)
        clear ho6 hb6
        have hwv : wrap64 ((M.wt.length : Int) + 1) = (M.wt.length : Int) + 1 := by have := HO.out; unfold wrap64; omega
        have hwq : ((M.wt.length : Int) + 1 != (M.wt.length : Int) + 1) = false := by simp
        simp only [hwv]
        go_wp2
        go_roundw
        case rel => exact ⟨k + 1, _, by omega, by go_num, by first | (rw [hwl]; first | rfl | go_num | (simp; done)) | go_num, R6⟩
        case measure => simp [intOf]; omega
      · rw [hkd]
        go_wp2
        go_roundw
        case rel => exact ⟨k + 1, M, by omega, by go_num, rfl, Lib.hid RX3.out.weak⟩
        case measure => simp [intOf]; omega
      · rw [hkd]
        go_wp2
        go_roundw
        case rel => exact ⟨k + 1, M, by omega, by go_num, rfl, Lib.hid RX3.out.weak⟩
        case measure => simp [intOf]; omega
      · rw [hkd]
        go_wp2
        go_roundw
        case rel => exact ⟨k + 1, M, by omega, by go_num, rfl, Lib.hid RX3.out.weak⟩
        case measure => simp [intOf]; omega
    · have hd : decide ((k : Int) < (m : Int)) = false := by simp; omega
      have HREL := hrel
      obtain ⟨S, hL, hP, h6, hops, hwt, hrow, hnb, hWb⟩ := hrel.out
      have HL := Lib.hid hL
      have HF := Lib.hid (hld_len hL.1.ok)
      have HROW := Lib.hid hrow
      have HNB := Lib.hid hnb
      have HH := Lib.hid (holds_dk hL.1 hP (by omega) (by omega))
      clear hL hP h6 hops hwt hrow hnb hrel HREL
      go_wp2_with fail
      refine (HH.out).mono ?_
      rintro e w4 ⟨rfl, hst⟩
      have HBL := Lib.hid (hst.blk HROW.out.lt HNB.out)
      have R5 := Lib.hid (six_range HF.out (HROW.out.of_block HBL.out))
      obtain ⟨S4, hd4, hm4, hg4⟩ := hst
      have L4 := Lib.hid (HL.out.step hd4 hm4 hg4)
      have hb5 : Below w4.heap.size w4 ((w4.alloc (.cells Z6 59)).setCells w4.heap.size 0 (bvs (sixB M.hld))) := below_setCells ((Below.refl _ _).alloc (Nat.le_refl _) _) (Nat.le_refl _) _ _
      have L5 := Lib.hid (L4.out.below hb5)
      have T5 := Lib.hid (rowIs_there (Z6_new w4) 0 384 (by omega))
      have R6 := Lib.hid (six_set HF.out T5.out)
      have R7 := Lib.hid (rangeAt_keep R5.out (hb5.block _ (Nat.lt_of_lt_of_le HROW.out.lt hm4.size)))
      have hE : ∀ w : World, (binOp .eql 59 (.agg (bvs (sixB M.hld)).toArray) (.agg (bvs (sixB M.hld)).toArray)).run Try.prog w = .ok (.bool true) w := fun w => by rw [run_eql_six _ _ (sixB_len _ HF.out) (sixB_len _ HF.out)]; simp
      clear hd4 hm4 hg4 hb5
      go_wp2_with (first
        | (with_reducible refine al_six rfl rfl ?_)
        | (with_reducible refine st_six rfl _ _ rfl w4.heap.size M.hld HF rfl rfl T5.out ?_)
        | (with_reducible refine ld_six rfl (.tmp 10) rfl w4.heap.size M.hld HF rfl R6.out ?_)
        | (with_reducible refine ld_six rfl (.tmp 5) rfl w2.heap.size M.hld HF rfl R7.out ?_))
      go_ret
      exact ⟨rfl, L5.out.2.2⟩

theorem own : ownKnob Try.prog.godebug = none := by kernel_rfl
theorem laidOut : laidOutB Try.prog = true := by kernel_rfl

set_option maxRecDepth 100000 in
theorem lifted (os : Os) (started : os.Started) (H : Type) (enc : TypeId × Value → H) :
    ReturnsInHanded {} Try.checked os 9 .any (Rows.diskLatestSpec.pre6 enc Try.prog Try.f9 Rows.diskLatestRow.domain false) (Rows.diskLatestSpec.post enc Try.prog Try.f9 false true false false) := by
  refine returnsInHanded_of_change (C := Try.checked) own started (by kernel_rfl) Try.func9
    (ChangeSpec.witness6 (enc := enc) (C := Try.checked) false ⟨#[], #[.slice none 0 0], []⟩ 8 (by kernel_rfl) (by kernel_rfl) (by kernel_rfl) (by kernel_rfl)) ?_
  intro W base args ds gs before hval0 hW hcnd _
  have hval : ∀ (j : Nat) t v, Try.f9.params[j]? = some t → args[j]? = some v → Value.okWide Try.prog W .any base t v := hval0
  have hW' := hW
  obtain ⟨p, q, hA0, hV, rfl, hfz, hnd⟩ := hW
  have hA : DataW.TrodAll enc Try.prog W 0 (fun _ => true) true Try.f9.params.toList args.toList ds p := hA0
  rw [Try.params9] at hA hval
  obtain ⟨v0, vs0, d0, ds0, p0, q0, hargs, rfl, rfl, h0, r0⟩ := trodAll_cons hA
  obtain ⟨rfl, rfl, rfl⟩ := trodAll_nil r0
  obtain rfl : args = #[v0] := by cases args; simp_all
  obtain ⟨rfl, rfl⟩ := trodVars_none hV
  have k0 := h0
  have lt0 : ∀ x ∈ p0, x.block < W.heap.size := by obtain ⟨m, hm⟩ := k0; exact DataW.trod_lt m _ _ _ hm
  obtain ⟨A0, n0, c0, l0, rfl, s0⟩ := acts_arg (hval 0 22 v0 rfl rfl) h0
  clear hA0 hval0
  refine (walk A0 n0 c0 l0 W s0).mono fun e W' ⟨he, bel⟩ => ?_
  subst he
  exact ⟨_, rfl, _, _, _, [], _, [], hW', trodAll_mk1 (shut_bool Try.underlying4 _), (trodAll_cons_mk (Below.trod laidOut (by kernel_rfl) (of_decide_eq_true (by kernel_rfl)) k0 bel lt0) trodAll_mk0), rfl, bel.frame _, fun h => by cases h⟩

theorem over : Rows.diskLatestRow.holds Try.pinned (OpenSpec.ofChange Rows.diskLatestSpec) :=
  OpenClaim.holds_of_wide 9 Try.f9 rfl rfl rfl rfl rfl rfl rfl ⟨rfl, rfl, rfl, rfl, rfl⟩ rfl rfl rfl rfl rfl (by kernel_rfl) Try.func9 (by kernel_rfl)
    (of_decide_eq_true (by kernel_rfl)) (by unfold Func.isWrapper; first | (rw [if_pos (by decide +kernel)]; kernel_rfl) | (rw [if_neg (by decide +kernel)]; exact ⟨rfl, rfl⟩))
    (fun os started H enc _ => lifted os started H enc)

theorem proved : Rows.DiskLatestSaid := over
#print axioms proved
end Go.Proofs.Ytclgkmaeolnlaaa.diskLatest
