/-
  PROVED HERE: whatever before, one, other, confluencelaw02.DiskTwins(before, one, other) returns true: a copy is just as the disk was, and from then on neither has to do with the other. No condition.
-/
import Derived.Test.YtionbjocfepkaaaTq
import Derived.Test.YtionbjocfepkaaaRows
import Derived.ProofKit
import Derived.OpenShut
import Derived.ChangeOld
import Derived.Carry
namespace Go.Proofs.Ytionbjocfepkaaa.diskTwins
open Go.ChangeShapes Go.WideShapes Go.ChangeAt Go.RowKit
set_option linter.unusedVariables false

set_option linter.unusedSimpArgs false
open Go.Deep
set_option maxRecDepth 100000 in
set_option maxHeartbeats 4000000 in
theorem walk (A0 : Option Addr) (n0 c0 : Nat) (al0 : List Ac) (A1 : Option Addr) (n1 c1 : Nat) (bl0 : List Ac) (A2 : Option Addr) (n2 c2 : Nat) (cl0 : List Ac) (W : World) (hs0 : Acts W W.heap.size A0 n0 c0 al0) (hs1 : Acts W W.heap.size A1 n1 c1 bl0) (hs2 : Acts W W.heap.size A2 n2 c2 cl0) :
    Calls Try.prog 3 #[.slice A0 n0 c0, .slice A1 n1 c1, .slice A2 n2 c2] W fun e w' => e = .returned (.bool true) ∧ Below W.heap.size W w' := by
  have hsm := some_any A0 n0 c0 hs0.cap hs0.max
  obtain ⟨m0, hm⟩ : ∃ m, min n0 100 = m := ⟨_, rfl⟩
  have M0 : m0 ≤ 100 := by omega
  have hsk := hs0.take (k := m0) (by omega)
  obtain ⟨al, has⟩ : ∃ al, al0.take m0 = al := ⟨_, rfl⟩
  rw [has] at hsk
  rw [hm] at hsm
  have HS0 := Lib.hid hsk
  have HSM0 := Lib.hid hsm
  clear hs0 hsm hsk has hm
  have hsm := some_any A1 n1 c1 hs1.cap hs1.max
  obtain ⟨m1, hm⟩ : ∃ m, min n1 100 = m := ⟨_, rfl⟩
  have M1 : m1 ≤ 100 := by omega
  have hsk := hs1.take (k := m1) (by omega)
  obtain ⟨bl, has⟩ : ∃ al, bl0.take m1 = al := ⟨_, rfl⟩
  rw [has] at hsk
  rw [hm] at hsm
  have HS1 := Lib.hid hsk
  have HSM1 := Lib.hid hsm
  clear hs1 hsm hsk has hm
  have hsm := some_any A2 n2 c2 hs2.cap hs2.max
  obtain ⟨m2, hm⟩ : ∃ m, min n2 100 = m := ⟨_, rfl⟩
  have M2 : m2 ≤ 100 := by omega
  have hsk := hs2.take (k := m2) (by omega)
  obtain ⟨cl, has⟩ : ∃ al, cl0.take m2 = al := ⟨_, rfl⟩
  rw [has] at hsk
  rw [hm] at hsm
  have HS2 := Lib.hid hsk
  have HSM2 := Lib.hid hsm
  clear hs2 hsm hsk has hm
  go_enter Try.func3, Try.ntmps3
  go_wp2_with fail
  refine (wakes_any _).mono ?_
  rintro e w1 ⟨rfl, hb1⟩
  have HB1 := Lib.hid hb1
  clear hb1
  go_wp2_with fail
  refine (new_any 5 (by omega) (by omega) w1).mono ?_
  rintro e w2 ⟨g, S2, rfl, hd2, hS2, hb2⟩
  have L2 : Hid (Live W w2 g S2 (Mo.new 5)) := Lib.hid ⟨hd2, fun b hb => Nat.le_trans HB1.out.size (hS2 b hb), HB1.out.trans (hb2.mono HB1.out.size)⟩
  clear hd2 hS2 hb2
  go_wp2_with fail
  refine (fresh_any 5 w2).mono ?_
  rintro e w3 ⟨rfl, hb3⟩
  have L3 := Lib.hid (L2.out.below hb3)
  clear hb3
  have X4 := Lib.hid (show Lies (boxR w3 0 (.slice none 0 0) false 0 0 0) w3.heap.size 6 rf0 from Lies.new w3 rf0 30)
  have X5 := Lib.hid (X4.out.set_ (l' := rfL 5 (.slice none 0 0) false (-1) (-1) 0) rfl)
  have P0 : Hid (Pw W g w3.heap.size S2 (Mo.new 5) (rfS 5 none 0 0 ⟨false, -1, -1, 0⟩) none 0 0 [] ((boxR w3 0 (.slice none 0 0) false 0 0 0).setCells w3.heap.size 0 (rfL 5 (.slice none 0 0) false (-1) (-1) 0))) := Lib.hid (by
    have hb : Below w3.heap.size w3 ((boxR w3 0 (.slice none 0 0) false 0 0 0).setCells w3.heap.size 0 (rfL 5 (.slice none 0 0) false (-1) (-1) 0)) := below_setCells (boxR_below w3 0 (.slice none 0 0) false 0 0 0) (Nat.le_refl _) _ _
    exact ⟨L3.out.below hb, Ew.nil_ _, (fun x hx => by cases hx), X5.out, (fun hS => by have := L3.out.1.lt _ hS; omega), L3.out.2.2.size⟩)
  have F0 : Hid (Pf 5 0 (Mo.new 5) ⟨false, -1, -1, 0⟩ []) := Lib.hid ⟨Rl.fresh 5, by simp [Mo.new], Nat.le_refl _, by simp [Mo.new]⟩
  go_wp2_with (first
    | (with_reducible refine st_ref rfl _ _ rfl w3.heap.size 5 none 0 0 false (-1) (-1) 0 rfl rfl X4.out.th ?_)
    | (go_at_call 8; refine (HSM0.out _).mono ?_; rintro e w5 ⟨rfl, rfl⟩))
  clear X4 X5 L3 L2 HB1
  obtain ⟨b7, hb7⟩ : ∃ b7, w3.heap.size = b7 := ⟨_, rfl⟩
  rw [hb7] at P0 ⊢
  go_loopw [37] (fun i wr => ∃ (k : Nat) (M : Mo) (s : Rs) (A' : Option Addr) (l' c' : Nat) (es : List En) (S : Nat → Prop), k ≤ m0 ∧ i = .int .i64 (k : Int) ∧ Hid (Pf 5 k M s es) ∧ Hid (Pw W g b7 S M (rfS 5 A' l' c' s) A' l' c' es wr)) (fun i _ => m0 - (intOf i).toNat)
  case atStart => exact ⟨0, _, _, _, _, _, _, _, Nat.zero_le _, rfl, F0, P0⟩
  case round =>
    clear F0 P0 hb7
    obtain ⟨k, M, s, A', l', c', es, S, hk, rfl, hPf, hPw⟩ := hrel
    by_cases hlt : k < m0
    · have hd : decide ((k : Int) < (m0 : Int)) = true := by simp; omega
      have hk0 : (0 : Int) ≤ (k : Int) := Int.natCast_nonneg _
      have hk1 : (k : Int) < (m0 : Int) := by omega
      have hlas : al.length = m0 := HS0.out.len
      obtain ⟨bb, oo, hA, hbb, hcells⟩ := HS0.out.pos (by omega)
      have hcell := hcells k (by omega)
      obtain ⟨a, ha⟩ : ∃ a, al[k]'(by omega) = a := ⟨_, rfl⟩
      have haok := HS0.out.ok a (by rw [← ha]; exact List.getElem_mem _)
      rw [ha] at hcell
      have hbw : Below W.heap.size W wr := hPw.out.live.2.2
      have hcw := rangeAt_keep hcell (hbw.block bb hbb)
      subst hA
      obtain ⟨kind, nn, b, Ak, lk, ck, ks⟩ := a
      have q0 : wr.cell? ⟨bb, oo + k * 4, none⟩ = some (.int .i64 kind) := hcw 0 _ rfl
      have q1 : wr.cell? ⟨bb, oo + k * 4 + 1, none⟩ = some (.int .i64 nn) := hcw 1 _ rfl
      have q2 : wr.cell? ⟨bb, oo + k * 4 + 2, none⟩ = some (.int .u8 (b.toNat : Int)) := hcw 2 _ rfl
      have q3 : wr.cell? ⟨bb, oo + k * 4 + 3, none⟩ = some (.slice Ak lk ck) := hcw 3 _ rfl
      have hqb : bb < wr.heap.size := Nat.lt_of_lt_of_le hbb hbw.size
      have HKS : Hid (SlV W W.heap.size Ak lk ck (bls ks)) := Lib.hid haok.ks
      have HN := Lib.hid haok.n
      have HBB := Lib.hid hbb
      have HBW := Lib.hid hbw
      have HCELL := Lib.hid hcell
      obtain ⟨wx, hwx⟩ : ∃ wx, wx = wr.alloc (.cells #[.int .i64 kind, .int .i64 nn, .int .u8 (b.toNat : Int), .slice Ak lk ck] 35) := ⟨_, rfl⟩
      have hbx : Below wr.heap.size wr wx := by rw [hwx]; exact (Below.refl _ _).alloc (Nat.le_refl _) _
      have P1 := Lib.hid (hPw.out.below hbx)
      have X1 : Hid (Lies wx wr.heap.size 4 (acL kind nn b Ak lk ck)) := Lib.hid (by rw [hwx]; exact Lies.new wr (acL kind nn b Ak lk ck) 35)
      have NS := Lib.hid (show ¬ S wr.heap.size from fun hS => by have := hPw.out.live.1.lt _ hS; omega)
      have N7 := Lib.hid (show wr.heap.size ≠ b7 from fun e => by have := hPw.out.x.lt; omega)
      have HBX := Lib.hid (show Below W.heap.size W wx from hbw.trans (hbx.mono hbw.size))
      obtain ⟨M', s', es', bq, er, hact, hsh, hpf, hlq⟩ := half hPf.out hPw.out.live.1.ok hPw.out.ew.fit kind nn b ks haok.n.2
      have HAP := Lib.hid (P1.out.happens hPf.out (by omega) kind nn b (HKS.out.below HBX.out) HBX.out.size haok.n hact)
      have HSH := Lib.hid (fun w0 (h0 : Ew w0 A' l' c' es) (hb : Below W.heap.size W w0) => ew_should (N := 5) (NI := 5) rfl h0 hPf.out (by omega) (by decide) kind nn b (HKS.out.below hb) hb.size hsh)
      have HPF := Lib.hid hpf
      have HWX := Lib.hid hwx
      clear hact hsh hpf hlq hcells hcell haok hbw hcw hbx hlas ha hPf hPw
      go_wp2_with fail
      rw [← HWX.out]
      refine (HAP.out).mono ?_
      rintro e w5 ⟨rfl, S5, hp5, hm5, hg5⟩
      have P5 := Lib.hid hp5
      have X5 := Lib.hid (X1.out.mv hm5 NS.out)
      clear hm5 hg5 hp5 q0 q1 q2 q3
      have e0 := X5.out.cell (j := 0) rfl
      have e1 := X5.out.cell (j := 1) rfl
      have e2 := X5.out.cell (j := 2) rfl
      have e3 := X5.out.cell (j := 3) rfl
      go_wp2_with (first
        | (with_reducible refine ld_ref rfl _ rfl b7 5 (.slice A' l' c') s.dead s.fu s.fa s.done rfl P5.out.x.rg ?_)
        | fail)
      refine (HSH.out _ P5.out.ew P5.out.live.2.2).mono ?_
      rintro e w6 ⟨A2', m2', c2', rfl, hew, hA, hb6⟩
      have P6 := Lib.hid (P5.out.below hb6)
      have OFF := Lib.hid (P5.out.fresh hA)
      have P7 := Lib.hid (P6.out.put (V2 := rfS 5 A2' m2' c2' s') hew OFF.out rfl)
      clear hew hA hb6
      go_wp2_with (first
        | (with_reducible refine st_ref rfl _ _ rfl b7 5 A2' m2' c2' s'.dead s'.fu s'.fa s'.done rfl rfl P6.out.x.th ?_)
        | fail)
      go_roundw
      case rel => exact ⟨k + 1, _, _, _, _, _, _, _, by omega, by go_num, HPF, P7⟩
      case measure => simp [intOf]; omega
    · have hd : decide ((k : Int) < (m0 : Int)) = false := by simp; omega
      obtain rfl : k = m0 := by omega
      have HPF := hPf
      have HPW := hPw
      clear hPf hPw hlt hk
      go_upto_region 13 with fail
      go_cut [12, 13] (fun s12 s13 wx => ∃ (h8 b8 : Nat) (Sb : Nat → Prop), s12 = rp h8 ∧ s13 = .pointer (some ⟨b8, 0, none⟩) ∧ Hid (Tp W g b7 S M (rfS 5 A' l' c' s) A' l' c' es h8 b8 Sb M (rfS 5 A' l' c' s) A' l' c' es wx))
      case first =>
        have D0 := Lib.hid (Dui.start wr M)
        refine wp_region_noPanic ?_
        refine wp_region_held_drew (S := fun w' => w'.rangeAt b7 0 (rfS 5 A' l' c' s)) (by kernel_rfl) (HPW.out.below D0.out.below).x.rg (fun _ => ?_)
        refine wpAnyH_take (i := 0) rfl (by kernel_rfl) (by kernel_rfl) (by kernel_rfl) (fun _ _ _ h => h) (.inl ⟨rfl, fun w' hw' => (by clear hw'; go_simp; rfl)⟩) (HPW.out.below D0.out.below).x.rg ?_
        simp only [List.getElem_toArray, List.getElem_cons_zero, List.getElem_cons_succ, Act.put, List.setIfInBounds_toArray, List.set_cons_succ, List.set_cons_zero]
        refine wpAnyH_take (i := 2) rfl (by kernel_rfl) (by kernel_rfl) (by kernel_rfl) (fun _ _ _ h => h) (yieldsIf_load_mid rfl 30 _ rfl (b7) (0) rfl ((rfS 5 A' l' c' s)) _ (fun w' hw' => hw') Try.underlying30 rfl ref_size) (HPW.out.below D0.out.below).x.rg ?_
        simp only [List.getElem_toArray, List.getElem_cons_zero, List.getElem_cons_succ, Act.put, List.setIfInBounds_toArray, List.set_cons_succ, List.set_cons_zero]
        refine wpAnyH_ready (rs := [1, 3]) (by kernel_rfl) (by simp) (AllReadyH.cons rfl (fun K hK => ?_) (AllReadyH.cons rfl (fun K hK => ?_) AllReadyH.nil))
        · rw [if_pos (by rfl)]
          refine wp_fn (f := 11) (xs := #[rp g]) (by first | (go_simp; done) | (go_simp; rfl)) ((copy_dk (HPW.out.below D0.out.below).live.1 (by have := HPF.out.rl.wt; have := HPF.out.cnt; omega)).mono ?_)
          rintro e w5 ⟨h8, Sb, rfl, hd8, hS8, hb8⟩
          have D1 := Lib.hid (D0.out.call hd8 hS8 hb8)
          clear hd8 hS8 hb8
          refine ⟨_, rfl, hK.out _ _ (HPW.out.below D1.out.below).x.rg (fun _ => ?_)⟩
          simp only [List.getElem_toArray, List.getElem_cons_zero, List.getElem_cons_succ, Act.put, List.setIfInBounds_toArray, List.set_cons_succ, List.set_cons_zero]
          refine wpAnyH_ready (rs := [3]) (by kernel_rfl) (by simp) (AllReadyH.cons rfl (fun K hK => ?_) AllReadyH.nil)
          rw [if_pos (by rfl)]
          refine wp_alloc_as _ rfl _ zero_ref ?_
          have D2 := Lib.hid (D1.out.alloc6)
          refine hK.out _ _ (HPW.out.below D2.out.below).x.rg (fun _ => ?_)
          simp only [List.getElem_toArray, List.getElem_cons_zero, List.getElem_cons_succ, Act.put, List.setIfInBounds_toArray, List.set_cons_succ, List.set_cons_zero]
          generalize w5.heap.size = b8 at D2 ⊢
          generalize w5.alloc (.cells rf0.toArray 30) = w6 at D2 ⊢
          refine wpAnyH_take (i := 4) rfl (by kernel_rfl) (by kernel_rfl) (by kernel_rfl) (fun _ _ _ h => h) (.inl ⟨rfl, fun w' hw' => (by clear hw'; go_simp; rfl)⟩) (HPW.out.below D2.out.below).x.rg ?_
          simp only [List.getElem_toArray, List.getElem_cons_zero, List.getElem_cons_succ, Act.put, List.setIfInBounds_toArray, List.set_cons_succ, List.set_cons_zero]
          refine wpAnyH_ready (rs := [5]) (by kernel_rfl) (by simp) (AllReadyH.cons rfl (fun K hK => ?_) AllReadyH.nil)
          rw [if_pos (by rfl)]
          have TP := Lib.hid (Dui.done HPW.out rfl D2.out)
          refine wp_store_mid _ _ _ rfl _ _ (List.toArray (rfS 5 A' l' c' s)) rfl rfl D2.out.there6 ref_size rfL_all ?_
          refine hK.out _ _ TP.out.a.x.rg (fun _ => ?_)
          simp only [List.getElem_toArray, List.getElem_cons_zero, List.getElem_cons_succ, Act.put, List.setIfInBounds_toArray, List.set_cons_succ, List.set_cons_zero]
          refine wpAnyH_done (by kernel_rfl) ?_ _
          refine NoPanic.normal ?_
          go_wp2_with fail
          go_meet
          exact ⟨_, _, _, rfl, rfl, TP⟩
        · rw [if_pos (by rfl)]
          refine wp_alloc_as _ rfl _ zero_ref ?_
          have D1 := Lib.hid (D0.out.alloc6)
          refine hK.out _ _ (HPW.out.below D1.out.below).x.rg (fun _ => ?_)
          simp only [List.getElem_toArray, List.getElem_cons_zero, List.getElem_cons_succ, Act.put, List.setIfInBounds_toArray, List.set_cons_succ, List.set_cons_zero]
          generalize wr.drew.heap.size = b8 at D1 ⊢
          generalize wr.drew.alloc (.cells rf0.toArray 30) = w5 at D1 ⊢
          refine wpAnyH_ready (rs := [1]) (by kernel_rfl) (by simp) (AllReadyH.cons rfl (fun K hK => ?_) AllReadyH.nil)
          rw [if_pos (by rfl)]
          refine wp_fn (f := 11) (xs := #[rp g]) (by first | (go_simp; done) | (go_simp; rfl)) ((copy_dk (HPW.out.below D1.out.below).live.1 (by have := HPF.out.rl.wt; have := HPF.out.cnt; omega)).mono ?_)
          rintro e w6 ⟨h8, Sb, rfl, hd8, hS8, hb8⟩
          have D2 := Lib.hid (D1.out.call hd8 hS8 hb8)
          clear hd8 hS8 hb8
          refine ⟨_, rfl, hK.out _ _ (HPW.out.below D2.out.below).x.rg (fun _ => ?_)⟩
          simp only [List.getElem_toArray, List.getElem_cons_zero, List.getElem_cons_succ, Act.put, List.setIfInBounds_toArray, List.set_cons_succ, List.set_cons_zero]
          refine wpAnyH_take (i := 4) rfl (by kernel_rfl) (by kernel_rfl) (by kernel_rfl) (fun _ _ _ h => h) (.inl ⟨rfl, fun w' hw' => (by clear hw'; go_simp; rfl)⟩) (HPW.out.below D2.out.below).x.rg ?_
          simp only [List.getElem_toArray, List.getElem_cons_zero, List.getElem_cons_succ, Act.put, List.setIfInBounds_toArray, List.set_cons_succ, List.set_cons_zero]
          refine wpAnyH_ready (rs := [5]) (by kernel_rfl) (by simp) (AllReadyH.cons rfl (fun K hK => ?_) AllReadyH.nil)
          rw [if_pos (by rfl)]
          have TP := Lib.hid (Dui.done HPW.out rfl D2.out)
          refine wp_store_mid _ _ _ rfl _ _ (List.toArray (rfS 5 A' l' c' s)) rfl rfl D2.out.there6 ref_size rfL_all ?_
          refine hK.out _ _ TP.out.a.x.rg (fun _ => ?_)
          simp only [List.getElem_toArray, List.getElem_cons_zero, List.getElem_cons_succ, Act.put, List.setIfInBounds_toArray, List.set_cons_succ, List.set_cons_zero]
          refine wpAnyH_done (by kernel_rfl) ?_ _
          refine NoPanic.normal ?_
          go_wp2_with fail
          go_meet
          exact ⟨_, _, _, rfl, rfl, TP⟩
      case rest =>
        obtain ⟨h8, b8, Sb, rfl, rfl, hTp⟩ := hcut
        have HST := Lib.hid (hTp.out.b.stands (N := 5) (NI := 5) rfl HPF.out (by omega))
        have T0 := Lib.hid hTp.out
        clear hTp
        go_upto_region 17 with (first
          | ((with_reducible refine ldw_ref ?_ (.tmp 9) rfl b7 5 (.slice A' l' c') s.dead s.fu s.fa s.done ?_ ?_ ?_); (first | rfl | go_simp); (first | rfl | go_simp); exact T0.out.a.x.rg)
          | (go_at_call 12; refine (HST.out).mono ?_; rintro e w10 ⟨rfl, hb10⟩; have T10 := Lib.hid (T0.out.below hb10); clear hb10)
          | (go_at_call 8; refine (HSM1.out _).mono ?_; rintro e w11 ⟨rfl, rfl⟩)
          | (go_at_call 8; refine (HSM2.out _).mono ?_; rintro e w12 ⟨rfl, rfl⟩))
        have m1c : (0 : Int) ≤ (m1 : Int) := Int.natCast_nonneg _
        have m2c : (0 : Int) ≤ (m2 : Int) := Int.natCast_nonneg _
        go_cut [71, 72] (fun s71 s72 wx => ∃ mx : Nat, s71 = .int .i64 (mx : Int) ∧ s72 = .int .i64 0 ∧ mx ≤ 100 ∧ wx = w10)
        case first =>
          go_wp2
          all_goals go_meet
          all_goals first | exact ⟨m1, rfl, rfl, M1, rfl⟩ | exact ⟨m2, rfl, rfl, M2, rfl⟩
        case rest =>
          obtain ⟨mx, rfl, rfl, hmx, rfl⟩ := hcut
          have F0 := Lib.hid (show Pf 5 (100 + 0) M s es from ⟨HPF.out.rl, HPF.out.len, by have := HPF.out.cnt; omega, by have := HPF.out.ops; omega⟩)
          clear HPF HPW T0 HST
          go_wp2_with fail
          go_loopw [72] (fun i wr => ∃ (k : Nat) (Ma Mb : Mo) (sa sb : Rs) (Aa : Option Addr) (la ca : Nat) (ea : List En) (Ab : Option Addr) (lb cb : Nat) (eb : List En) (Sa Sb : Nat → Prop), k ≤ mx ∧ i = .int .i64 (k : Int) ∧ Hid (Pf 5 (100 + k) Ma sa ea) ∧ Hid (Pf 5 (100 + k) Mb sb eb) ∧ Hid (Tp W g b7 Sa Ma (rfS 5 Aa la ca sa) Aa la ca ea h8 b8 Sb Mb (rfS 5 Ab lb cb sb) Ab lb cb eb wr)) (fun i _ => mx - (intOf i).toNat)
          case atStart => exact ⟨0, _, _, _, _, _, _, _, _, _, _, _, _, _, _, Nat.zero_le _, rfl, F0, F0, T10⟩
          case round =>
            clear F0 T10
            obtain ⟨k, Ma, Mb, sa, sb, Aa, la, ca, ea, Ab, lb, cb, eb, Sa, Sb, hk2, rfl, hFa, hFb, hT⟩ := hrel
            by_cases hlt2 : k < mx
            · have hd2 : decide ((k : Int) < (mx : Int)) = true := by simp; omega
              have hk0 : (0 : Int) ≤ (k : Int) := Int.natCast_nonneg _
              have hk1 : (k : Int) < (mx : Int) := by omega
              go_upto_if 78 with fail
              obtain ⟨wi, hwi⟩ : ∃ wi : World, wi = wr := ⟨_, rfl⟩
              rw [← hwi] at hT ⊢
              clear hwi
              go_cut [] (fun wx => ∃ (M' : Mo) (s' : Rs) (A' : Option Addr) (l' c' : Nat) (es' : List En) (S' : Nat → Prop), Hid (Pf 5 (100 + k + 1) M' s' es') ∧ Hid (Tp W g b7 S' M' (rfS 5 A' l' c' s') A' l' c' es' h8 b8 Sb Mb (rfS 5 Ab lb cb sb) Ab lb cb eb wx))
              case first =>
                by_cases h1 : k < m1
                · have hd1 : decide ((k : Int) < (m1 : Int)) = true := by simp; omega
                  have hk3 : (k : Int) < (m1 : Int) := by omega
                  have T1 := Lib.hid (hT.out)
                  have hlas : bl.length = m1 := HS1.out.len
                  obtain ⟨bb, oo, hA, hbb, hcells⟩ := HS1.out.pos (by omega)
                  have hcell := hcells k (by omega)
                  obtain ⟨a, ha⟩ : ∃ a, bl[k]'(by omega) = a := ⟨_, rfl⟩
                  have haok := HS1.out.ok a (by rw [← ha]; exact List.getElem_mem _)
                  rw [ha] at hcell
                  have hbw : Below W.heap.size W wi := T1.out.a.live.2.2
                  have hcw := rangeAt_keep hcell (hbw.block bb hbb)
                  subst hA
                  obtain ⟨kind, nn, b, Ak, lk, ck, ks⟩ := a
                  have q0 : wi.cell? ⟨bb, oo + k * 4, none⟩ = some (.int .i64 kind) := hcw 0 _ rfl
                  have q1 : wi.cell? ⟨bb, oo + k * 4 + 1, none⟩ = some (.int .i64 nn) := hcw 1 _ rfl
                  have q2 : wi.cell? ⟨bb, oo + k * 4 + 2, none⟩ = some (.int .u8 (b.toNat : Int)) := hcw 2 _ rfl
                  have q3 : wi.cell? ⟨bb, oo + k * 4 + 3, none⟩ = some (.slice Ak lk ck) := hcw 3 _ rfl
                  have hqb : bb < wi.heap.size := Nat.lt_of_lt_of_le hbb hbw.size
                  have HKS : Hid (SlV W W.heap.size Ak lk ck (bls ks)) := Lib.hid haok.ks
                  have HN := Lib.hid haok.n
                  have HBB := Lib.hid hbb
                  have HBW := Lib.hid hbw
                  have HCELL := Lib.hid hcell
                  obtain ⟨M', s', es', bq, er, hact, hsh, hpf, hlq⟩ := half hFa.out T1.out.a.live.1.ok T1.out.a.ew.fit kind nn b ks haok.n.2
                  have HAP := Lib.hid (T1.out.happens hFa.out (by omega) kind nn b (HKS.out.below HBW.out) HBW.out.size haok.n hact)
                  have HSH := Lib.hid (fun w0 (h0 : Ew w0 Aa la ca ea) (hb : Below W.heap.size W w0) => ew_should (N := 5) (NI := 5) rfl h0 hFa.out (by omega) (by decide) kind nn b (HKS.out.below hb) hb.size hsh)
                  have HPF := Lib.hid hpf
                  have HBQ := Lib.hid hlq
                  clear hact hsh hpf hlq hcells hcell haok hbw hcw hlas ha
                  go_wp2_with fail
                  refine (HAP.out).mono ?_
                  rintro e w5 ⟨rfl, S5, hp5, hm5, hg5⟩
                  have T5 := Lib.hid hp5
                  clear hm5 hg5 hp5 q0 q1 q2 q3
                  have TH5 := Lib.hid (Z64_there w5)
                  have hb6 : Below w5.heap.size w5 ((zbW w5).setCells w5.heap.size 0 (bvs bq)) := below_setCells (zbW_below w5) (Nat.le_refl _) 0 (bvs bq)
                  have T6 := Lib.hid (T5.out.below hb6)
                  have N6 := Lib.hid (show w5.heap.size ≠ b7 from fun e => by have := T5.out.a.x.lt; omega)
                  have B6 : Hid (Lies ((zbW w5).setCells w5.heap.size 0 (bvs bq)) w5.heap.size 64 (bvs bq)) := Lib.hid ((Lies.zb w5).set_ (by rw [bvs_len, HBQ.out]))
                  clear hb6
                  go_upto_region 22 with (first
                    | (with_reducible refine al_block rfl rfl ?_)
                    | (with_reducible refine st_block rfl _ _ rfl w5.heap.size 0 bq HBQ rfl rfl TH5.out ?_)
                    | fail)
                  clear TH5
                  generalize (zbW w5).setCells w5.heap.size 0 (bvs bq) = w6 at T6 B6 ⊢
                  generalize w5.heap.size = b15 at N6 B6 ⊢
                  have HCW := Lib.hid (show w6.rangeAt bb (oo + k * 4) (acL kind nn b Ak lk ck) from rangeAt_keep HCELL.out (T6.out.a.live.2.2.block bb HBB.out))
                  have HB6 := Lib.hid (show bb < w6.heap.size from Nat.lt_of_lt_of_le HBB.out T6.out.a.live.2.2.size)
                  go_cut [17, 18, 19] (fun s17 s18 s19 wx => ∃ (B17 B18 : Nat) (A3 : Option Addr) (l3 c3 : Nat), s17 = .pointer (some ⟨B17, 0, none⟩) ∧ s18 = .pointer (some ⟨B18, 0, none⟩) ∧ s19 = .int .i64 er ∧ Hid (Trd w6 Aa es' A3 l3 c3 B17 (rfS 5 A3 l3 c3 s') B18 bq wx))
                  case first =>
                    have D0 := Lib.hid (Tri.start w6 Aa es')
                    have HS := Lib.hid (fun (w' : World) (hb : Below w6.heap.size w6 w') => show w'.rangeAt b7 0 (rfS 5 Aa la ca sa) ∧ w'.rangeAt bb (oo + k * 4) (acL kind nn b Ak lk ck) from ⟨(T6.out.below hb).a.x.rg, rangeAt_keep HCW.out (hb.block bb HB6.out)⟩)
                    have HLT := Lib.hid (fun x (hx : Aa = some x) => T6.out.a.ew.lt hx)
                    refine wp_region_noPanic ?_
                    refine wp_region_held_drew (S := fun w' => w'.rangeAt b7 0 (rfS 5 Aa la ca sa) ∧ w'.rangeAt bb (oo + k * 4) (acL kind nn b Ak lk ck)) (by kernel_rfl) (HS.out _ D0.out.below) (fun _ => ?_)
                    refine wpAnyH_take (i := 0) rfl (by kernel_rfl) (by kernel_rfl) (by kernel_rfl) (fun _ _ _ h => h) (yieldsIf_load_mid rfl 30 _ rfl (b7) (0) rfl ((rfS 5 Aa la ca sa)) _ (fun w' hw' => hw'.1) Try.underlying30 rfl ref_size) (HS.out _ D0.out.below) ?_
                    simp only [List.getElem_toArray, List.getElem_cons_zero, List.getElem_cons_succ, Act.put, List.setIfInBounds_toArray, List.set_cons_succ, List.set_cons_zero]
                    refine wpAnyH_take (i := 1) rfl (by kernel_rfl) (by kernel_rfl) (by kernel_rfl) (fun _ _ _ h => h) (.inl ⟨rfl, fun w' hw' => (by clear hw'; go_simp; rfl)⟩) (HS.out _ D0.out.below) ?_
                    simp only [List.getElem_toArray, List.getElem_cons_zero, List.getElem_cons_succ, Act.put, List.setIfInBounds_toArray, List.set_cons_succ, List.set_cons_zero]
                    refine wpAnyH_take (i := 2) rfl (by kernel_rfl) (by kernel_rfl) (by kernel_rfl) (fun _ _ _ h => h) (.inl ⟨rfl, fun w' hw' => (by clear hw'; go_simp; rfl)⟩) (HS.out _ D0.out.below) ?_
                    simp only [List.getElem_toArray, List.getElem_cons_zero, List.getElem_cons_succ, Act.put, List.setIfInBounds_toArray, List.set_cons_succ, List.set_cons_zero]
                    refine wpAnyH_take (i := 3) rfl (by kernel_rfl) (by kernel_rfl) (by kernel_rfl) (fun _ _ _ h => h) (.inl ⟨rfl, fun w' hw' => (by clear hw'; go_simp; rfl)⟩) (HS.out _ D0.out.below) ?_
                    simp only [List.getElem_toArray, List.getElem_cons_zero, List.getElem_cons_succ, Act.put, List.setIfInBounds_toArray, List.set_cons_succ, List.set_cons_zero]
                    refine wpAnyH_take (i := 4) rfl (by kernel_rfl) (by kernel_rfl) (by kernel_rfl) (fun _ _ _ h => h) (yieldsIf_load_mid rfl 35 _ rfl (bb) (oo + k * 4) rfl (acL kind nn b Ak lk ck) _ (fun w' hw' => hw'.2) Try.underlying35 rfl (by kernel_rfl)) (HS.out _ D0.out.below) ?_
                    simp only [List.getElem_toArray, List.getElem_cons_zero, List.getElem_cons_succ, Act.put, List.setIfInBounds_toArray, List.set_cons_succ, List.set_cons_zero]
                    refine wpAnyH_ready (rs := [5, 10, 11]) (by kernel_rfl) (by simp) (AllReadyH.cons rfl (fun K hK => ?_) (AllReadyH.cons rfl (fun K hK => ?_) (AllReadyH.cons rfl (fun K hK => ?_) AllReadyH.nil)))
                    · rw [if_pos (by rfl)]
                      refine wp_fn (f := 10) (xs := #[sa.val 5 (.slice Aa la ca), actV kind nn b Ak lk ck]) (by first | (go_simp; done) | (go_simp; rfl)) ((HSH.out _ (T6.out.below D0.out.below).a.ew (T6.out.below D0.out.below).a.live.2.2).mono ?_)
                      rintro e u1 ⟨A3, l3, c3, rfl, hew, hA, hb7⟩
                      have D1 := Lib.hid (D0.out.call HLT.out hew hA hb7)
                      clear hew hA hb7
                      refine ⟨_, rfl, hK.out _ _ (HS.out _ D1.out.below) (fun _ => ?_)⟩
                      simp only [List.getElem_toArray, List.getElem_cons_zero, List.getElem_cons_succ, Act.put, List.setIfInBounds_toArray, List.set_cons_succ, List.set_cons_zero]
                      refine wpAnyH_take (i := 6) rfl (by kernel_rfl) (by kernel_rfl) (by kernel_rfl) (fun _ _ _ h => h) (.inl ⟨rfl, fun w' hw' => (by clear hw'; go_simp; rfl)⟩) (HS.out _ D1.out.below) ?_
                      simp only [List.getElem_toArray, List.getElem_cons_zero, List.getElem_cons_succ, Act.put, List.setIfInBounds_toArray, List.set_cons_succ, List.set_cons_zero]
                      refine wpAnyH_take (i := 7) rfl (by kernel_rfl) (by kernel_rfl) (by kernel_rfl) (fun _ _ _ h => h) (.inl ⟨rfl, fun w' hw' => (by clear hw'; go_simp; rfl)⟩) (HS.out _ D1.out.below) ?_
                      simp only [List.getElem_toArray, List.getElem_cons_zero, List.getElem_cons_succ, Act.put, List.setIfInBounds_toArray, List.set_cons_succ, List.set_cons_zero]
                      refine wpAnyH_take (i := 8) rfl (by kernel_rfl) (by kernel_rfl) (by kernel_rfl) (fun _ _ _ h => h) (.inl ⟨rfl, fun w' hw' => (by clear hw'; go_simp; rfl)⟩) (HS.out _ D1.out.below) ?_
                      simp only [List.getElem_toArray, List.getElem_cons_zero, List.getElem_cons_succ, Act.put, List.setIfInBounds_toArray, List.set_cons_succ, List.set_cons_zero]
                      refine wpAnyH_take (i := 9) rfl (by kernel_rfl) (by kernel_rfl) (by kernel_rfl) (fun _ _ _ h => h) (.inl ⟨rfl, fun w' hw' => (by clear hw'; go_simp; rfl)⟩) (HS.out _ D1.out.below) ?_
                      simp only [List.getElem_toArray, List.getElem_cons_zero, List.getElem_cons_succ, Act.put, List.setIfInBounds_toArray, List.set_cons_succ, List.set_cons_zero]
                      refine wpAnyH_ready (rs := [10, 11]) (by kernel_rfl) (by simp) (AllReadyH.cons rfl (fun K hK => ?_) (AllReadyH.cons rfl (fun K hK => ?_) AllReadyH.nil))
                      · rw [if_pos (by rfl)]
                        refine wp_alloc_as _ rfl _ zero_ref ?_
                        have D2 := Lib.hid (D1.out.alloc6)
                        refine hK.out _ _ (HS.out _ D2.out.below) (fun _ => ?_)
                        simp only [List.getElem_toArray, List.getElem_cons_zero, List.getElem_cons_succ, Act.put, List.setIfInBounds_toArray, List.set_cons_succ, List.set_cons_zero]
                        generalize u1.heap.size = b17 at D2 ⊢
                        generalize u1.alloc (.cells rf0.toArray 30) = u2 at D2 ⊢
                        refine wpAnyH_ready (rs := [11]) (by kernel_rfl) (by simp) (AllReadyH.cons rfl (fun K hK => ?_) AllReadyH.nil)
                        rw [if_pos (by rfl)]
                        refine wp_alloc_as _ rfl _ zero_block ?_
                        have D3 := Lib.hid (D2.out.alloc64)
                        refine hK.out _ _ (HS.out _ D3.out.below) (fun _ => ?_)
                        simp only [List.getElem_toArray, List.getElem_cons_zero, List.getElem_cons_succ, Act.put, List.setIfInBounds_toArray, List.set_cons_succ, List.set_cons_zero]
                        generalize u2.heap.size = b18 at D3 ⊢
                        generalize u2.alloc (.cells Z64 37) = u3 at D3 ⊢
                        have TD := Lib.hid (D3.out.done (V := (rfS 5 A3 l3 c3 s')) rfl HBQ.out)
                        have BD := Lib.hid (below_setCells D3.out.below (D3.out.b6 b17 rfl).2 0 (rfS 5 A3 l3 c3 s'))
                        refine wpAnyH_ready (rs := [12]) (by kernel_rfl) (by simp) (AllReadyH.cons rfl (fun K hK => ?_) AllReadyH.nil)
                        rw [if_pos (by rfl)]
                        refine wp_store_mid _ _ _ rfl _ _ (List.toArray (rfS 5 A3 l3 c3 s')) rfl rfl D3.out.there6 ref_size rfL_all ?_
                        refine hK.out _ _ (HS.out _ BD.out) (fun _ => ?_)
                        simp only [List.getElem_toArray, List.getElem_cons_zero, List.getElem_cons_succ, Act.put, List.setIfInBounds_toArray, List.set_cons_succ, List.set_cons_zero]
                        refine wpAnyH_ready (rs := [13]) (by kernel_rfl) (by simp) (AllReadyH.cons rfl (fun K hK => ?_) AllReadyH.nil)
                        rw [if_pos (by rfl)]
                        refine wp_store_mid _ _ _ rfl _ _ (List.toArray (bvs bq)) rfl rfl (by have h64 := bvs_len bq; rw [HBQ.out] at h64; have h65 := D3.out.there64 (rfS 5 A3 l3 c3 s'); simpa [h64] using h65) (by have h64 := size_of HBQ.out; simpa using h64) bvs_all ?_
                        refine hK.out _ _ (HS.out _ TD.out.below) (fun _ => ?_)
                        simp only [List.getElem_toArray, List.getElem_cons_zero, List.getElem_cons_succ, Act.put, List.setIfInBounds_toArray, List.set_cons_succ, List.set_cons_zero]
                        refine wpAnyH_take (i := 14) rfl (by kernel_rfl) (by kernel_rfl) (by kernel_rfl) (fun _ _ _ h => h) (.inl ⟨rfl, fun w' hw' => (by clear hw'; go_simp; rfl)⟩) (HS.out _ TD.out.below) ?_
                        simp only [List.getElem_toArray, List.getElem_cons_zero, List.getElem_cons_succ, Act.put, List.setIfInBounds_toArray, List.set_cons_succ, List.set_cons_zero]
                        refine wpAnyH_done (by kernel_rfl) ?_ _
                        refine NoPanic.normal ?_
                        go_wp2_with fail
                        go_meet
                        exact ⟨_, _, _, _, _, rfl, rfl, rfl, TD⟩
                      · rw [if_pos (by rfl)]
                        refine wp_alloc_as _ rfl _ zero_block ?_
                        have D4 := Lib.hid (D1.out.alloc64)
                        refine hK.out _ _ (HS.out _ D4.out.below) (fun _ => ?_)
                        simp only [List.getElem_toArray, List.getElem_cons_zero, List.getElem_cons_succ, Act.put, List.setIfInBounds_toArray, List.set_cons_succ, List.set_cons_zero]
                        generalize u1.heap.size = b18 at D4 ⊢
                        generalize u1.alloc (.cells Z64 37) = u4 at D4 ⊢
                        refine wpAnyH_ready (rs := [10]) (by kernel_rfl) (by simp) (AllReadyH.cons rfl (fun K hK => ?_) AllReadyH.nil)
                        rw [if_pos (by rfl)]
                        refine wp_alloc_as _ rfl _ zero_ref ?_
                        have D5 := Lib.hid (D4.out.alloc6)
                        refine hK.out _ _ (HS.out _ D5.out.below) (fun _ => ?_)
                        simp only [List.getElem_toArray, List.getElem_cons_zero, List.getElem_cons_succ, Act.put, List.setIfInBounds_toArray, List.set_cons_succ, List.set_cons_zero]
                        generalize u4.heap.size = b17 at D5 ⊢
                        generalize u4.alloc (.cells rf0.toArray 30) = u5 at D5 ⊢
                        have TD := Lib.hid (D5.out.done (V := (rfS 5 A3 l3 c3 s')) rfl HBQ.out)
                        have BD := Lib.hid (below_setCells D5.out.below (D5.out.b6 b17 rfl).2 0 (rfS 5 A3 l3 c3 s'))
                        refine wpAnyH_ready (rs := [12]) (by kernel_rfl) (by simp) (AllReadyH.cons rfl (fun K hK => ?_) AllReadyH.nil)
                        rw [if_pos (by rfl)]
                        refine wp_store_mid _ _ _ rfl _ _ (List.toArray (rfS 5 A3 l3 c3 s')) rfl rfl D5.out.there6 ref_size rfL_all ?_
                        refine hK.out _ _ (HS.out _ BD.out) (fun _ => ?_)
                        simp only [List.getElem_toArray, List.getElem_cons_zero, List.getElem_cons_succ, Act.put, List.setIfInBounds_toArray, List.set_cons_succ, List.set_cons_zero]
                        refine wpAnyH_ready (rs := [13]) (by kernel_rfl) (by simp) (AllReadyH.cons rfl (fun K hK => ?_) AllReadyH.nil)
                        rw [if_pos (by rfl)]
                        refine wp_store_mid _ _ _ rfl _ _ (List.toArray (bvs bq)) rfl rfl (by have h64 := bvs_len bq; rw [HBQ.out] at h64; have h65 := D5.out.there64 (rfS 5 A3 l3 c3 s'); simpa [h64] using h65) (by have h64 := size_of HBQ.out; simpa using h64) bvs_all ?_
                        refine hK.out _ _ (HS.out _ TD.out.below) (fun _ => ?_)
                        simp only [List.getElem_toArray, List.getElem_cons_zero, List.getElem_cons_succ, Act.put, List.setIfInBounds_toArray, List.set_cons_succ, List.set_cons_zero]
                        refine wpAnyH_take (i := 14) rfl (by kernel_rfl) (by kernel_rfl) (by kernel_rfl) (fun _ _ _ h => h) (.inl ⟨rfl, fun w' hw' => (by clear hw'; go_simp; rfl)⟩) (HS.out _ TD.out.below) ?_
                        simp only [List.getElem_toArray, List.getElem_cons_zero, List.getElem_cons_succ, Act.put, List.setIfInBounds_toArray, List.set_cons_succ, List.set_cons_zero]
                        refine wpAnyH_done (by kernel_rfl) ?_ _
                        refine NoPanic.normal ?_
                        go_wp2_with fail
                        go_meet
                        exact ⟨_, _, _, _, _, rfl, rfl, rfl, TD⟩
                    · rw [if_pos (by rfl)]
                      refine wp_alloc_as _ rfl _ zero_ref ?_
                      have D6 := Lib.hid (D0.out.alloc6)
                      refine hK.out _ _ (HS.out _ D6.out.below) (fun _ => ?_)
                      simp only [List.getElem_toArray, List.getElem_cons_zero, List.getElem_cons_succ, Act.put, List.setIfInBounds_toArray, List.set_cons_succ, List.set_cons_zero]
                      generalize w6.drew.heap.size = b17 at D6 ⊢
                      generalize w6.drew.alloc (.cells rf0.toArray 30) = u6 at D6 ⊢
                      refine wpAnyH_ready (rs := [5, 11]) (by kernel_rfl) (by simp) (AllReadyH.cons rfl (fun K hK => ?_) (AllReadyH.cons rfl (fun K hK => ?_) AllReadyH.nil))
                      · rw [if_pos (by rfl)]
                        refine wp_fn (f := 10) (xs := #[sa.val 5 (.slice Aa la ca), actV kind nn b Ak lk ck]) (by first | (go_simp; done) | (go_simp; rfl)) ((HSH.out _ (T6.out.below D6.out.below).a.ew (T6.out.below D6.out.below).a.live.2.2).mono ?_)
                        rintro e u7 ⟨A3, l3, c3, rfl, hew, hA, hb7⟩
                        have D7 := Lib.hid (D6.out.call HLT.out hew hA hb7)
                        clear hew hA hb7
                        refine ⟨_, rfl, hK.out _ _ (HS.out _ D7.out.below) (fun _ => ?_)⟩
                        simp only [List.getElem_toArray, List.getElem_cons_zero, List.getElem_cons_succ, Act.put, List.setIfInBounds_toArray, List.set_cons_succ, List.set_cons_zero]
                        refine wpAnyH_take (i := 6) rfl (by kernel_rfl) (by kernel_rfl) (by kernel_rfl) (fun _ _ _ h => h) (.inl ⟨rfl, fun w' hw' => (by clear hw'; go_simp; rfl)⟩) (HS.out _ D7.out.below) ?_
                        simp only [List.getElem_toArray, List.getElem_cons_zero, List.getElem_cons_succ, Act.put, List.setIfInBounds_toArray, List.set_cons_succ, List.set_cons_zero]
                        refine wpAnyH_take (i := 7) rfl (by kernel_rfl) (by kernel_rfl) (by kernel_rfl) (fun _ _ _ h => h) (.inl ⟨rfl, fun w' hw' => (by clear hw'; go_simp; rfl)⟩) (HS.out _ D7.out.below) ?_
                        simp only [List.getElem_toArray, List.getElem_cons_zero, List.getElem_cons_succ, Act.put, List.setIfInBounds_toArray, List.set_cons_succ, List.set_cons_zero]
                        refine wpAnyH_take (i := 8) rfl (by kernel_rfl) (by kernel_rfl) (by kernel_rfl) (fun _ _ _ h => h) (.inl ⟨rfl, fun w' hw' => (by clear hw'; go_simp; rfl)⟩) (HS.out _ D7.out.below) ?_
                        simp only [List.getElem_toArray, List.getElem_cons_zero, List.getElem_cons_succ, Act.put, List.setIfInBounds_toArray, List.set_cons_succ, List.set_cons_zero]
                        refine wpAnyH_take (i := 9) rfl (by kernel_rfl) (by kernel_rfl) (by kernel_rfl) (fun _ _ _ h => h) (.inl ⟨rfl, fun w' hw' => (by clear hw'; go_simp; rfl)⟩) (HS.out _ D7.out.below) ?_
                        simp only [List.getElem_toArray, List.getElem_cons_zero, List.getElem_cons_succ, Act.put, List.setIfInBounds_toArray, List.set_cons_succ, List.set_cons_zero]
                        refine wpAnyH_ready (rs := [11]) (by kernel_rfl) (by simp) (AllReadyH.cons rfl (fun K hK => ?_) AllReadyH.nil)
                        rw [if_pos (by rfl)]
                        refine wp_alloc_as _ rfl _ zero_block ?_
                        have D8 := Lib.hid (D7.out.alloc64)
                        refine hK.out _ _ (HS.out _ D8.out.below) (fun _ => ?_)
                        simp only [List.getElem_toArray, List.getElem_cons_zero, List.getElem_cons_succ, Act.put, List.setIfInBounds_toArray, List.set_cons_succ, List.set_cons_zero]
                        generalize u7.heap.size = b18 at D8 ⊢
                        generalize u7.alloc (.cells Z64 37) = u8 at D8 ⊢
                        have TD := Lib.hid (D8.out.done (V := (rfS 5 A3 l3 c3 s')) rfl HBQ.out)
                        have BD := Lib.hid (below_setCells D8.out.below (D8.out.b6 b17 rfl).2 0 (rfS 5 A3 l3 c3 s'))
                        refine wpAnyH_ready (rs := [12]) (by kernel_rfl) (by simp) (AllReadyH.cons rfl (fun K hK => ?_) AllReadyH.nil)
                        rw [if_pos (by rfl)]
                        refine wp_store_mid _ _ _ rfl _ _ (List.toArray (rfS 5 A3 l3 c3 s')) rfl rfl D8.out.there6 ref_size rfL_all ?_
                        refine hK.out _ _ (HS.out _ BD.out) (fun _ => ?_)
                        simp only [List.getElem_toArray, List.getElem_cons_zero, List.getElem_cons_succ, Act.put, List.setIfInBounds_toArray, List.set_cons_succ, List.set_cons_zero]
                        refine wpAnyH_ready (rs := [13]) (by kernel_rfl) (by simp) (AllReadyH.cons rfl (fun K hK => ?_) AllReadyH.nil)
                        rw [if_pos (by rfl)]
                        refine wp_store_mid _ _ _ rfl _ _ (List.toArray (bvs bq)) rfl rfl (by have h64 := bvs_len bq; rw [HBQ.out] at h64; have h65 := D8.out.there64 (rfS 5 A3 l3 c3 s'); simpa [h64] using h65) (by have h64 := size_of HBQ.out; simpa using h64) bvs_all ?_
                        refine hK.out _ _ (HS.out _ TD.out.below) (fun _ => ?_)
                        simp only [List.getElem_toArray, List.getElem_cons_zero, List.getElem_cons_succ, Act.put, List.setIfInBounds_toArray, List.set_cons_succ, List.set_cons_zero]
                        refine wpAnyH_take (i := 14) rfl (by kernel_rfl) (by kernel_rfl) (by kernel_rfl) (fun _ _ _ h => h) (.inl ⟨rfl, fun w' hw' => (by clear hw'; go_simp; rfl)⟩) (HS.out _ TD.out.below) ?_
                        simp only [List.getElem_toArray, List.getElem_cons_zero, List.getElem_cons_succ, Act.put, List.setIfInBounds_toArray, List.set_cons_succ, List.set_cons_zero]
                        refine wpAnyH_done (by kernel_rfl) ?_ _
                        refine NoPanic.normal ?_
                        go_wp2_with fail
                        go_meet
                        exact ⟨_, _, _, _, _, rfl, rfl, rfl, TD⟩
                      · rw [if_pos (by rfl)]
                        refine wp_alloc_as _ rfl _ zero_block ?_
                        have D9 := Lib.hid (D6.out.alloc64)
                        refine hK.out _ _ (HS.out _ D9.out.below) (fun _ => ?_)
                        simp only [List.getElem_toArray, List.getElem_cons_zero, List.getElem_cons_succ, Act.put, List.setIfInBounds_toArray, List.set_cons_succ, List.set_cons_zero]
                        generalize u6.heap.size = b18 at D9 ⊢
                        generalize u6.alloc (.cells Z64 37) = u9 at D9 ⊢
                        refine wpAnyH_ready (rs := [5]) (by kernel_rfl) (by simp) (AllReadyH.cons rfl (fun K hK => ?_) AllReadyH.nil)
                        rw [if_pos (by rfl)]
                        refine wp_fn (f := 10) (xs := #[sa.val 5 (.slice Aa la ca), actV kind nn b Ak lk ck]) (by first | (go_simp; done) | (go_simp; rfl)) ((HSH.out _ (T6.out.below D9.out.below).a.ew (T6.out.below D9.out.below).a.live.2.2).mono ?_)
                        rintro e u10 ⟨A3, l3, c3, rfl, hew, hA, hb7⟩
                        have D10 := Lib.hid (D9.out.call HLT.out hew hA hb7)
                        clear hew hA hb7
                        refine ⟨_, rfl, hK.out _ _ (HS.out _ D10.out.below) (fun _ => ?_)⟩
                        simp only [List.getElem_toArray, List.getElem_cons_zero, List.getElem_cons_succ, Act.put, List.setIfInBounds_toArray, List.set_cons_succ, List.set_cons_zero]
                        refine wpAnyH_take (i := 6) rfl (by kernel_rfl) (by kernel_rfl) (by kernel_rfl) (fun _ _ _ h => h) (.inl ⟨rfl, fun w' hw' => (by clear hw'; go_simp; rfl)⟩) (HS.out _ D10.out.below) ?_
                        simp only [List.getElem_toArray, List.getElem_cons_zero, List.getElem_cons_succ, Act.put, List.setIfInBounds_toArray, List.set_cons_succ, List.set_cons_zero]
                        refine wpAnyH_take (i := 7) rfl (by kernel_rfl) (by kernel_rfl) (by kernel_rfl) (fun _ _ _ h => h) (.inl ⟨rfl, fun w' hw' => (by clear hw'; go_simp; rfl)⟩) (HS.out _ D10.out.below) ?_
                        simp only [List.getElem_toArray, List.getElem_cons_zero, List.getElem_cons_succ, Act.put, List.setIfInBounds_toArray, List.set_cons_succ, List.set_cons_zero]
                        refine wpAnyH_take (i := 8) rfl (by kernel_rfl) (by kernel_rfl) (by kernel_rfl) (fun _ _ _ h => h) (.inl ⟨rfl, fun w' hw' => (by clear hw'; go_simp; rfl)⟩) (HS.out _ D10.out.below) ?_
                        simp only [List.getElem_toArray, List.getElem_cons_zero, List.getElem_cons_succ, Act.put, List.setIfInBounds_toArray, List.set_cons_succ, List.set_cons_zero]
                        refine wpAnyH_take (i := 9) rfl (by kernel_rfl) (by kernel_rfl) (by kernel_rfl) (fun _ _ _ h => h) (.inl ⟨rfl, fun w' hw' => (by clear hw'; go_simp; rfl)⟩) (HS.out _ D10.out.below) ?_
                        simp only [List.getElem_toArray, List.getElem_cons_zero, List.getElem_cons_succ, Act.put, List.setIfInBounds_toArray, List.set_cons_succ, List.set_cons_zero]
                        have TD := Lib.hid (D10.out.done (V := (rfS 5 A3 l3 c3 s')) rfl HBQ.out)
                        have BD := Lib.hid (below_setCells D10.out.below (D10.out.b6 b17 rfl).2 0 (rfS 5 A3 l3 c3 s'))
                        refine wpAnyH_ready (rs := [12]) (by kernel_rfl) (by simp) (AllReadyH.cons rfl (fun K hK => ?_) AllReadyH.nil)
                        rw [if_pos (by rfl)]
                        refine wp_store_mid _ _ _ rfl _ _ (List.toArray (rfS 5 A3 l3 c3 s')) rfl rfl D10.out.there6 ref_size rfL_all ?_
                        refine hK.out _ _ (HS.out _ BD.out) (fun _ => ?_)
                        simp only [List.getElem_toArray, List.getElem_cons_zero, List.getElem_cons_succ, Act.put, List.setIfInBounds_toArray, List.set_cons_succ, List.set_cons_zero]
                        refine wpAnyH_ready (rs := [13]) (by kernel_rfl) (by simp) (AllReadyH.cons rfl (fun K hK => ?_) AllReadyH.nil)
                        rw [if_pos (by rfl)]
                        refine wp_store_mid _ _ _ rfl _ _ (List.toArray (bvs bq)) rfl rfl (by have h64 := bvs_len bq; rw [HBQ.out] at h64; have h65 := D10.out.there64 (rfS 5 A3 l3 c3 s'); simpa [h64] using h65) (by have h64 := size_of HBQ.out; simpa using h64) bvs_all ?_
                        refine hK.out _ _ (HS.out _ TD.out.below) (fun _ => ?_)
                        simp only [List.getElem_toArray, List.getElem_cons_zero, List.getElem_cons_succ, Act.put, List.setIfInBounds_toArray, List.set_cons_succ, List.set_cons_zero]
                        refine wpAnyH_take (i := 14) rfl (by kernel_rfl) (by kernel_rfl) (by kernel_rfl) (fun _ _ _ h => h) (.inl ⟨rfl, fun w' hw' => (by clear hw'; go_simp; rfl)⟩) (HS.out _ TD.out.below) ?_
                        simp only [List.getElem_toArray, List.getElem_cons_zero, List.getElem_cons_succ, Act.put, List.setIfInBounds_toArray, List.set_cons_succ, List.set_cons_zero]
                        refine wpAnyH_done (by kernel_rfl) ?_ _
                        refine NoPanic.normal ?_
                        go_wp2_with fail
                        go_meet
                        exact ⟨_, _, _, _, _, rfl, rfl, rfl, TD⟩
                    · rw [if_pos (by rfl)]
                      refine wp_alloc_as _ rfl _ zero_block ?_
                      have D11 := Lib.hid (D0.out.alloc64)
                      refine hK.out _ _ (HS.out _ D11.out.below) (fun _ => ?_)
                      simp only [List.getElem_toArray, List.getElem_cons_zero, List.getElem_cons_succ, Act.put, List.setIfInBounds_toArray, List.set_cons_succ, List.set_cons_zero]
                      generalize w6.drew.heap.size = b18 at D11 ⊢
                      generalize w6.drew.alloc (.cells Z64 37) = u11 at D11 ⊢
                      refine wpAnyH_ready (rs := [5, 10]) (by kernel_rfl) (by simp) (AllReadyH.cons rfl (fun K hK => ?_) (AllReadyH.cons rfl (fun K hK => ?_) AllReadyH.nil))
                      · rw [if_pos (by rfl)]
                        refine wp_fn (f := 10) (xs := #[sa.val 5 (.slice Aa la ca), actV kind nn b Ak lk ck]) (by first | (go_simp; done) | (go_simp; rfl)) ((HSH.out _ (T6.out.below D11.out.below).a.ew (T6.out.below D11.out.below).a.live.2.2).mono ?_)
                        rintro e u12 ⟨A3, l3, c3, rfl, hew, hA, hb7⟩
                        have D12 := Lib.hid (D11.out.call HLT.out hew hA hb7)
                        clear hew hA hb7
                        refine ⟨_, rfl, hK.out _ _ (HS.out _ D12.out.below) (fun _ => ?_)⟩
                        simp only [List.getElem_toArray, List.getElem_cons_zero, List.getElem_cons_succ, Act.put, List.setIfInBounds_toArray, List.set_cons_succ, List.set_cons_zero]
                        refine wpAnyH_take (i := 6) rfl (by kernel_rfl) (by kernel_rfl) (by kernel_rfl) (fun _ _ _ h => h) (.inl ⟨rfl, fun w' hw' => (by clear hw'; go_simp; rfl)⟩) (HS.out _ D12.out.below) ?_
                        simp only [List.getElem_toArray, List.getElem_cons_zero, List.getElem_cons_succ, Act.put, List.setIfInBounds_toArray, List.set_cons_succ, List.set_cons_zero]
                        refine wpAnyH_take (i := 7) rfl (by kernel_rfl) (by kernel_rfl) (by kernel_rfl) (fun _ _ _ h => h) (.inl ⟨rfl, fun w' hw' => (by clear hw'; go_simp; rfl)⟩) (HS.out _ D12.out.below) ?_
                        simp only [List.getElem_toArray, List.getElem_cons_zero, List.getElem_cons_succ, Act.put, List.setIfInBounds_toArray, List.set_cons_succ, List.set_cons_zero]
                        refine wpAnyH_take (i := 8) rfl (by kernel_rfl) (by kernel_rfl) (by kernel_rfl) (fun _ _ _ h => h) (.inl ⟨rfl, fun w' hw' => (by clear hw'; go_simp; rfl)⟩) (HS.out _ D12.out.below) ?_
                        simp only [List.getElem_toArray, List.getElem_cons_zero, List.getElem_cons_succ, Act.put, List.setIfInBounds_toArray, List.set_cons_succ, List.set_cons_zero]
                        refine wpAnyH_take (i := 9) rfl (by kernel_rfl) (by kernel_rfl) (by kernel_rfl) (fun _ _ _ h => h) (.inl ⟨rfl, fun w' hw' => (by clear hw'; go_simp; rfl)⟩) (HS.out _ D12.out.below) ?_
                        simp only [List.getElem_toArray, List.getElem_cons_zero, List.getElem_cons_succ, Act.put, List.setIfInBounds_toArray, List.set_cons_succ, List.set_cons_zero]
                        refine wpAnyH_ready (rs := [10]) (by kernel_rfl) (by simp) (AllReadyH.cons rfl (fun K hK => ?_) AllReadyH.nil)
                        rw [if_pos (by rfl)]
                        refine wp_alloc_as _ rfl _ zero_ref ?_
                        have D13 := Lib.hid (D12.out.alloc6)
                        refine hK.out _ _ (HS.out _ D13.out.below) (fun _ => ?_)
                        simp only [List.getElem_toArray, List.getElem_cons_zero, List.getElem_cons_succ, Act.put, List.setIfInBounds_toArray, List.set_cons_succ, List.set_cons_zero]
                        generalize u12.heap.size = b17 at D13 ⊢
                        generalize u12.alloc (.cells rf0.toArray 30) = u13 at D13 ⊢
                        have TD := Lib.hid (D13.out.done (V := (rfS 5 A3 l3 c3 s')) rfl HBQ.out)
                        have BD := Lib.hid (below_setCells D13.out.below (D13.out.b6 b17 rfl).2 0 (rfS 5 A3 l3 c3 s'))
                        refine wpAnyH_ready (rs := [12]) (by kernel_rfl) (by simp) (AllReadyH.cons rfl (fun K hK => ?_) AllReadyH.nil)
                        rw [if_pos (by rfl)]
                        refine wp_store_mid _ _ _ rfl _ _ (List.toArray (rfS 5 A3 l3 c3 s')) rfl rfl D13.out.there6 ref_size rfL_all ?_
                        refine hK.out _ _ (HS.out _ BD.out) (fun _ => ?_)
                        simp only [List.getElem_toArray, List.getElem_cons_zero, List.getElem_cons_succ, Act.put, List.setIfInBounds_toArray, List.set_cons_succ, List.set_cons_zero]
                        refine wpAnyH_ready (rs := [13]) (by kernel_rfl) (by simp) (AllReadyH.cons rfl (fun K hK => ?_) AllReadyH.nil)
                        rw [if_pos (by rfl)]
                        refine wp_store_mid _ _ _ rfl _ _ (List.toArray (bvs bq)) rfl rfl (by have h64 := bvs_len bq; rw [HBQ.out] at h64; have h65 := D13.out.there64 (rfS 5 A3 l3 c3 s'); simpa [h64] using h65) (by have h64 := size_of HBQ.out; simpa using h64) bvs_all ?_
                        refine hK.out _ _ (HS.out _ TD.out.below) (fun _ => ?_)
                        simp only [List.getElem_toArray, List.getElem_cons_zero, List.getElem_cons_succ, Act.put, List.setIfInBounds_toArray, List.set_cons_succ, List.set_cons_zero]
                        refine wpAnyH_take (i := 14) rfl (by kernel_rfl) (by kernel_rfl) (by kernel_rfl) (fun _ _ _ h => h) (.inl ⟨rfl, fun w' hw' => (by clear hw'; go_simp; rfl)⟩) (HS.out _ TD.out.below) ?_
                        simp only [List.getElem_toArray, List.getElem_cons_zero, List.getElem_cons_succ, Act.put, List.setIfInBounds_toArray, List.set_cons_succ, List.set_cons_zero]
                        refine wpAnyH_done (by kernel_rfl) ?_ _
                        refine NoPanic.normal ?_
                        go_wp2_with fail
                        go_meet
                        exact ⟨_, _, _, _, _, rfl, rfl, rfl, TD⟩
                      · rw [if_pos (by rfl)]
                        refine wp_alloc_as _ rfl _ zero_ref ?_
                        have D14 := Lib.hid (D11.out.alloc6)
                        refine hK.out _ _ (HS.out _ D14.out.below) (fun _ => ?_)
                        simp only [List.getElem_toArray, List.getElem_cons_zero, List.getElem_cons_succ, Act.put, List.setIfInBounds_toArray, List.set_cons_succ, List.set_cons_zero]
                        generalize u11.heap.size = b17 at D14 ⊢
                        generalize u11.alloc (.cells rf0.toArray 30) = u14 at D14 ⊢
                        refine wpAnyH_ready (rs := [5]) (by kernel_rfl) (by simp) (AllReadyH.cons rfl (fun K hK => ?_) AllReadyH.nil)
                        rw [if_pos (by rfl)]
                        refine wp_fn (f := 10) (xs := #[sa.val 5 (.slice Aa la ca), actV kind nn b Ak lk ck]) (by first | (go_simp; done) | (go_simp; rfl)) ((HSH.out _ (T6.out.below D14.out.below).a.ew (T6.out.below D14.out.below).a.live.2.2).mono ?_)
                        rintro e u15 ⟨A3, l3, c3, rfl, hew, hA, hb7⟩
                        have D15 := Lib.hid (D14.out.call HLT.out hew hA hb7)
                        clear hew hA hb7
                        refine ⟨_, rfl, hK.out _ _ (HS.out _ D15.out.below) (fun _ => ?_)⟩
                        simp only [List.getElem_toArray, List.getElem_cons_zero, List.getElem_cons_succ, Act.put, List.setIfInBounds_toArray, List.set_cons_succ, List.set_cons_zero]
                        refine wpAnyH_take (i := 6) rfl (by kernel_rfl) (by kernel_rfl) (by kernel_rfl) (fun _ _ _ h => h) (.inl ⟨rfl, fun w' hw' => (by clear hw'; go_simp; rfl)⟩) (HS.out _ D15.out.below) ?_
                        simp only [List.getElem_toArray, List.getElem_cons_zero, List.getElem_cons_succ, Act.put, List.setIfInBounds_toArray, List.set_cons_succ, List.set_cons_zero]
                        refine wpAnyH_take (i := 7) rfl (by kernel_rfl) (by kernel_rfl) (by kernel_rfl) (fun _ _ _ h => h) (.inl ⟨rfl, fun w' hw' => (by clear hw'; go_simp; rfl)⟩) (HS.out _ D15.out.below) ?_
                        simp only [List.getElem_toArray, List.getElem_cons_zero, List.getElem_cons_succ, Act.put, List.setIfInBounds_toArray, List.set_cons_succ, List.set_cons_zero]
                        refine wpAnyH_take (i := 8) rfl (by kernel_rfl) (by kernel_rfl) (by kernel_rfl) (fun _ _ _ h => h) (.inl ⟨rfl, fun w' hw' => (by clear hw'; go_simp; rfl)⟩) (HS.out _ D15.out.below) ?_
                        simp only [List.getElem_toArray, List.getElem_cons_zero, List.getElem_cons_succ, Act.put, List.setIfInBounds_toArray, List.set_cons_succ, List.set_cons_zero]
                        refine wpAnyH_take (i := 9) rfl (by kernel_rfl) (by kernel_rfl) (by kernel_rfl) (fun _ _ _ h => h) (.inl ⟨rfl, fun w' hw' => (by clear hw'; go_simp; rfl)⟩) (HS.out _ D15.out.below) ?_
                        simp only [List.getElem_toArray, List.getElem_cons_zero, List.getElem_cons_succ, Act.put, List.setIfInBounds_toArray, List.set_cons_succ, List.set_cons_zero]
                        have TD := Lib.hid (D15.out.done (V := (rfS 5 A3 l3 c3 s')) rfl HBQ.out)
                        have BD := Lib.hid (below_setCells D15.out.below (D15.out.b6 b17 rfl).2 0 (rfS 5 A3 l3 c3 s'))
                        refine wpAnyH_ready (rs := [12]) (by kernel_rfl) (by simp) (AllReadyH.cons rfl (fun K hK => ?_) AllReadyH.nil)
                        rw [if_pos (by rfl)]
                        refine wp_store_mid _ _ _ rfl _ _ (List.toArray (rfS 5 A3 l3 c3 s')) rfl rfl D15.out.there6 ref_size rfL_all ?_
                        refine hK.out _ _ (HS.out _ BD.out) (fun _ => ?_)
                        simp only [List.getElem_toArray, List.getElem_cons_zero, List.getElem_cons_succ, Act.put, List.setIfInBounds_toArray, List.set_cons_succ, List.set_cons_zero]
                        refine wpAnyH_ready (rs := [13]) (by kernel_rfl) (by simp) (AllReadyH.cons rfl (fun K hK => ?_) AllReadyH.nil)
                        rw [if_pos (by rfl)]
                        refine wp_store_mid _ _ _ rfl _ _ (List.toArray (bvs bq)) rfl rfl (by have h64 := bvs_len bq; rw [HBQ.out] at h64; have h65 := D15.out.there64 (rfS 5 A3 l3 c3 s'); simpa [h64] using h65) (by have h64 := size_of HBQ.out; simpa using h64) bvs_all ?_
                        refine hK.out _ _ (HS.out _ TD.out.below) (fun _ => ?_)
                        simp only [List.getElem_toArray, List.getElem_cons_zero, List.getElem_cons_succ, Act.put, List.setIfInBounds_toArray, List.set_cons_succ, List.set_cons_zero]
                        refine wpAnyH_take (i := 14) rfl (by kernel_rfl) (by kernel_rfl) (by kernel_rfl) (fun _ _ _ h => h) (.inl ⟨rfl, fun w' hw' => (by clear hw'; go_simp; rfl)⟩) (HS.out _ TD.out.below) ?_
                        simp only [List.getElem_toArray, List.getElem_cons_zero, List.getElem_cons_succ, Act.put, List.setIfInBounds_toArray, List.set_cons_succ, List.set_cons_zero]
                        refine wpAnyH_done (by kernel_rfl) ?_ _
                        refine NoPanic.normal ?_
                        go_wp2_with fail
                        go_meet
                        exact ⟨_, _, _, _, _, rfl, rfl, rfl, TD⟩
                  case rest =>
                    obtain ⟨B17, B18, A3, l3, c3, rfl, rfl, rfl, hTr⟩ := hcut
                    obtain ⟨w7, hw7⟩ : ∃ w7 : World, w7 = wc := ⟨_, rfl⟩
                    rw [← hw7] at hTr ⊢
                    clear hw7
                    have TR := Lib.hid hTr.out
                    have T7 := Lib.hid (T6.out.below TR.out.below)
                    have OFF := Lib.hid (T6.out.fresh TR.out.old)
                    have B7 := Lib.hid (B6.out.below TR.out.below B6.out.lt)
                    have N7 := Lib.hid (show B18 ≠ b7 from fun e => by have := T6.out.a.x.lt; have := TR.out.hB'; omega)
                    have T8 := Lib.hid (T7.out.put (V2 := rfS 5 A3 l3 c3 s') TR.out.ew OFF.out rfl)
                    have B8 := Lib.hid (B7.out.other N6.out 0 (rfS 5 A3 l3 c3 s'))
                    have D8 := Lib.hid (TR.out.y.other N7.out 0 (rfS 5 A3 l3 c3 s'))
                    have hE := fun w => neq_same HBQ.out w
                    have hne : (er != er) = false := by simp
                    clear hTr
                    go_wp2_with (first
                      | (with_reducible refine ld_ref rfl _ rfl B17 5 (.slice A3 l3 c3) s'.dead s'.fu s'.fa s'.done rfl TR.out.x.rg ?_)
                      | (with_reducible refine st_ref rfl _ _ rfl b7 5 A3 l3 c3 s'.dead s'.fu s'.fa s'.done rfl rfl T7.out.a.x.th ?_)
                      | (with_reducible refine ld_block rfl (.tmp 15) rfl b15 0 bq HBQ rfl B8.out.rg ?_)
                      | (with_reducible refine ld_block rfl (.tmp 18) rfl B18 0 bq HBQ rfl D8.out.rg ?_)
                      | fail)
                    go_meet
                    exact ⟨_, _, _, _, _, _, _, HPF, T8⟩
                · have hd1 : decide ((k : Int) < (m1 : Int)) = false := by simp; omega
                  go_wp2_with fail
                  go_meet
                  exact ⟨_, _, _, _, _, _, _, Lib.hid hFa.out.weak, hT⟩
              case rest =>
                obtain ⟨Ma2, sa2, Aa2, la2, ca2, ea2, Sa2, hFa2, hT2⟩ := hcut
                obtain ⟨wd, hwd⟩ : ∃ wd : World, wd = wc := ⟨_, rfl⟩
                rw [← hwd] at hT2 ⊢
                clear hwd
                go_upto_if 110 with fail
                obtain ⟨wi, hwi⟩ : ∃ wi : World, wi = wd := ⟨_, rfl⟩
                rw [← hwi] at hT2 ⊢
                clear hwi
                by_cases h1 : k < m2
                · have hd1 : decide ((k : Int) < (m2 : Int)) = true := by simp; omega
                  have hk3 : (k : Int) < (m2 : Int) := by omega
                  have T1 := Lib.hid (hT2.out.swap)
                  have hlas : cl.length = m2 := HS2.out.len
                  obtain ⟨bb, oo, hA, hbb, hcells⟩ := HS2.out.pos (by omega)
                  have hcell := hcells k (by omega)
                  obtain ⟨a, ha⟩ : ∃ a, cl[k]'(by omega) = a := ⟨_, rfl⟩
                  have haok := HS2.out.ok a (by rw [← ha]; exact List.getElem_mem _)
                  rw [ha] at hcell
                  have hbw : Below W.heap.size W wi := T1.out.b.live.2.2
                  have hcw := rangeAt_keep hcell (hbw.block bb hbb)
                  subst hA
                  obtain ⟨kind, nn, b, Ak, lk, ck, ks⟩ := a
                  have q0 : wi.cell? ⟨bb, oo + k * 4, none⟩ = some (.int .i64 kind) := hcw 0 _ rfl
                  have q1 : wi.cell? ⟨bb, oo + k * 4 + 1, none⟩ = some (.int .i64 nn) := hcw 1 _ rfl
                  have q2 : wi.cell? ⟨bb, oo + k * 4 + 2, none⟩ = some (.int .u8 (b.toNat : Int)) := hcw 2 _ rfl
                  have q3 : wi.cell? ⟨bb, oo + k * 4 + 3, none⟩ = some (.slice Ak lk ck) := hcw 3 _ rfl
                  have hqb : bb < wi.heap.size := Nat.lt_of_lt_of_le hbb hbw.size
                  have HKS : Hid (SlV W W.heap.size Ak lk ck (bls ks)) := Lib.hid haok.ks
                  have HN := Lib.hid haok.n
                  have HBB := Lib.hid hbb
                  have HBW := Lib.hid hbw
                  have HCELL := Lib.hid hcell
                  obtain ⟨M', s', es', bq, er, hact, hsh, hpf, hlq⟩ := half hFb.out T1.out.a.live.1.ok T1.out.a.ew.fit kind nn b ks haok.n.2
                  have HAP := Lib.hid (T1.out.happens hFb.out (by omega) kind nn b (HKS.out.below HBW.out) HBW.out.size haok.n hact)
                  have HSH := Lib.hid (fun w0 (h0 : Ew w0 Ab lb cb eb) (hb : Below W.heap.size W w0) => ew_should (N := 5) (NI := 5) rfl h0 hFb.out (by omega) (by decide) kind nn b (HKS.out.below hb) hb.size hsh)
                  have HPF := Lib.hid hpf
                  have HBQ := Lib.hid hlq
                  clear hact hsh hpf hlq hcells hcell haok hbw hcw hlas ha
                  go_wp2_with fail
                  refine (HAP.out).mono ?_
                  rintro e w5 ⟨rfl, S5, hp5, hm5, hg5⟩
                  have T5 := Lib.hid hp5
                  clear hm5 hg5 hp5 q0 q1 q2 q3
                  have TH5 := Lib.hid (Z64_there w5)
                  have hb6 : Below w5.heap.size w5 ((zbW w5).setCells w5.heap.size 0 (bvs bq)) := below_setCells (zbW_below w5) (Nat.le_refl _) 0 (bvs bq)
                  have T6 := Lib.hid (T5.out.below hb6)
                  have N6 := Lib.hid (show w5.heap.size ≠ b8 from fun e => by have := T5.out.a.x.lt; omega)
                  have B6 : Hid (Lies ((zbW w5).setCells w5.heap.size 0 (bvs bq)) w5.heap.size 64 (bvs bq)) := Lib.hid ((Lies.zb w5).set_ (by rw [bvs_len, HBQ.out]))
                  clear hb6
                  go_upto_region 28 with (first
                    | (with_reducible refine al_block rfl rfl ?_)
                    | (with_reducible refine st_block rfl _ _ rfl w5.heap.size 0 bq HBQ rfl rfl TH5.out ?_)
                    | fail)
                  clear TH5
                  generalize (zbW w5).setCells w5.heap.size 0 (bvs bq) = w6 at T6 B6 ⊢
                  generalize w5.heap.size = b15 at N6 B6 ⊢
                  have HCW := Lib.hid (show w6.rangeAt bb (oo + k * 4) (acL kind nn b Ak lk ck) from rangeAt_keep HCELL.out (T6.out.a.live.2.2.block bb HBB.out))
                  have HB6 := Lib.hid (show bb < w6.heap.size from Nat.lt_of_lt_of_le HBB.out T6.out.a.live.2.2.size)
                  go_cut [22, 23, 24] (fun s17 s18 s19 wx => ∃ (B17 B18 : Nat) (A3 : Option Addr) (l3 c3 : Nat), s17 = .pointer (some ⟨B17, 0, none⟩) ∧ s18 = .pointer (some ⟨B18, 0, none⟩) ∧ s19 = .int .i64 er ∧ Hid (Trd w6 Ab es' A3 l3 c3 B17 (rfS 5 A3 l3 c3 s') B18 bq wx))
                  case first =>
                    have D0 := Lib.hid (Tri.start w6 Ab es')
                    have HS := Lib.hid (fun (w' : World) (hb : Below w6.heap.size w6 w') => show w'.rangeAt b8 0 (rfS 5 Ab lb cb sb) ∧ w'.rangeAt bb (oo + k * 4) (acL kind nn b Ak lk ck) from ⟨(T6.out.below hb).a.x.rg, rangeAt_keep HCW.out (hb.block bb HB6.out)⟩)
                    have HLT := Lib.hid (fun x (hx : Ab = some x) => T6.out.a.ew.lt hx)
                    refine wp_region_noPanic ?_
                    refine wp_region_held_drew (S := fun w' => w'.rangeAt b8 0 (rfS 5 Ab lb cb sb) ∧ w'.rangeAt bb (oo + k * 4) (acL kind nn b Ak lk ck)) (by kernel_rfl) (HS.out _ D0.out.below) (fun _ => ?_)
                    refine wpAnyH_take (i := 0) rfl (by kernel_rfl) (by kernel_rfl) (by kernel_rfl) (fun _ _ _ h => h) (yieldsIf_load_mid rfl 30 _ rfl (b8) (0) rfl ((rfS 5 Ab lb cb sb)) _ (fun w' hw' => hw'.1) Try.underlying30 rfl ref_size) (HS.out _ D0.out.below) ?_
                    simp only [List.getElem_toArray, List.getElem_cons_zero, List.getElem_cons_succ, Act.put, List.setIfInBounds_toArray, List.set_cons_succ, List.set_cons_zero]
                    refine wpAnyH_take (i := 1) rfl (by kernel_rfl) (by kernel_rfl) (by kernel_rfl) (fun _ _ _ h => h) (.inl ⟨rfl, fun w' hw' => (by clear hw'; go_simp; rfl)⟩) (HS.out _ D0.out.below) ?_
                    simp only [List.getElem_toArray, List.getElem_cons_zero, List.getElem_cons_succ, Act.put, List.setIfInBounds_toArray, List.set_cons_succ, List.set_cons_zero]
                    refine wpAnyH_take (i := 2) rfl (by kernel_rfl) (by kernel_rfl) (by kernel_rfl) (fun _ _ _ h => h) (.inl ⟨rfl, fun w' hw' => (by clear hw'; go_simp; rfl)⟩) (HS.out _ D0.out.below) ?_
                    simp only [List.getElem_toArray, List.getElem_cons_zero, List.getElem_cons_succ, Act.put, List.setIfInBounds_toArray, List.set_cons_succ, List.set_cons_zero]
                    refine wpAnyH_take (i := 3) rfl (by kernel_rfl) (by kernel_rfl) (by kernel_rfl) (fun _ _ _ h => h) (.inl ⟨rfl, fun w' hw' => (by clear hw'; go_simp; rfl)⟩) (HS.out _ D0.out.below) ?_
                    simp only [List.getElem_toArray, List.getElem_cons_zero, List.getElem_cons_succ, Act.put, List.setIfInBounds_toArray, List.set_cons_succ, List.set_cons_zero]
                    refine wpAnyH_take (i := 4) rfl (by kernel_rfl) (by kernel_rfl) (by kernel_rfl) (fun _ _ _ h => h) (yieldsIf_load_mid rfl 35 _ rfl (bb) (oo + k * 4) rfl (acL kind nn b Ak lk ck) _ (fun w' hw' => hw'.2) Try.underlying35 rfl (by kernel_rfl)) (HS.out _ D0.out.below) ?_
                    simp only [List.getElem_toArray, List.getElem_cons_zero, List.getElem_cons_succ, Act.put, List.setIfInBounds_toArray, List.set_cons_succ, List.set_cons_zero]
                    refine wpAnyH_ready (rs := [5, 10, 11]) (by kernel_rfl) (by simp) (AllReadyH.cons rfl (fun K hK => ?_) (AllReadyH.cons rfl (fun K hK => ?_) (AllReadyH.cons rfl (fun K hK => ?_) AllReadyH.nil)))
                    · rw [if_pos (by rfl)]
                      refine wp_fn (f := 10) (xs := #[sb.val 5 (.slice Ab lb cb), actV kind nn b Ak lk ck]) (by first | (go_simp; done) | (go_simp; rfl)) ((HSH.out _ (T6.out.below D0.out.below).a.ew (T6.out.below D0.out.below).a.live.2.2).mono ?_)
                      rintro e u1 ⟨A3, l3, c3, rfl, hew, hA, hb7⟩
                      have D1 := Lib.hid (D0.out.call HLT.out hew hA hb7)
                      clear hew hA hb7
                      refine ⟨_, rfl, hK.out _ _ (HS.out _ D1.out.below) (fun _ => ?_)⟩
                      simp only [List.getElem_toArray, List.getElem_cons_zero, List.getElem_cons_succ, Act.put, List.setIfInBounds_toArray, List.set_cons_succ, List.set_cons_zero]
                      refine wpAnyH_take (i := 6) rfl (by kernel_rfl) (by kernel_rfl) (by kernel_rfl) (fun _ _ _ h => h) (.inl ⟨rfl, fun w' hw' => (by clear hw'; go_simp; rfl)⟩) (HS.out _ D1.out.below) ?_
                      simp only [List.getElem_toArray, List.getElem_cons_zero, List.getElem_cons_succ, Act.put, List.setIfInBounds_toArray, List.set_cons_succ, List.set_cons_zero]
                      refine wpAnyH_take (i := 7) rfl (by kernel_rfl) (by kernel_rfl) (by kernel_rfl) (fun _ _ _ h => h) (.inl ⟨rfl, fun w' hw' => (by clear hw'; go_simp; rfl)⟩) (HS.out _ D1.out.below) ?_
                      simp only [List.getElem_toArray, List.getElem_cons_zero, List.getElem_cons_succ, Act.put, List.setIfInBounds_toArray, List.set_cons_succ, List.set_cons_zero]
                      refine wpAnyH_take (i := 8) rfl (by kernel_rfl) (by kernel_rfl) (by kernel_rfl) (fun _ _ _ h => h) (.inl ⟨rfl, fun w' hw' => (by clear hw'; go_simp; rfl)⟩) (HS.out _ D1.out.below) ?_
                      simp only [List.getElem_toArray, List.getElem_cons_zero, List.getElem_cons_succ, Act.put, List.setIfInBounds_toArray, List.set_cons_succ, List.set_cons_zero]
                      refine wpAnyH_take (i := 9) rfl (by kernel_rfl) (by kernel_rfl) (by kernel_rfl) (fun _ _ _ h => h) (.inl ⟨rfl, fun w' hw' => (by clear hw'; go_simp; rfl)⟩) (HS.out _ D1.out.below) ?_
                      simp only [List.getElem_toArray, List.getElem_cons_zero, List.getElem_cons_succ, Act.put, List.setIfInBounds_toArray, List.set_cons_succ, List.set_cons_zero]
                      refine wpAnyH_ready (rs := [10, 11]) (by kernel_rfl) (by simp) (AllReadyH.cons rfl (fun K hK => ?_) (AllReadyH.cons rfl (fun K hK => ?_) AllReadyH.nil))
                      · rw [if_pos (by rfl)]
                        refine wp_alloc_as _ rfl _ zero_ref ?_
                        have D2 := Lib.hid (D1.out.alloc6)
                        refine hK.out _ _ (HS.out _ D2.out.below) (fun _ => ?_)
                        simp only [List.getElem_toArray, List.getElem_cons_zero, List.getElem_cons_succ, Act.put, List.setIfInBounds_toArray, List.set_cons_succ, List.set_cons_zero]
                        generalize u1.heap.size = b17 at D2 ⊢
                        generalize u1.alloc (.cells rf0.toArray 30) = u2 at D2 ⊢
                        refine wpAnyH_ready (rs := [11]) (by kernel_rfl) (by simp) (AllReadyH.cons rfl (fun K hK => ?_) AllReadyH.nil)
                        rw [if_pos (by rfl)]
                        refine wp_alloc_as _ rfl _ zero_block ?_
                        have D3 := Lib.hid (D2.out.alloc64)
                        refine hK.out _ _ (HS.out _ D3.out.below) (fun _ => ?_)
                        simp only [List.getElem_toArray, List.getElem_cons_zero, List.getElem_cons_succ, Act.put, List.setIfInBounds_toArray, List.set_cons_succ, List.set_cons_zero]
                        generalize u2.heap.size = b18 at D3 ⊢
                        generalize u2.alloc (.cells Z64 37) = u3 at D3 ⊢
                        have TD := Lib.hid (D3.out.done (V := (rfS 5 A3 l3 c3 s')) rfl HBQ.out)
                        have BD := Lib.hid (below_setCells D3.out.below (D3.out.b6 b17 rfl).2 0 (rfS 5 A3 l3 c3 s'))
                        refine wpAnyH_ready (rs := [12]) (by kernel_rfl) (by simp) (AllReadyH.cons rfl (fun K hK => ?_) AllReadyH.nil)
                        rw [if_pos (by rfl)]
                        refine wp_store_mid _ _ _ rfl _ _ (List.toArray (rfS 5 A3 l3 c3 s')) rfl rfl D3.out.there6 ref_size rfL_all ?_
                        refine hK.out _ _ (HS.out _ BD.out) (fun _ => ?_)
                        simp only [List.getElem_toArray, List.getElem_cons_zero, List.getElem_cons_succ, Act.put, List.setIfInBounds_toArray, List.set_cons_succ, List.set_cons_zero]
                        refine wpAnyH_ready (rs := [13]) (by kernel_rfl) (by simp) (AllReadyH.cons rfl (fun K hK => ?_) AllReadyH.nil)
                        rw [if_pos (by rfl)]
                        refine wp_store_mid _ _ _ rfl _ _ (List.toArray (bvs bq)) rfl rfl (by have h64 := bvs_len bq; rw [HBQ.out] at h64; have h65 := D3.out.there64 (rfS 5 A3 l3 c3 s'); simpa [h64] using h65) (by have h64 := size_of HBQ.out; simpa using h64) bvs_all ?_
                        refine hK.out _ _ (HS.out _ TD.out.below) (fun _ => ?_)
                        simp only [List.getElem_toArray, List.getElem_cons_zero, List.getElem_cons_succ, Act.put, List.setIfInBounds_toArray, List.set_cons_succ, List.set_cons_zero]
                        refine wpAnyH_take (i := 14) rfl (by kernel_rfl) (by kernel_rfl) (by kernel_rfl) (fun _ _ _ h => h) (.inl ⟨rfl, fun w' hw' => (by clear hw'; go_simp; rfl)⟩) (HS.out _ TD.out.below) ?_
                        simp only [List.getElem_toArray, List.getElem_cons_zero, List.getElem_cons_succ, Act.put, List.setIfInBounds_toArray, List.set_cons_succ, List.set_cons_zero]
                        refine wpAnyH_done (by kernel_rfl) ?_ _
                        refine NoPanic.normal ?_
                        go_wp2_with fail
                        go_meet
                        exact ⟨_, _, _, _, _, rfl, rfl, rfl, TD⟩
                      · rw [if_pos (by rfl)]
                        refine wp_alloc_as _ rfl _ zero_block ?_
                        have D4 := Lib.hid (D1.out.alloc64)
                        refine hK.out _ _ (HS.out _ D4.out.below) (fun _ => ?_)
                        simp only [List.getElem_toArray, List.getElem_cons_zero, List.getElem_cons_succ, Act.put, List.setIfInBounds_toArray, List.set_cons_succ, List.set_cons_zero]
                        generalize u1.heap.size = b18 at D4 ⊢
                        generalize u1.alloc (.cells Z64 37) = u4 at D4 ⊢
                        refine wpAnyH_ready (rs := [10]) (by kernel_rfl) (by simp) (AllReadyH.cons rfl (fun K hK => ?_) AllReadyH.nil)
                        rw [if_pos (by rfl)]
                        refine wp_alloc_as _ rfl _ zero_ref ?_
                        have D5 := Lib.hid (D4.out.alloc6)
                        refine hK.out _ _ (HS.out _ D5.out.below) (fun _ => ?_)
                        simp only [List.getElem_toArray, List.getElem_cons_zero, List.getElem_cons_succ, Act.put, List.setIfInBounds_toArray, List.set_cons_succ, List.set_cons_zero]
                        generalize u4.heap.size = b17 at D5 ⊢
                        generalize u4.alloc (.cells rf0.toArray 30) = u5 at D5 ⊢
                        have TD := Lib.hid (D5.out.done (V := (rfS 5 A3 l3 c3 s')) rfl HBQ.out)
                        have BD := Lib.hid (below_setCells D5.out.below (D5.out.b6 b17 rfl).2 0 (rfS 5 A3 l3 c3 s'))
                        refine wpAnyH_ready (rs := [12]) (by kernel_rfl) (by simp) (AllReadyH.cons rfl (fun K hK => ?_) AllReadyH.nil)
                        rw [if_pos (by rfl)]
                        refine wp_store_mid _ _ _ rfl _ _ (List.toArray (rfS 5 A3 l3 c3 s')) rfl rfl D5.out.there6 ref_size rfL_all ?_
                        refine hK.out _ _ (HS.out _ BD.out) (fun _ => ?_)
                        simp only [List.getElem_toArray, List.getElem_cons_zero, List.getElem_cons_succ, Act.put, List.setIfInBounds_toArray, List.set_cons_succ, List.set_cons_zero]
                        refine wpAnyH_ready (rs := [13]) (by kernel_rfl) (by simp) (AllReadyH.cons rfl (fun K hK => ?_) AllReadyH.nil)
                        rw [if_pos (by rfl)]
                        refine wp_store_mid _ _ _ rfl _ _ (List.toArray (bvs bq)) rfl rfl (by have h64 := bvs_len bq; rw [HBQ.out] at h64; have h65 := D5.out.there64 (rfS 5 A3 l3 c3 s'); simpa [h64] using h65) (by have h64 := size_of HBQ.out; simpa using h64) bvs_all ?_
                        refine hK.out _ _ (HS.out _ TD.out.below) (fun _ => ?_)
                        simp only [List.getElem_toArray, List.getElem_cons_zero, List.getElem_cons_succ, Act.put, List.setIfInBounds_toArray, List.set_cons_succ, List.set_cons_zero]
                        refine wpAnyH_take (i := 14) rfl (by kernel_rfl) (by kernel_rfl) (by kernel_rfl) (fun _ _ _ h => h) (.inl ⟨rfl, fun w' hw' => (by clear hw'; go_simp; rfl)⟩) (HS.out _ TD.out.below) ?_
                        simp only [List.getElem_toArray, List.getElem_cons_zero, List.getElem_cons_succ, Act.put, List.setIfInBounds_toArray, List.set_cons_succ, List.set_cons_zero]
                        refine wpAnyH_done (by kernel_rfl) ?_ _
                        refine NoPanic.normal ?_
                        go_wp2_with fail
                        go_meet
                        exact ⟨_, _, _, _, _, rfl, rfl, rfl, TD⟩
                    · rw [if_pos (by rfl)]
                      refine wp_alloc_as _ rfl _ zero_ref ?_
                      have D6 := Lib.hid (D0.out.alloc6)
                      refine hK.out _ _ (HS.out _ D6.out.below) (fun _ => ?_)
                      simp only [List.getElem_toArray, List.getElem_cons_zero, List.getElem_cons_succ, Act.put, List.setIfInBounds_toArray, List.set_cons_succ, List.set_cons_zero]
                      generalize w6.drew.heap.size = b17 at D6 ⊢
                      generalize w6.drew.alloc (.cells rf0.toArray 30) = u6 at D6 ⊢
                      refine wpAnyH_ready (rs := [5, 11]) (by kernel_rfl) (by simp) (AllReadyH.cons rfl (fun K hK => ?_) (AllReadyH.cons rfl (fun K hK => ?_) AllReadyH.nil))
                      · rw [if_pos (by rfl)]
                        refine wp_fn (f := 10) (xs := #[sb.val 5 (.slice Ab lb cb), actV kind nn b Ak lk ck]) (by first | (go_simp; done) | (go_simp; rfl)) ((HSH.out _ (T6.out.below D6.out.below).a.ew (T6.out.below D6.out.below).a.live.2.2).mono ?_)
                        rintro e u7 ⟨A3, l3, c3, rfl, hew, hA, hb7⟩
                        have D7 := Lib.hid (D6.out.call HLT.out hew hA hb7)
                        clear hew hA hb7
                        refine ⟨_, rfl, hK.out _ _ (HS.out _ D7.out.below) (fun _ => ?_)⟩
                        simp only [List.getElem_toArray, List.getElem_cons_zero, List.getElem_cons_succ, Act.put, List.setIfInBounds_toArray, List.set_cons_succ, List.set_cons_zero]
                        refine wpAnyH_take (i := 6) rfl (by kernel_rfl) (by kernel_rfl) (by kernel_rfl) (fun _ _ _ h => h) (.inl ⟨rfl, fun w' hw' => (by clear hw'; go_simp; rfl)⟩) (HS.out _ D7.out.below) ?_
                        simp only [List.getElem_toArray, List.getElem_cons_zero, List.getElem_cons_succ, Act.put, List.setIfInBounds_toArray, List.set_cons_succ, List.set_cons_zero]
                        refine wpAnyH_take (i := 7) rfl (by kernel_rfl) (by kernel_rfl) (by kernel_rfl) (fun _ _ _ h => h) (.inl ⟨rfl, fun w' hw' => (by clear hw'; go_simp; rfl)⟩) (HS.out _ D7.out.below) ?_
                        simp only [List.getElem_toArray, List.getElem_cons_zero, List.getElem_cons_succ, Act.put, List.setIfInBounds_toArray, List.set_cons_succ, List.set_cons_zero]
                        refine wpAnyH_take (i := 8) rfl (by kernel_rfl) (by kernel_rfl) (by kernel_rfl) (fun _ _ _ h => h) (.inl ⟨rfl, fun w' hw' => (by clear hw'; go_simp; rfl)⟩) (HS.out _ D7.out.below) ?_
                        simp only [List.getElem_toArray, List.getElem_cons_zero, List.getElem_cons_succ, Act.put, List.setIfInBounds_toArray, List.set_cons_succ, List.set_cons_zero]
                        refine wpAnyH_take (i := 9) rfl (by kernel_rfl) (by kernel_rfl) (by kernel_rfl) (fun _ _ _ h => h) (.inl ⟨rfl, fun w' hw' => (by clear hw'; go_simp; rfl)⟩) (HS.out _ D7.out.below) ?_
                        simp only [List.getElem_toArray, List.getElem_cons_zero, List.getElem_cons_succ, Act.put, List.setIfInBounds_toArray, List.set_cons_succ, List.set_cons_zero]
                        refine wpAnyH_ready (rs := [11]) (by kernel_rfl) (by simp) (AllReadyH.cons rfl (fun K hK => ?_) AllReadyH.nil)
                        rw [if_pos (by rfl)]
                        refine wp_alloc_as _ rfl _ zero_block ?_
                        have D8 := Lib.hid (D7.out.alloc64)
                        refine hK.out _ _ (HS.out _ D8.out.below) (fun _ => ?_)
                        simp only [List.getElem_toArray, List.getElem_cons_zero, List.getElem_cons_succ, Act.put, List.setIfInBounds_toArray, List.set_cons_succ, List.set_cons_zero]
                        generalize u7.heap.size = b18 at D8 ⊢
                        generalize u7.alloc (.cells Z64 37) = u8 at D8 ⊢
                        have TD := Lib.hid (D8.out.done (V := (rfS 5 A3 l3 c3 s')) rfl HBQ.out)
                        have BD := Lib.hid (below_setCells D8.out.below (D8.out.b6 b17 rfl).2 0 (rfS 5 A3 l3 c3 s'))
                        refine wpAnyH_ready (rs := [12]) (by kernel_rfl) (by simp) (AllReadyH.cons rfl (fun K hK => ?_) AllReadyH.nil)
                        rw [if_pos (by rfl)]
                        refine wp_store_mid _ _ _ rfl _ _ (List.toArray (rfS 5 A3 l3 c3 s')) rfl rfl D8.out.there6 ref_size rfL_all ?_
                        refine hK.out _ _ (HS.out _ BD.out) (fun _ => ?_)
                        simp only [List.getElem_toArray, List.getElem_cons_zero, List.getElem_cons_succ, Act.put, List.setIfInBounds_toArray, List.set_cons_succ, List.set_cons_zero]
                        refine wpAnyH_ready (rs := [13]) (by kernel_rfl) (by simp) (AllReadyH.cons rfl (fun K hK => ?_) AllReadyH.nil)
                        rw [if_pos (by rfl)]
                        refine wp_store_mid _ _ _ rfl _ _ (List.toArray (bvs bq)) rfl rfl (by have h64 := bvs_len bq; rw [HBQ.out] at h64; have h65 := D8.out.there64 (rfS 5 A3 l3 c3 s'); simpa [h64] using h65) (by have h64 := size_of HBQ.out; simpa using h64) bvs_all ?_
                        refine hK.out _ _ (HS.out _ TD.out.below) (fun _ => ?_)
                        simp only [List.getElem_toArray, List.getElem_cons_zero, List.getElem_cons_succ, Act.put, List.setIfInBounds_toArray, List.set_cons_succ, List.set_cons_zero]
                        refine wpAnyH_take (i := 14) rfl (by kernel_rfl) (by kernel_rfl) (by kernel_rfl) (fun _ _ _ h => h) (.inl ⟨rfl, fun w' hw' => (by clear hw'; go_simp; rfl)⟩) (HS.out _ TD.out.below) ?_
                        simp only [List.getElem_toArray, List.getElem_cons_zero, List.getElem_cons_succ, Act.put, List.setIfInBounds_toArray, List.set_cons_succ, List.set_cons_zero]
                        refine wpAnyH_done (by kernel_rfl) ?_ _
                        refine NoPanic.normal ?_
                        go_wp2_with fail
                        go_meet
                        exact ⟨_, _, _, _, _, rfl, rfl, rfl, TD⟩
                      · rw [if_pos (by rfl)]
                        refine wp_alloc_as _ rfl _ zero_block ?_
                        have D9 := Lib.hid (D6.out.alloc64)
                        refine hK.out _ _ (HS.out _ D9.out.below) (fun _ => ?_)
                        simp only [List.getElem_toArray, List.getElem_cons_zero, List.getElem_cons_succ, Act.put, List.setIfInBounds_toArray, List.set_cons_succ, List.set_cons_zero]
                        generalize u6.heap.size = b18 at D9 ⊢
                        generalize u6.alloc (.cells Z64 37) = u9 at D9 ⊢
                        refine wpAnyH_ready (rs := [5]) (by kernel_rfl) (by simp) (AllReadyH.cons rfl (fun K hK => ?_) AllReadyH.nil)
                        rw [if_pos (by rfl)]
                        refine wp_fn (f := 10) (xs := #[sb.val 5 (.slice Ab lb cb), actV kind nn b Ak lk ck]) (by first | (go_simp; done) | (go_simp; rfl)) ((HSH.out _ (T6.out.below D9.out.below).a.ew (T6.out.below D9.out.below).a.live.2.2).mono ?_)
                        rintro e u10 ⟨A3, l3, c3, rfl, hew, hA, hb7⟩
                        have D10 := Lib.hid (D9.out.call HLT.out hew hA hb7)
                        clear hew hA hb7
                        refine ⟨_, rfl, hK.out _ _ (HS.out _ D10.out.below) (fun _ => ?_)⟩
                        simp only [List.getElem_toArray, List.getElem_cons_zero, List.getElem_cons_succ, Act.put, List.setIfInBounds_toArray, List.set_cons_succ, List.set_cons_zero]
                        refine wpAnyH_take (i := 6) rfl (by kernel_rfl) (by kernel_rfl) (by kernel_rfl) (fun _ _ _ h => h) (.inl ⟨rfl, fun w' hw' => (by clear hw'; go_simp; rfl)⟩) (HS.out _ D10.out.below) ?_
                        simp only [List.getElem_toArray, List.getElem_cons_zero, List.getElem_cons_succ, Act.put, List.setIfInBounds_toArray, List.set_cons_succ, List.set_cons_zero]
                        refine wpAnyH_take (i := 7) rfl (by kernel_rfl) (by kernel_rfl) (by kernel_rfl) (fun _ _ _ h => h) (.inl ⟨rfl, fun w' hw' => (by clear hw'; go_simp; rfl)⟩) (HS.out _ D10.out.below) ?_
                        simp only [List.getElem_toArray, List.getElem_cons_zero, List.getElem_cons_succ, Act.put, List.setIfInBounds_toArray, List.set_cons_succ, List.set_cons_zero]
                        refine wpAnyH_take (i := 8) rfl (by kernel_rfl) (by kernel_rfl) (by kernel_rfl) (fun _ _ _ h => h) (.inl ⟨rfl, fun w' hw' => (by clear hw'; go_simp; rfl)⟩) (HS.out _ D10.out.below) ?_
                        simp only [List.getElem_toArray, List.getElem_cons_zero, List.getElem_cons_succ, Act.put, List.setIfInBounds_toArray, List.set_cons_succ, List.set_cons_zero]
                        refine wpAnyH_take (i := 9) rfl (by kernel_rfl) (by kernel_rfl) (by kernel_rfl) (fun _ _ _ h => h) (.inl ⟨rfl, fun w' hw' => (by clear hw'; go_simp; rfl)⟩) (HS.out _ D10.out.below) ?_
                        simp only [List.getElem_toArray, List.getElem_cons_zero, List.getElem_cons_succ, Act.put, List.setIfInBounds_toArray, List.set_cons_succ, List.set_cons_zero]
                        have TD := Lib.hid (D10.out.done (V := (rfS 5 A3 l3 c3 s')) rfl HBQ.out)
                        have BD := Lib.hid (below_setCells D10.out.below (D10.out.b6 b17 rfl).2 0 (rfS 5 A3 l3 c3 s'))
                        refine wpAnyH_ready (rs := [12]) (by kernel_rfl) (by simp) (AllReadyH.cons rfl (fun K hK => ?_) AllReadyH.nil)
                        rw [if_pos (by rfl)]
                        refine wp_store_mid _ _ _ rfl _ _ (List.toArray (rfS 5 A3 l3 c3 s')) rfl rfl D10.out.there6 ref_size rfL_all ?_
                        refine hK.out _ _ (HS.out _ BD.out) (fun _ => ?_)
                        simp only [List.getElem_toArray, List.getElem_cons_zero, List.getElem_cons_succ, Act.put, List.setIfInBounds_toArray, List.set_cons_succ, List.set_cons_zero]
                        refine wpAnyH_ready (rs := [13]) (by kernel_rfl) (by simp) (AllReadyH.cons rfl (fun K hK => ?_) AllReadyH.nil)
                        rw [if_pos (by rfl)]
                        refine wp_store_mid _ _ _ rfl _ _ (List.toArray (bvs bq)) rfl rfl (by have h64 := bvs_len bq; rw [HBQ.out] at h64; have h65 := D10.out.there64 (rfS 5 A3 l3 c3 s'); simpa [h64] using h65) (by have h64 := size_of HBQ.out; simpa using h64) bvs_all ?_
                        refine hK.out _ _ (HS.out _ TD.out.below) (fun _ => ?_)
                        simp only [List.getElem_toArray, List.getElem_cons_zero, List.getElem_cons_succ, Act.put, List.setIfInBounds_toArray, List.set_cons_succ, List.set_cons_zero]
                        refine wpAnyH_take (i := 14) rfl (by kernel_rfl) (by kernel_rfl) (by kernel_rfl) (fun _ _ _ h => h) (.inl ⟨rfl, fun w' hw' => (by clear hw'; go_simp; rfl)⟩) (HS.out _ TD.out.below) ?_
                        simp only [List.getElem_toArray, List.getElem_cons_zero, List.getElem_cons_succ, Act.put, List.setIfInBounds_toArray, List.set_cons_succ, List.set_cons_zero]
                        refine wpAnyH_done (by kernel_rfl) ?_ _
                        refine NoPanic.normal ?_
                        go_wp2_with fail
                        go_meet
                        exact ⟨_, _, _, _, _, rfl, rfl, rfl, TD⟩
                    · rw [if_pos (by rfl)]
                      refine wp_alloc_as _ rfl _ zero_block ?_
                      have D11 := Lib.hid (D0.out.alloc64)
                      refine hK.out _ _ (HS.out _ D11.out.below) (fun _ => ?_)
                      simp only [List.getElem_toArray, List.getElem_cons_zero, List.getElem_cons_succ, Act.put, List.setIfInBounds_toArray, List.set_cons_succ, List.set_cons_zero]
                      generalize w6.drew.heap.size = b18 at D11 ⊢
                      generalize w6.drew.alloc (.cells Z64 37) = u11 at D11 ⊢
                      refine wpAnyH_ready (rs := [5, 10]) (by kernel_rfl) (by simp) (AllReadyH.cons rfl (fun K hK => ?_) (AllReadyH.cons rfl (fun K hK => ?_) AllReadyH.nil))
                      · rw [if_pos (by rfl)]
                        refine wp_fn (f := 10) (xs := #[sb.val 5 (.slice Ab lb cb), actV kind nn b Ak lk ck]) (by first | (go_simp; done) | (go_simp; rfl)) ((HSH.out _ (T6.out.below D11.out.below).a.ew (T6.out.below D11.out.below).a.live.2.2).mono ?_)
                        rintro e u12 ⟨A3, l3, c3, rfl, hew, hA, hb7⟩
                        have D12 := Lib.hid (D11.out.call HLT.out hew hA hb7)
                        clear hew hA hb7
                        refine ⟨_, rfl, hK.out _ _ (HS.out _ D12.out.below) (fun _ => ?_)⟩
                        simp only [List.getElem_toArray, List.getElem_cons_zero, List.getElem_cons_succ, Act.put, List.setIfInBounds_toArray, List.set_cons_succ, List.set_cons_zero]
                        refine wpAnyH_take (i := 6) rfl (by kernel_rfl) (by kernel_rfl) (by kernel_rfl) (fun _ _ _ h => h) (.inl ⟨rfl, fun w' hw' => (by clear hw'; go_simp; rfl)⟩) (HS.out _ D12.out.below) ?_
                        simp only [List.getElem_toArray, List.getElem_cons_zero, List.getElem_cons_succ, Act.put, List.setIfInBounds_toArray, List.set_cons_succ, List.set_cons_zero]
                        refine wpAnyH_take (i := 7) rfl (by kernel_rfl) (by kernel_rfl) (by kernel_rfl) (fun _ _ _ h => h) (.inl ⟨rfl, fun w' hw' => (by clear hw'; go_simp; rfl)⟩) (HS.out _ D12.out.below) ?_
                        simp only [List.getElem_toArray, List.getElem_cons_zero, List.getElem_cons_succ, Act.put, List.setIfInBounds_toArray, List.set_cons_succ, List.set_cons_zero]
                        refine wpAnyH_take (i := 8) rfl (by kernel_rfl) (by kernel_rfl) (by kernel_rfl) (fun _ _ _ h => h) (.inl ⟨rfl, fun w' hw' => (by clear hw'; go_simp; rfl)⟩) (HS.out _ D12.out.below) ?_
                        simp only [List.getElem_toArray, List.getElem_cons_zero, List.getElem_cons_succ, Act.put, List.setIfInBounds_toArray, List.set_cons_succ, List.set_cons_zero]
                        refine wpAnyH_take (i := 9) rfl (by kernel_rfl) (by kernel_rfl) (by kernel_rfl) (fun _ _ _ h => h) (.inl ⟨rfl, fun w' hw' => (by clear hw'; go_simp; rfl)⟩) (HS.out _ D12.out.below) ?_
                        simp only [List.getElem_toArray, List.getElem_cons_zero, List.getElem_cons_succ, Act.put, List.setIfInBounds_toArray, List.set_cons_succ, List.set_cons_zero]
                        refine wpAnyH_ready (rs := [10]) (by kernel_rfl) (by simp) (AllReadyH.cons rfl (fun K hK => ?_) AllReadyH.nil)
                        rw [if_pos (by rfl)]
                        refine wp_alloc_as _ rfl _ zero_ref ?_
                        have D13 := Lib.hid (D12.out.alloc6)
                        refine hK.out _ _ (HS.out _ D13.out.below) (fun _ => ?_)
                        simp only [List.getElem_toArray, List.getElem_cons_zero, List.getElem_cons_succ, Act.put, List.setIfInBounds_toArray, List.set_cons_succ, List.set_cons_zero]
                        generalize u12.heap.size = b17 at D13 ⊢
                        generalize u12.alloc (.cells rf0.toArray 30) = u13 at D13 ⊢
                        have TD := Lib.hid (D13.out.done (V := (rfS 5 A3 l3 c3 s')) rfl HBQ.out)
                        have BD := Lib.hid (below_setCells D13.out.below (D13.out.b6 b17 rfl).2 0 (rfS 5 A3 l3 c3 s'))
                        refine wpAnyH_ready (rs := [12]) (by kernel_rfl) (by simp) (AllReadyH.cons rfl (fun K hK => ?_) AllReadyH.nil)
                        rw [if_pos (by rfl)]
                        refine wp_store_mid _ _ _ rfl _ _ (List.toArray (rfS 5 A3 l3 c3 s')) rfl rfl D13.out.there6 ref_size rfL_all ?_
                        refine hK.out _ _ (HS.out _ BD.out) (fun _ => ?_)
                        simp only [List.getElem_toArray, List.getElem_cons_zero, List.getElem_cons_succ, Act.put, List.setIfInBounds_toArray, List.set_cons_succ, List.set_cons_zero]
                        refine wpAnyH_ready (rs := [13]) (by kernel_rfl) (by simp) (AllReadyH.cons rfl (fun K hK => ?_) AllReadyH.nil)
                        rw [if_pos (by rfl)]
                        refine wp_store_mid _ _ _ rfl _ _ (List.toArray (bvs bq)) rfl rfl (by have h64 := bvs_len bq; rw [HBQ.out] at h64; have h65 := D13.out.there64 (rfS 5 A3 l3 c3 s'); simpa [h64] using h65) (by have h64 := size_of HBQ.out; simpa using h64) bvs_all ?_
                        refine hK.out _ _ (HS.out _ TD.out.below) (fun _ => ?_)
                        simp only [List.getElem_toArray, List.getElem_cons_zero, List.getElem_cons_succ, Act.put, List.setIfInBounds_toArray, List.set_cons_succ, List.set_cons_zero]
                        refine wpAnyH_take (i := 14) rfl (by kernel_rfl) (by kernel_rfl) (by kernel_rfl) (fun _ _ _ h => h) (.inl ⟨rfl, fun w' hw' => (by clear hw'; go_simp; rfl)⟩) (HS.out _ TD.out.below) ?_
                        simp only [List.getElem_toArray, List.getElem_cons_zero, List.getElem_cons_succ, Act.put, List.setIfInBounds_toArray, List.set_cons_succ, List.set_cons_zero]
                        refine wpAnyH_done (by kernel_rfl) ?_ _
                        refine NoPanic.normal ?_
                        go_wp2_with fail
                        go_meet
                        exact ⟨_, _, _, _, _, rfl, rfl, rfl, TD⟩
                      · rw [if_pos (by rfl)]
                        refine wp_alloc_as _ rfl _ zero_ref ?_
                        have D14 := Lib.hid (D11.out.alloc6)
                        refine hK.out _ _ (HS.out _ D14.out.below) (fun _ => ?_)
                        simp only [List.getElem_toArray, List.getElem_cons_zero, List.getElem_cons_succ, Act.put, List.setIfInBounds_toArray, List.set_cons_succ, List.set_cons_zero]
                        generalize u11.heap.size = b17 at D14 ⊢
                        generalize u11.alloc (.cells rf0.toArray 30) = u14 at D14 ⊢
                        refine wpAnyH_ready (rs := [5]) (by kernel_rfl) (by simp) (AllReadyH.cons rfl (fun K hK => ?_) AllReadyH.nil)
                        rw [if_pos (by rfl)]
                        refine wp_fn (f := 10) (xs := #[sb.val 5 (.slice Ab lb cb), actV kind nn b Ak lk ck]) (by first | (go_simp; done) | (go_simp; rfl)) ((HSH.out _ (T6.out.below D14.out.below).a.ew (T6.out.below D14.out.below).a.live.2.2).mono ?_)
                        rintro e u15 ⟨A3, l3, c3, rfl, hew, hA, hb7⟩
                        have D15 := Lib.hid (D14.out.call HLT.out hew hA hb7)
                        clear hew hA hb7
                        refine ⟨_, rfl, hK.out _ _ (HS.out _ D15.out.below) (fun _ => ?_)⟩
                        simp only [List.getElem_toArray, List.getElem_cons_zero, List.getElem_cons_succ, Act.put, List.setIfInBounds_toArray, List.set_cons_succ, List.set_cons_zero]
                        refine wpAnyH_take (i := 6) rfl (by kernel_rfl) (by kernel_rfl) (by kernel_rfl) (fun _ _ _ h => h) (.inl ⟨rfl, fun w' hw' => (by clear hw'; go_simp; rfl)⟩) (HS.out _ D15.out.below) ?_
                        simp only [List.getElem_toArray, List.getElem_cons_zero, List.getElem_cons_succ, Act.put, List.setIfInBounds_toArray, List.set_cons_succ, List.set_cons_zero]
                        refine wpAnyH_take (i := 7) rfl (by kernel_rfl) (by kernel_rfl) (by kernel_rfl) (fun _ _ _ h => h) (.inl ⟨rfl, fun w' hw' => (by clear hw'; go_simp; rfl)⟩) (HS.out _ D15.out.below) ?_
                        simp only [List.getElem_toArray, List.getElem_cons_zero, List.getElem_cons_succ, Act.put, List.setIfInBounds_toArray, List.set_cons_succ, List.set_cons_zero]
                        refine wpAnyH_take (i := 8) rfl (by kernel_rfl) (by kernel_rfl) (by kernel_rfl) (fun _ _ _ h => h) (.inl ⟨rfl, fun w' hw' => (by clear hw'; go_simp; rfl)⟩) (HS.out _ D15.out.below) ?_
                        simp only [List.getElem_toArray, List.getElem_cons_zero, List.getElem_cons_succ, Act.put, List.setIfInBounds_toArray, List.set_cons_succ, List.set_cons_zero]
                        refine wpAnyH_take (i := 9) rfl (by kernel_rfl) (by kernel_rfl) (by kernel_rfl) (fun _ _ _ h => h) (.inl ⟨rfl, fun w' hw' => (by clear hw'; go_simp; rfl)⟩) (HS.out _ D15.out.below) ?_
                        simp only [List.getElem_toArray, List.getElem_cons_zero, List.getElem_cons_succ, Act.put, List.setIfInBounds_toArray, List.set_cons_succ, List.set_cons_zero]
                        have TD := Lib.hid (D15.out.done (V := (rfS 5 A3 l3 c3 s')) rfl HBQ.out)
                        have BD := Lib.hid (below_setCells D15.out.below (D15.out.b6 b17 rfl).2 0 (rfS 5 A3 l3 c3 s'))
                        refine wpAnyH_ready (rs := [12]) (by kernel_rfl) (by simp) (AllReadyH.cons rfl (fun K hK => ?_) AllReadyH.nil)
                        rw [if_pos (by rfl)]
                        refine wp_store_mid _ _ _ rfl _ _ (List.toArray (rfS 5 A3 l3 c3 s')) rfl rfl D15.out.there6 ref_size rfL_all ?_
                        refine hK.out _ _ (HS.out _ BD.out) (fun _ => ?_)
                        simp only [List.getElem_toArray, List.getElem_cons_zero, List.getElem_cons_succ, Act.put, List.setIfInBounds_toArray, List.set_cons_succ, List.set_cons_zero]
                        refine wpAnyH_ready (rs := [13]) (by kernel_rfl) (by simp) (AllReadyH.cons rfl (fun K hK => ?_) AllReadyH.nil)
                        rw [if_pos (by rfl)]
                        refine wp_store_mid _ _ _ rfl _ _ (List.toArray (bvs bq)) rfl rfl (by have h64 := bvs_len bq; rw [HBQ.out] at h64; have h65 := D15.out.there64 (rfS 5 A3 l3 c3 s'); simpa [h64] using h65) (by have h64 := size_of HBQ.out; simpa using h64) bvs_all ?_
                        refine hK.out _ _ (HS.out _ TD.out.below) (fun _ => ?_)
                        simp only [List.getElem_toArray, List.getElem_cons_zero, List.getElem_cons_succ, Act.put, List.setIfInBounds_toArray, List.set_cons_succ, List.set_cons_zero]
                        refine wpAnyH_take (i := 14) rfl (by kernel_rfl) (by kernel_rfl) (by kernel_rfl) (fun _ _ _ h => h) (.inl ⟨rfl, fun w' hw' => (by clear hw'; go_simp; rfl)⟩) (HS.out _ TD.out.below) ?_
                        simp only [List.getElem_toArray, List.getElem_cons_zero, List.getElem_cons_succ, Act.put, List.setIfInBounds_toArray, List.set_cons_succ, List.set_cons_zero]
                        refine wpAnyH_done (by kernel_rfl) ?_ _
                        refine NoPanic.normal ?_
                        go_wp2_with fail
                        go_meet
                        exact ⟨_, _, _, _, _, rfl, rfl, rfl, TD⟩
                  case rest =>
                    obtain ⟨B17, B18, A3, l3, c3, rfl, rfl, rfl, hTr⟩ := hcut
                    obtain ⟨w7, hw7⟩ : ∃ w7 : World, w7 = wc := ⟨_, rfl⟩
                    rw [← hw7] at hTr ⊢
                    clear hw7
                    have TR := Lib.hid hTr.out
                    have T7 := Lib.hid (T6.out.below TR.out.below)
                    have OFF := Lib.hid (T6.out.fresh TR.out.old)
                    have B7 := Lib.hid (B6.out.below TR.out.below B6.out.lt)
                    have N7 := Lib.hid (show B18 ≠ b8 from fun e => by have := T6.out.a.x.lt; have := TR.out.hB'; omega)
                    have T8 := Lib.hid (T7.out.put (V2 := rfS 5 A3 l3 c3 s') TR.out.ew OFF.out rfl)
                    have B8 := Lib.hid (B7.out.other N6.out 0 (rfS 5 A3 l3 c3 s'))
                    have D8 := Lib.hid (TR.out.y.other N7.out 0 (rfS 5 A3 l3 c3 s'))
                    have hE := fun w => neq_same HBQ.out w
                    have hne : (er != er) = false := by simp
                    clear hTr
                    go_wp2_with (first
                      | (with_reducible refine ld_ref rfl _ rfl B17 5 (.slice A3 l3 c3) s'.dead s'.fu s'.fa s'.done rfl TR.out.x.rg ?_)
                      | (with_reducible refine st_ref rfl _ _ rfl b8 5 A3 l3 c3 s'.dead s'.fu s'.fa s'.done rfl rfl T7.out.a.x.th ?_)
                      | (with_reducible refine ld_block rfl (.tmp 20) rfl b15 0 bq HBQ rfl B8.out.rg ?_)
                      | (with_reducible refine ld_block rfl (.tmp 23) rfl B18 0 bq HBQ rfl D8.out.rg ?_)
                      | fail)
                    go_roundw
                    case rel => exact ⟨k + 1, _, _, _, _, _, _, _, _, _, _, _, _, _, _, by omega, by go_num, hFa2, HPF, Lib.hid T8.out.swap⟩
                    case measure => simp [intOf]; omega
                · have hd1 : decide ((k : Int) < (m2 : Int)) = false := by simp; omega
                  go_wp2_with fail
                  go_roundw
                  case rel => exact ⟨k + 1, _, _, _, _, _, _, _, _, _, _, _, _, _, _, by omega, by go_num, hFa2, Lib.hid hFb.out.weak, hT2⟩
                  case measure => simp [intOf]; omega
            · have hd2 : decide ((k : Int) < (mx : Int)) = false := by simp; omega
              have HT := hT
              have HSA := Lib.hid (hT.out.a.stands (N := 5) (NI := 5) rfl hFa.out (by omega))
              have HSB := Lib.hid (fun w' (hb : Below wr.heap.size wr w') => (hT.out.below hb).b.stands (N := 5) (NI := 5) rfl hFb.out (by omega))
              clear hT hFa hFb
              go_wp2_with (first
                | (with_reducible refine ld_ref rfl _ rfl b7 5 (.slice Aa la ca) sa.dead sa.fu sa.fa sa.done rfl HT.out.a.x.rg ?_)
                | (go_at_call 12; refine (HSB5.out).mono ?_; rintro e w6 ⟨rfl, hb6⟩; have T6 := Lib.hid (T5.out.below hb6); clear hb6)
                | (go_at_call 12; refine (HSA.out).mono ?_; rintro e w5 ⟨rfl, hb5⟩; have HSB5 := Lib.hid (HSB.out _ hb5); have T5 := Lib.hid (HT.out.below hb5); clear hb5)
                | ((with_reducible refine ldw_ref ?_ (.tmp 13) rfl b8 5 (.slice Ab lb cb) sb.dead sb.fu sb.fa sb.done ?_ ?_ ?_); (first | rfl | go_simp); (first | rfl | go_simp); exact T5.out.b.x.rg)
                | fail)
              go_ret
              exact ⟨rfl, T6.out.a.live.2.2⟩

theorem own : ownKnob Try.prog.godebug = none := by kernel_rfl
theorem laidOut : laidOutB Try.prog = true := by kernel_rfl

set_option maxRecDepth 100000 in
theorem lifted (os : Os) (started : os.Started) (H : Type) (enc : TypeId × Value → H) :
    ReturnsInHanded {} Try.checked os 3 .any (Rows.diskTwinsSpec.pre6 enc Try.prog Try.f3 Rows.diskTwinsRow.domain false) (Rows.diskTwinsSpec.post enc Try.prog Try.f3 false true false false) := by
  refine returnsInHanded_of_change (C := Try.checked) own started (by kernel_rfl) Try.func3
    (ChangeSpec.witness6 (enc := enc) (C := Try.checked) false ⟨#[], #[.slice none 0 0, .slice none 0 0, .slice none 0 0], []⟩ 8 (by kernel_rfl) (by kernel_rfl) (by kernel_rfl) (by kernel_rfl)) ?_
  intro W base args ds gs before hval0 hW hcnd _
  have hval : ∀ (j : Nat) t v, Try.f3.params[j]? = some t → args[j]? = some v → Value.okWide Try.prog W .any base t v := hval0
  have hW' := hW
  obtain ⟨p, q, hA0, hV, rfl, hfz, hnd⟩ := hW
  have hA : DataW.TrodAll enc Try.prog W 0 (fun _ => true) true Try.f3.params.toList args.toList ds p := hA0
  rw [Try.params3] at hA hval
  obtain ⟨v0, vs0, d0, ds0, p0, q0, hargs, rfl, rfl, h0, r0⟩ := trodAll_cons hA
  obtain ⟨v1, vs1, d1, ds1, p1, q1, rfl, rfl, rfl, h1, r1⟩ := trodAll_cons r0
  obtain ⟨v2, vs2, d2, ds2, p2, q2, rfl, rfl, rfl, h2, r2⟩ := trodAll_cons r1
  obtain ⟨rfl, rfl, rfl⟩ := trodAll_nil r2
  obtain rfl : args = #[v0, v1, v2] := by cases args; simp_all
  obtain ⟨rfl, rfl⟩ := trodVars_none hV
  have k0 := h0
  have lt0 : ∀ x ∈ p0, x.block < W.heap.size := by obtain ⟨m, hm⟩ := k0; exact DataW.trod_lt m _ _ _ hm
  obtain ⟨A0, n0, c0, l0, rfl, s0⟩ := acts_arg (hval 0 22 v0 rfl rfl) h0
  have k1 := h1
  have lt1 : ∀ x ∈ p1, x.block < W.heap.size := by obtain ⟨m, hm⟩ := k1; exact DataW.trod_lt m _ _ _ hm
  obtain ⟨A1, n1, c1, l1, rfl, s1⟩ := acts_arg (hval 1 22 v1 rfl rfl) h1
  have k2 := h2
  have lt2 : ∀ x ∈ p2, x.block < W.heap.size := by obtain ⟨m, hm⟩ := k2; exact DataW.trod_lt m _ _ _ hm
  obtain ⟨A2, n2, c2, l2, rfl, s2⟩ := acts_arg (hval 2 22 v2 rfl rfl) h2
  clear hA0 hval0
  refine (walk A0 n0 c0 l0 A1 n1 c1 l1 A2 n2 c2 l2 W s0 s1 s2).mono fun e W' ⟨he, bel⟩ => ?_
  subst he
  exact ⟨_, rfl, _, _, _, [], _, [], hW', trodAll_mk1 (shut_bool Try.underlying4 _), (trodAll_cons_mk (Below.trod laidOut (by kernel_rfl) (of_decide_eq_true (by kernel_rfl)) k0 bel lt0) (trodAll_cons_mk (Below.trod laidOut (by kernel_rfl) (of_decide_eq_true (by kernel_rfl)) k1 bel lt1) (trodAll_cons_mk (Below.trod laidOut (by kernel_rfl) (of_decide_eq_true (by kernel_rfl)) k2 bel lt2) trodAll_mk0))), rfl, bel.frame _, fun h => by cases h⟩

theorem over : Rows.diskTwinsRow.holds Try.pinned (OpenSpec.ofChange Rows.diskTwinsSpec) :=
  OpenClaim.holds_of_wide 3 Try.f3 rfl rfl rfl rfl rfl rfl rfl ⟨rfl, rfl, rfl, rfl, rfl⟩ rfl rfl rfl rfl rfl (by kernel_rfl) Try.func3 (by kernel_rfl)
    (of_decide_eq_true (by kernel_rfl)) (by unfold Func.isWrapper; first | (rw [if_pos (by decide +kernel)]; kernel_rfl) | (rw [if_neg (by decide +kernel)]; exact ⟨rfl, rfl⟩))
    (fun os started H enc _ => lifted os started H enc)

theorem proved : Rows.DiskTwinsSaid := over
#print axioms proved
end Go.Proofs.Ytionbjocfepkaaa.diskTwins
