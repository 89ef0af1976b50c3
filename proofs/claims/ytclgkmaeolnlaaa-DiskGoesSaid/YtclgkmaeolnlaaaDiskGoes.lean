/-
  PROVED HERE: whatever sectors and acts l, confluencelaw02.DiskGoes(sectors, l) returns true: whatever happens to a disk is told as the document says. No condition.
-/
import Derived.Test.YtclgkmaeolnlaaaRn
import Derived.Test.YtclgkmaeolnlaaaRows
import Derived.ProofKit
import Derived.OpenShut
import Derived.ChangeOld
import Derived.Carry
namespace Go.Proofs.Ytclgkmaeolnlaaa.diskGoes
open Go.ChangeShapes Go.WideShapes Go.ChangeAt Go.RowKit
set_option linter.unusedVariables false

set_option linter.unusedSimpArgs false
open Go.Deep
set_option maxRecDepth 100000 in
set_option maxHeartbeats 4000000 in
theorem walk_bad (n0 : Int) (A : Option Addr) (n c : Nat) (W : World) (hbad : n0 < 1 ∨ 2048 < n0) :
    Calls Try.prog 3 #[.int .i64 n0, .slice A n c] W fun e w' => e = .returned (.bool true) ∧ Below W.heap.size W w' := by
  have HNB := Lib.hid (fun w => new_bad n0 hbad w)
  have HFI := Lib.hid (fun w => show Calls Try.prog 12 #[.int .i64 n0] w fun e w' => e = .returned (.bool false) ∧ w = w' from (fits_any n0 w).mono fun e w' ⟨he, hw⟩ => ⟨by rw [he, show decide (1 ≤ n0 ∧ n0 ≤ 2048) = false by simp; omega], hw⟩)
  clear hbad
  go_enter Try.func3, Try.ntmps3
  go_wp2_with fail
  refine (wakes_any _).mono ?_
  rintro e w1 ⟨rfl, hb1⟩
  have HB1 := Lib.hid hb1
  clear hb1
  go_wp2_with (first
    | (go_at_call 11; refine (HNB.out _).mono ?_; rintro e w2 ⟨rfl, rfl⟩)
    | (go_at_call 12; refine (HFI.out _).mono ?_; rintro e w2 ⟨rfl, rfl⟩))
  go_ret
  exact ⟨rfl, HB1.out⟩

set_option maxRecDepth 100000 in
set_option maxHeartbeats 1600000 in
theorem walk_good (N : Nat) (h1 : 1 ≤ N) (h2 : N ≤ 2048) (A : Option Addr) (n c : Nat) (l : List Ac) (W : World) (hs : Acts W W.heap.size A n c l) :
    Calls Try.prog 3 #[.int .i64 (N : Int), .slice A n c] W fun e w' => e = .returned (.bool true) ∧ Below W.heap.size W w' := by
  have hsm := some_any A n c hs.cap hs.max
  obtain ⟨m, hm⟩ : ∃ m, min n 100 = m := ⟨_, rfl⟩
  have hm100 : m ≤ 100 := by omega
  have hsk := hs.take (k := m) (by omega)
  obtain ⟨al, has⟩ : ∃ al, l.take m = al := ⟨_, rfl⟩
  rw [has] at hsk
  rw [hm] at hsm
  have HS := Lib.hid hsk
  have HSM := Lib.hid hsm
  have HFI := Lib.hid (fun w => show Calls Try.prog 12 #[.int .i64 (N : Int)] w fun e w' => e = .returned (.bool true) ∧ w = w' from (fits_any N w).mono fun e w' ⟨he, hw⟩ => ⟨by rw [he, show decide (1 ≤ (N : Int) ∧ (N : Int) ≤ 2048) = true by simp; omega], hw⟩)
  clear hs hsm hsk has hm
  go_enter Try.func3, Try.ntmps3
  go_wp2_with fail
  refine (wakes_any _).mono ?_
  rintro e w1 ⟨rfl, hb1⟩
  have HB1 := Lib.hid hb1
  clear hb1
  go_wp2_with fail
  refine (new_any N h1 h2 w1).mono ?_
  rintro e w2 ⟨g, S2, rfl, hd2, hS2, hb2⟩
  have L2 : Hid (Live W w2 g S2 (Mo.new N)) := Lib.hid ⟨hd2, fun b hb => Nat.le_trans HB1.out.size (hS2 b hb), HB1.out.trans (hb2.mono HB1.out.size)⟩
  clear hd2 hS2 hb2
  go_wp2_with (first
    | (go_at_call 12; refine (HFI.out _).mono ?_; rintro e w3 ⟨rfl, rfl⟩)
    | fail)
  refine (fresh_any N w2).mono ?_
  rintro e w3 ⟨rfl, hb3⟩
  have L3 := Lib.hid (L2.out.below hb3)
  clear hb3
  have X4 := Lib.hid (show Lies (boxR w3 0 (.slice none 0 0) false 0 0 0) w3.heap.size 6 rf0 from Lies.new w3 rf0 31)
  have X5 := Lib.hid (X4.out.set_ (l' := rfL N (.slice none 0 0) false (-1) (-1) 0) rfl)
  have R0 : Hid (Pr W g w3.heap.size N 0 S2 (Mo.new N) ⟨false, -1, -1, 0⟩ none 0 0 [] ((boxR w3 0 (.slice none 0 0) false 0 0 0).setCells w3.heap.size 0 (rfL N (.slice none 0 0) false (-1) (-1) 0))) := Lib.hid (by
    have hb : Below w3.heap.size w3 ((boxR w3 0 (.slice none 0 0) false 0 0 0).setCells w3.heap.size 0 (rfL N (.slice none 0 0) false (-1) (-1) 0)) := below_setCells (boxR_below w3 0 (.slice none 0 0) false 0 0 0) (Nat.le_refl _) _ _
    exact ⟨L3.out.below hb, Rl.fresh N, by simp [Mo.new], Nat.le_refl _, by simp [Mo.new], Ew.nil_ _, (fun x hx => by cases hx), X5.out, (fun hS => by have := L3.out.1.lt _ hS; omega), L3.out.2.2.size⟩)
  go_wp2_with (first
    | (with_reducible refine st_ref rfl _ _ rfl w3.heap.size N none 0 0 false (-1) (-1) 0 rfl rfl X4.out.th ?_)
    | (go_at_call 14; refine (HSM.out _).mono ?_; rintro e w5 ⟨rfl, rfl⟩))
  go_loopw [45] (fun i wr => ∃ (k : Nat) (M : Mo) (s : Rs) (A' : Option Addr) (l' c' : Nat) (es : List En) (S : Nat → Prop), k ≤ m ∧ i = .int .i64 (k : Int) ∧ Hid (Pr W g w3.heap.size N k S M s A' l' c' es wr)) (fun i _ => m - (intOf i).toNat)
  case atStart => exact ⟨0, _, _, _, _, _, _, _, Nat.zero_le _, rfl, R0⟩
  case round =>
    clear R0 X4 X5 L3 L2
    obtain ⟨k, M, s, A', l', c', es, S, hk, rfl, hrel⟩ := hrel
    by_cases hlt : k < m
    · have hd : decide ((k : Int) < (m : Int)) = true := by simp; omega
      have hk0 : (0 : Int) ≤ (k : Int) := Int.natCast_nonneg _
      have hk1 : (k : Int) < (m : Int) := by omega
      have hlas : al.length = m := HS.out.len
      obtain ⟨bb, oo, hA, hbb, hcells⟩ := HS.out.pos (by omega)
      have hcell := hcells k (by omega)
      obtain ⟨a, ha⟩ : ∃ a, al[k]'(by omega) = a := ⟨_, rfl⟩
      have haok := HS.out.ok a (by rw [← ha]; exact List.getElem_mem _)
      rw [ha] at hcell
      have hbw : Below W.heap.size W wr := hrel.out.live.2.2
      have hcw := rangeAt_keep hcell (hbw.block bb hbb)
      subst hA
      obtain ⟨kind, nn, b, Ak, lk, ck, ks⟩ := a
      have q0 : wr.cell? ⟨bb, oo + k * 4, none⟩ = some (.int .i64 kind) := hcw 0 _ rfl
      have q1 : wr.cell? ⟨bb, oo + k * 4 + 1, none⟩ = some (.int .i64 nn) := hcw 1 _ rfl
      have q2 : wr.cell? ⟨bb, oo + k * 4 + 2, none⟩ = some (.int .u8 (b.toNat : Int)) := hcw 2 _ rfl
      have q3 : wr.cell? ⟨bb, oo + k * 4 + 3, none⟩ = some (.slice Ak lk ck) := hcw 3 _ rfl
      have hqb : bb < wr.heap.size := Nat.lt_of_lt_of_le hbb hbw.size
      have HKS : Hid (SlV W W.heap.size Ak lk ck (bls ks)) := Lib.hid haok.ks
      have HN := Lib.hid haok.n
      obtain ⟨wx, hwx⟩ : ∃ wx, wx = wr.alloc (.cells #[.int .i64 kind, .int .i64 nn, .int .u8 (b.toNat : Int), .slice Ak lk ck] 36) := ⟨_, rfl⟩
      have hbx : Below wr.heap.size wr wx := by rw [hwx]; exact (Below.refl _ _).alloc (Nat.le_refl _) _
      have hzx : wx.heap.size = wr.heap.size + 1 := by rw [hwx]; simp
      have P1 := Lib.hid (hrel.out.below hbx)
      have A1 : Hid (Lies wx wr.heap.size 4 (acL kind nn b Ak lk ck)) := Lib.hid (by rw [hwx]; exact Lies.new wr (acL kind nn b Ak lk ck) 36)
      have NS := Lib.hid (show ¬ S wr.heap.size from fun hS => by have := hrel.out.live.1.lt _ hS; omega)
      have N7 := Lib.hid (show w3.heap.size < wr.heap.size from hrel.out.x.lt)
      have HLT := Lib.hid (fun x (hx : A' = some x) => hrel.out.ew.lt hx)
      have HBW := Lib.hid (show Below W.heap.size W wx from hbw.trans (hbx.mono hbw.size))
      have hsim := act_sim P1.out.rl P1.out.live.1.ok kind nn b ks haok.n.2
      have hsl := act_safe_len M kind nn b ks
      have hgr := shouldR_len (M.safe.length : Int) s es kind nn b ks
      have hfit := shouldR_fit (N := (M.safe.length : Int)) (s := s) (kind := kind) (n := nn) (b := b) (ks := ks) P1.out.ew.fit
      have hhap := happens_dk kind nn b (ks := ks) (HKS.out.below HBW.out) HBW.out.size P1.out.live.1 (by have := P1.out.ops; omega) (by have := P1.out.rl.wt; have := P1.out.cnt; omega) haok.n
      have hsh := fun (w0 : World) (h0 : Ew w0 A' l' c' es) (hb : Below W.heap.size W w0) => should_any h0 (by have := P1.out.ew.len; have := P1.out.cnt; omega) P1.out.rl.ok (by have := P1.out.rl.done; have := P1.out.ops; omega) (M.safe.length : Int) (by have := P1.out.len; omega) kind nn b (HKS.out.below hb) hb.size
      unfold ShOut at hsh
      rw [P1.out.len] at hsim hsl hgr hfit hsh
      generalize shouldR (N : Int) s es kind nn b ks = r at hsim hgr hfit hsh
      obtain ⟨⟨s', es'⟩, bq, er⟩ := r
      generalize M.act kind nn b ks = ra at hsim hsl hhap
      obtain ⟨M', rb⟩ := ra
      obtain ⟨hs1, hs2⟩ := hsim
      simp only at hs1 hs2 hsl hgr hfit hhap hsh
      subst hs1
      have HHAP := Lib.hid hhap
      have HSH := Lib.hid hsh
      have HRL := Lib.hid hs2
      have HSL := Lib.hid hsl
      have HGR := Lib.hid hgr
      have HBQ := Lib.hid hfit
      have HZX := Lib.hid hzx
      have HCN := Lib.hid (And.intro P1.out.cnt (And.intro P1.out.ops (And.intro P1.out.rl.done P1.out.rl.wt)))
      have HWX := Lib.hid hwx
      clear hhap hsh hs2 hsl hgr hfit hzx hcells hcell haok hbw hcw hbx hlas ha hrel
      go_wp2_with fail
      rw [← HWX.out]
      refine (HHAP.out).mono ?_
      rintro e w5 ⟨rfl, S5, hd5, hm5, hg5⟩
      have L5 := Lib.hid (P1.out.live.step hd5 hm5 hg5)
      have E5 := Lib.hid (P1.out.ew.mv hm5 fun x hx => (P1.out.off x hx).1)
      have X5 := Lib.hid (P1.out.x.mv hm5 P1.out.nb)
      have A5 := Lib.hid (A1.out.mv hm5 NS.out)
      have HS5 := Lib.hid (show ∀ b, b < wr.heap.size → ¬ S b → ¬ S5 b from fun b hb hn hS => (hg5 b hS).elim hn fun h => by have := HZX.out; omega)
      have Z5 := Lib.hid (show wr.heap.size < w5.heap.size by have := hm5.size; have := HZX.out; omega)
      clear hd5 hm5 hg5 q0 q1 q2 q3
      have hb6 : Below w5.heap.size w5 ((zbW w5).setCells w5.heap.size 0 (bvs bq)) := below_setCells (zbW_below w5) (Nat.le_refl _) 0 (bvs bq)
      have T5 := Lib.hid (Z64_there w5)
      have L6 := Lib.hid (L5.out.below hb6)
      have E6 := Lib.hid (E5.out.below hb6)
      have X6 := Lib.hid (X5.out.below hb6 X5.out.lt)
      have A6 := Lib.hid (A5.out.below hb6 A5.out.lt)
      have B6 : Hid (Lies ((zbW w5).setCells w5.heap.size 0 (bvs bq)) w5.heap.size 64 (bvs bq)) := Lib.hid ((Lies.zb w5).set_ (by rw [bvs_len, HBQ.out]))
      have e0 := A6.out.cell (j := 0) rfl
      have e1 := A6.out.cell (j := 1) rfl
      have e2 := A6.out.cell (j := 2) rfl
      have e3 := A6.out.cell (j := 3) rfl
      clear hb6
      go_wp2_with (first
        | (with_reducible refine al_block rfl rfl ?_)
        | (with_reducible refine st_block rfl _ _ rfl w5.heap.size 0 bq HBQ rfl rfl T5.out ?_)
        | (with_reducible refine ld_ref rfl _ rfl w3.heap.size N (.slice A' l' c') s.dead s.fu s.fa s.done rfl X6.out.rg ?_)
        | fail)
      refine (HSH.out _ E6.out L6.out.2.2).mono ?_
      rintro e w7 ⟨A2, m2, c2, rfl, hew, hA, hb7⟩
      have L7 := Lib.hid (L6.out.below hb7)
      have X7 := Lib.hid (X6.out.below hb7 X6.out.lt)
      have B7 := Lib.hid (B6.out.below hb7 B6.out.lt)
      have E7 := Lib.hid hew
      have OFF := Lib.hid (show ∀ x, A2 = some x → ¬ S5 x.block ∧ x.block ≠ w3.heap.size from fun x hx => by
        have hz6 : ((zbW w5).setCells w5.heap.size 0 (bvs bq)).heap.size = w5.heap.size + 1 := by rw [size_setCells]; exact zbW_size w5
        rcases hA x hx with h | h
        · have h3 := HLT.out x (h ▸ hx)
          have h4 := P1.out.off x (h ▸ hx)
          exact ⟨HS5.out _ h3 h4.1, h4.2⟩
        · rw [hz6] at h
          have h5 := N7.out
          have h6 := Z5.out
          exact ⟨fun hS => by have := L5.out.1.lt _ hS; omega, by omega⟩)
      have Z7 := Lib.hid (show w5.heap.size < w7.heap.size from Nat.lt_of_lt_of_le B6.out.lt hb7.size)
      have FU := Lib.hid (Ful.mk_ w7 (x := rfL N (.slice A2 m2 c2) s'.dead s'.fu s'.fa s'.done) rfl HBQ.out)
      clear hb7 hew hA e0 e1 e2 e3 A6 B6 X6 L6 E6 A5 X5 E5 T5
      have X8 := Lib.hid (X7.out.below FU.out.below X7.out.lt)
      have L8 := Lib.hid (L7.out.below FU.out.below)
      have E8 := Lib.hid (E7.out.below FU.out.below)
      have B8 := Lib.hid (B7.out.below FU.out.below B7.out.lt)
      have N8 := Lib.hid (show w5.heap.size ≠ w3.heap.size ∧ w7.heap.size + 1 ≠ w3.heap.size from ⟨by have := N7.out; have := Z5.out; omega, by have := N7.out; have := Z5.out; have := Z7.out; omega⟩)
      have NB5 := Lib.hid (HS5.out _ N7.out P1.out.nb)
      have X9 := Lib.hid (X8.out.set_ (l' := rfL N (.slice A2 m2 c2) s'.dead s'.fu s'.fa s'.done) rfl)
      have L9 := Lib.hid (live_set L8.out NB5.out P1.out.wb 0 (rfL N (.slice A2 m2 c2) s'.dead s'.fu s'.fa s'.done))
      have E9 := Lib.hid (E8.out.mv ((Mv.refl (fun b => b = w3.heap.size) _).setCells (.inl rfl) 0 (rfL N (.slice A2 m2 c2) s'.dead s'.fu s'.fa s'.done)) fun x hx => (OFF.out x hx).2)
      have B9 := Lib.hid (B8.out.other N8.out.1 0 (rfL N (.slice A2 m2 c2) s'.dead s'.fu s'.fa s'.done))
      have D9 := Lib.hid (FU.out.lq.other N8.out.2 0 (rfL N (.slice A2 m2 c2) s'.dead s'.fu s'.fa s'.done))
      have hE := fun w => neq_same HBQ.out w
      have PR : Hid (Pr W g w3.heap.size N (k + 1) S5 M' s' A2 m2 c2 es' _) := Lib.hid ⟨L9.out, HRL.out, HSL.out, by have := HGR.out.1; have := HCN.out.1; omega, by have h1 := HGR.out.2; have h2 := HCN.out; have h3 := HRL.out.done; omega, E9.out, OFF.out, X9.out, NB5.out, P1.out.wb⟩
      have HST := Lib.hid (stands_any L9.out.1 (by have := HRL.out.wt; have := HGR.out.1; have := HCN.out.1; omega) E9.out (by have := E9.out.len; have := HGR.out.1; have := HCN.out.1; omega) HRL.out (N : Int) (by rw [HSL.out]))
      go_wp2_with (first
        | ((with_reducible refine al_block rfl rfl ?_); (try simp only [Act.put, List.setIfInBounds_toArray, List.set_cons_succ, List.set_cons_zero, World.size_alloc]))
        | ((with_reducible refine st_ref rfl _ _ rfl w7.heap.size N A2 m2 c2 s'.dead s'.fu s'.fa s'.done rfl rfl FU.out.t1 ?_); (try simp only [Act.put, List.setIfInBounds_toArray, List.set_cons_succ, List.set_cons_zero, World.size_alloc]))
        | ((with_reducible refine st_block rfl _ _ rfl (w7.heap.size + 1) 0 bq HBQ rfl rfl FU.out.t2 ?_); (try simp only [Act.put, List.setIfInBounds_toArray, List.set_cons_succ, List.set_cons_zero, World.size_alloc]))
        | ((with_reducible refine ld_ref rfl _ rfl w7.heap.size N (.slice A2 m2 c2) s'.dead s'.fu s'.fa s'.done rfl FU.out.lx.rg ?_); (try simp only [Act.put, List.setIfInBounds_toArray, List.set_cons_succ, List.set_cons_zero, World.size_alloc]))
        | ((with_reducible refine st_ref rfl _ _ rfl w3.heap.size N A2 m2 c2 s'.dead s'.fu s'.fa s'.done rfl rfl X8.out.th ?_); (try simp only [Act.put, List.setIfInBounds_toArray, List.set_cons_succ, List.set_cons_zero, World.size_alloc]))
        | ((with_reducible refine ld_block rfl _ rfl w5.heap.size 0 bq HBQ rfl B9.out.rg ?_); (try simp only [Act.put, List.setIfInBounds_toArray, List.set_cons_succ, List.set_cons_zero, World.size_alloc]))
        | ((with_reducible refine ld_block rfl _ rfl (w7.heap.size + 1) 0 bq HBQ rfl D9.out.rg ?_); (try simp only [Act.put, List.setIfInBounds_toArray, List.set_cons_succ, List.set_cons_zero, World.size_alloc]))
        | ((with_reducible refine ldw_ref ?_ (.tmp 7) rfl w3.heap.size N (.slice A2 m2 c2) s'.dead s'.fu s'.fa s'.done ?_ ?_ ?_); trace "R1"; (first | rfl | go_simp); trace "R2"; (first | rfl | go_simp); trace "R3"; exact X9.out.rg; trace "R4")
        | (go_at_call 17; refine (HST.out).mono ?_; rintro e w10 ⟨rfl, hb10⟩; have P10 := Lib.hid (PR.out.below hb10); clear hb10))
      go_roundw
      case rel => exact ⟨k + 1, _, _, _, _, _, _, _, by omega, by go_num, P10⟩
      case measure => simp [intOf]; omega
    · have hd : decide ((k : Int) < (m : Int)) = false := by simp; omega
      obtain rfl : k = m := by omega
      have HP := hrel
      clear hrel
      have E6L := Lib.hid (show l' ≤ 100 by have := HP.out.ew.len; have := HP.out.cnt; omega)
      have hcr := crash_dk HP.out.live.1 (B := 0) (A := none) (n := 0) (c := 0) (l := []) SlV.nil_ (Nat.zero_le _) (fun x hx => by cases hx) (by have := HP.out.rl.wt; have := HP.out.cnt; omega)
      have HCR := Lib.hid hcr
      have SL : Hid ((M.crash (lvB [])).safe.length = N) := Lib.hid ((settle_len _ _ _ _).trans HP.out.len)
      have EX : Hid (Exs (M.crash (lvB [])).safe [] (liveE (lvA false []) es 0)) := Lib.hid (HP.out.rl.ex.live (fun p hp => (HP.out.live.1.ok.wt p hp).1) (lvA false []))
      clear hcr
      go_wp2_with fail
      refine (HCR.out).mono ?_
      rintro e w5 ⟨rfl, S5, hd5, hm5, hg5⟩
      have L5 := Lib.hid (HP.out.live.step hd5 hm5 hg5)
      have E5 := Lib.hid (HP.out.ew.mv hm5 fun x hx => (HP.out.off x hx).1)
      have X5 := Lib.hid (HP.out.x.mv hm5 HP.out.nb)
      have NB5 := Lib.hid (show ¬ S5 w3.heap.size from fun hS => (hg5 _ hS).elim HP.out.nb fun h => by have := HP.out.x.lt; omega)
      have LT5 := Lib.hid (show ∀ b, S5 b → b < w5.heap.size from hd5.lt)
      clear hd5 hm5 hg5
      go_wp2_with (first
        | (with_reducible refine ld_ref rfl _ rfl w3.heap.size N (.slice A' l' c') s.dead s.fu s.fa s.done rfl X5.out.rg ?_)
        | fail)
      refine (crash_ref E5.out (by have := E6L.out; omega) s N (B := 0) (KA := none) (kn := 0) (kc := 0) (ks := []) SlV.nil_ (Nat.zero_le _)).mono ?_
      rintro e w6 ⟨A2, m2, c2, rfl, hew, hA, hb6⟩
      have L6 := Lib.hid (L5.out.below hb6)
      have X6 := Lib.hid (X5.out.below hb6 X5.out.lt)
      have E6 := Lib.hid hew
      have HA := Lib.hid hA
      clear hb6 hew hA
      have E6L := Lib.hid (show m2 ≤ 100 by have h1 := E6.out.len; have h2 := liveE_len (lv := lvA false []) es 0; have h3 := HP.out.cnt; omega)
      have F7 : Hid (Fi W g w3.heap.size N 0 S5 (M.crash (lvB [])) (M.crash (lvB [])).safe (rfL N (.slice A2 m2 c2) false (-1) (-1) s.done) A2 m2 c2 (liveE (lvA false []) es 0) (w6.setCells w3.heap.size 0 (rfL N (.slice A2 m2 c2) false (-1) (-1) s.done))) := Lib.hid
        ⟨live_set L6.out NB5.out HP.out.wb 0 _, ⟨rfl, rfl, rfl⟩, rfl, rfl, by have := HP.out.ops; show M.ops ≤ _; omega, E6.out.mv ((Mv.refl (fun b => b = w3.heap.size) _).setCells (.inl rfl) 0 _) (fun x hx e => by have h1 := HA.out x hx; have h2 := X5.out.lt; have e' : x.block = w3.heap.size := e; omega), (fun x hx hS => by have h1 := HA.out x hx; have h2 := LT5.out _ hS; omega), X6.out.set_ rfl, NB5.out⟩
      clear HA LT5
      by_cases h20 : N ≤ 20
      · have h20' : (N : Int) ≤ 20 := by omega
        go_wp2_with (first
          | (with_reducible refine st_ref rfl _ _ rfl w3.heap.size N A2 m2 c2 false (-1) (-1) s.done rfl rfl X6.out.th ?_)
          | fail)
        go_loopw [85] (fun i wz => ∃ (j : Nat) (M2 : Mo) (S2 : Nat → Prop), j ≤ N ∧ i = .int .i64 (j : Int) ∧ Hid (Fi W g w3.heap.size N j S2 M2 (M.crash (lvB [])).safe (rfL N (.slice A2 m2 c2) false (-1) (-1) s.done) A2 m2 c2 (liveE (lvA false []) es 0) wz)) (fun i _ => N - (intOf i).toNat)
        case atStart => exact ⟨0, _, _, Nat.zero_le _, rfl, F7⟩
        case round =>
          obtain ⟨j, M2, S2, hj, rfl, hfi⟩ := hrel
          by_cases hjl : j < N
          · have hd2 : decide ((j : Int) < (N : Int)) = true := by simp; omega
            have hj0 : (0 : Int) ≤ (j : Int) := Int.natCast_nonneg _
            have hj1 : (j : Int) < (N : Int) := by omega
            have hjN : j < N := by omega
            have hsl2 : M2.safe.length = N := by rw [hfi.out.safe]; exact SL.out
            have hhas : hasB M2.safe.length (j : Int) = true := by rw [hsl2]; simp [hasB]; omega
            have hre := hfi.out.plain.read (j : Int)
            rw [if_pos hhas, Int.toNat_natCast] at hre
            have hrk := read_dk hfi.out.live.1 (j : Int) (by have := hfi.out.ops; omega)
            have hlq := read_len hfi.out.live.1.ok (j : Int)
            have hq1 : (M2.read (j : Int)).2.1 = holdE (liveE (lvA false []) es 0) j := by
              rw [hre, EX.out.holds (fun p hp => by cases hp) (by rw [SL.out]; exact hjN)]
              show holdsOf M2.safe M2.wt j = _
              rw [hfi.out.safe, hfi.out.wt]
            have hq2 : (M2.read (j : Int)).2.2 = 0 := by rw [hre]
            rw [hq1] at hlq
            rw [hq1, hq2] at hrk
            have HHR := Lib.hid (fun w0 (h0 : Ew w0 A2 m2 c2 (liveE (lvA false []) es 0)) => holds_ref h0 (by have := E6L.out; omega) ⟨false, -1, -1, s.done⟩ (N : Int) j (by omega))
            have HST := Lib.hid (fun w' => hfi.out.read hhas (w' := w'))
            generalize holdE (liveE (lvA false []) es 0) j = bq at hrk hlq HHR
            have HBQ := Lib.hid hlq
            have HRK := Lib.hid hrk
            clear hrk hlq hq1 hq2 hre hsl2 hhas
            go_wp2_with fail
            refine (HRK.out).mono ?_
            rintro e w8 ⟨rfl, hst⟩
            obtain ⟨S8, hf8⟩ := HST.out _ hst
            have F8 := Lib.hid hf8
            clear hf8 hst
            have hb9 : Below w8.heap.size w8 ((zbW w8).setCells w8.heap.size 0 (bvs bq)) := below_setCells (zbW_below w8) (Nat.le_refl _) 0 (bvs bq)
            have T8 := Lib.hid (Z64_there w8)
            have F9 := Lib.hid (F8.out.below hb9)
            have B9 : Hid (Lies ((zbW w8).setCells w8.heap.size 0 (bvs bq)) w8.heap.size 64 (bvs bq)) := Lib.hid ((Lies.zb w8).set_ (by rw [bvs_len, HBQ.out]))
            clear hb9
            go_wp2_with (first
              | (with_reducible refine al_block rfl rfl ?_)
              | (with_reducible refine st_block rfl _ _ rfl w8.heap.size 0 bq HBQ rfl rfl T8.out ?_))
            generalize (zbW w8).setCells w8.heap.size 0 (bvs bq) = w9 at F9 B9 ⊢
            have hE := fun w => neq_same HBQ.out w
            have hu := Try.underlying38
            have hi : (Try.prog.info? 38).map (·.size) = some (bvs bq).length := size_of HBQ.out
            have h64 : (bvs bq).length = 64 := by rw [bvs_len, HBQ.out]
            have hall := bvs_one bq
            have hbd : Below w9.heap.size w9 w9.drew := (Below.refl _ _).drew
            have FD := Lib.hid (F9.out.below hbd)
            have BD := Lib.hid (B9.out.below hbd B9.out.lt)
            clear hbd
            have HK2 := Lib.hid (show w9.drew.cell? ⟨w3.heap.size, 0, none⟩ = some (.int .i64 (N : Int)) ∧ w9.drew.cell? ⟨w3.heap.size, 1, none⟩ = some (.slice A2 m2 c2) ∧ w9.drew.cell? ⟨w3.heap.size, 2, none⟩ = some (.bool false) ∧ w9.drew.cell? ⟨w3.heap.size, 3, none⟩ = some (.int .i64 (-1)) ∧ w9.drew.cell? ⟨w3.heap.size, 4, none⟩ = some (.int .i64 (-1)) ∧ w9.drew.cell? ⟨w3.heap.size, 5, none⟩ = some (.int .i64 s.done) ∧ w9.drew.rangeAt w8.heap.size 0 (bvs bq) from ⟨FD.out.x.cell (j := 0) rfl, FD.out.x.cell (j := 1) rfl, FD.out.x.cell (j := 2) rfl, FD.out.x.cell (j := 3) rfl, FD.out.x.cell (j := 4) rfl, FD.out.x.cell (j := 5) rfl, BD.out.rg⟩)
            go_region_held3 (fun w' => w'.cell? ⟨w3.heap.size, 0, none⟩ = some (.int .i64 (N : Int)) ∧ w'.cell? ⟨w3.heap.size, 1, none⟩ = some (.slice A2 m2 c2) ∧ w'.cell? ⟨w3.heap.size, 2, none⟩ = some (.bool false) ∧ w'.cell? ⟨w3.heap.size, 3, none⟩ = some (.int .i64 (-1)) ∧ w'.cell? ⟨w3.heap.size, 4, none⟩ = some (.int .i64 (-1)) ∧ w'.cell? ⟨w3.heap.size, 5, none⟩ = some (.int .i64 s.done) ∧ w'.rangeAt w8.heap.size 0 (bvs bq))
              (first | with_reducible exact HK2.out | with_reducible exact HK3.out)
              ((go_at_call 21; refine (HHR.out _ FD.out.ew).mono ?_; rintro e w10 ⟨rfl, hb10⟩; have F10 := Lib.hid (FD.out.below hb10); have B10 := Lib.hid (BD.out.below hb10 BD.out.lt); have HK3 := Lib.hid (show w10.cell? ⟨w3.heap.size, 0, none⟩ = some (.int .i64 (N : Int)) ∧ w10.cell? ⟨w3.heap.size, 1, none⟩ = some (.slice A2 m2 c2) ∧ w10.cell? ⟨w3.heap.size, 2, none⟩ = some (.bool false) ∧ w10.cell? ⟨w3.heap.size, 3, none⟩ = some (.int .i64 (-1)) ∧ w10.cell? ⟨w3.heap.size, 4, none⟩ = some (.int .i64 (-1)) ∧ w10.cell? ⟨w3.heap.size, 5, none⟩ = some (.int .i64 s.done) ∧ w10.rangeAt w8.heap.size 0 (bvs bq) from ⟨F10.out.x.cell (j := 0) rfl, F10.out.x.cell (j := 1) rfl, F10.out.x.cell (j := 2) rfl, F10.out.x.cell (j := 3) rfl, F10.out.x.cell (j := 4) rfl, F10.out.x.cell (j := 5) rfl, B10.out.rg⟩); clear hb10))
            go_wp2
            go_roundw
            case rel => exact ⟨j + 1, _, _, by omega, by go_num, F10⟩
            case measure => simp [intOf]; omega
          · have hd2 : decide ((j : Int) < (N : Int)) = false := by simp; omega
            have HFI := hfi
            clear hfi
            go_wp2
            go_ret
            exact ⟨rfl, HFI.out.live.2.2⟩
      · have h20' : (20 : Int) < (N : Int) := by omega
        go_wp2_with (first
          | (with_reducible refine st_ref rfl _ _ rfl w3.heap.size N A2 m2 c2 false (-1) (-1) s.done rfl rfl X6.out.th ?_)
          | fail)
        go_loopw [85] (fun i wz => ∃ (j : Nat) (M2 : Mo) (S2 : Nat → Prop), j ≤ 20 ∧ i = .int .i64 (j : Int) ∧ Hid (Fi W g w3.heap.size N j S2 M2 (M.crash (lvB [])).safe (rfL N (.slice A2 m2 c2) false (-1) (-1) s.done) A2 m2 c2 (liveE (lvA false []) es 0) wz)) (fun i _ => 20 - (intOf i).toNat)
        case atStart => exact ⟨0, _, _, Nat.zero_le _, rfl, F7⟩
        case round =>
          obtain ⟨j, M2, S2, hj, rfl, hfi⟩ := hrel
          by_cases hjl : j < 20
          · have hd2 : decide ((j : Int) < (20 : Int)) = true := by simp; omega
            have hj0 : (0 : Int) ≤ (j : Int) := Int.natCast_nonneg _
            have hj1 : (j : Int) < (20 : Int) := by omega
            have hjN : j < N := by omega
            have hsl2 : M2.safe.length = N := by rw [hfi.out.safe]; exact SL.out
            have hhas : hasB M2.safe.length (j : Int) = true := by rw [hsl2]; simp [hasB]; omega
            have hre := hfi.out.plain.read (j : Int)
            rw [if_pos hhas, Int.toNat_natCast] at hre
            have hrk := read_dk hfi.out.live.1 (j : Int) (by have := hfi.out.ops; omega)
            have hlq := read_len hfi.out.live.1.ok (j : Int)
            have hq1 : (M2.read (j : Int)).2.1 = holdE (liveE (lvA false []) es 0) j := by
              rw [hre, EX.out.holds (fun p hp => by cases hp) (by rw [SL.out]; exact hjN)]
              show holdsOf M2.safe M2.wt j = _
              rw [hfi.out.safe, hfi.out.wt]
            have hq2 : (M2.read (j : Int)).2.2 = 0 := by rw [hre]
            rw [hq1] at hlq
            rw [hq1, hq2] at hrk
            have HHR := Lib.hid (fun w0 (h0 : Ew w0 A2 m2 c2 (liveE (lvA false []) es 0)) => holds_ref h0 (by have := E6L.out; omega) ⟨false, -1, -1, s.done⟩ (N : Int) j (by omega))
            have HST := Lib.hid (fun w' => hfi.out.read hhas (w' := w'))
            generalize holdE (liveE (lvA false []) es 0) j = bq at hrk hlq HHR
            have HBQ := Lib.hid hlq
            have HRK := Lib.hid hrk
            clear hrk hlq hq1 hq2 hre hsl2 hhas
            go_wp2_with fail
            refine (HRK.out).mono ?_
            rintro e w8 ⟨rfl, hst⟩
            obtain ⟨S8, hf8⟩ := HST.out _ hst
            have F8 := Lib.hid hf8
            clear hf8 hst
            have hb9 : Below w8.heap.size w8 ((zbW w8).setCells w8.heap.size 0 (bvs bq)) := below_setCells (zbW_below w8) (Nat.le_refl _) 0 (bvs bq)
            have T8 := Lib.hid (Z64_there w8)
            have F9 := Lib.hid (F8.out.below hb9)
            have B9 : Hid (Lies ((zbW w8).setCells w8.heap.size 0 (bvs bq)) w8.heap.size 64 (bvs bq)) := Lib.hid ((Lies.zb w8).set_ (by rw [bvs_len, HBQ.out]))
            clear hb9
            go_wp2_with (first
              | (with_reducible refine al_block rfl rfl ?_)
              | (with_reducible refine st_block rfl _ _ rfl w8.heap.size 0 bq HBQ rfl rfl T8.out ?_))
            generalize (zbW w8).setCells w8.heap.size 0 (bvs bq) = w9 at F9 B9 ⊢
            have hE := fun w => neq_same HBQ.out w
            have hu := Try.underlying38
            have hi : (Try.prog.info? 38).map (·.size) = some (bvs bq).length := size_of HBQ.out
            have h64 : (bvs bq).length = 64 := by rw [bvs_len, HBQ.out]
            have hall := bvs_one bq
            have hbd : Below w9.heap.size w9 w9.drew := (Below.refl _ _).drew
            have FD := Lib.hid (F9.out.below hbd)
            have BD := Lib.hid (B9.out.below hbd B9.out.lt)
            clear hbd
            have HK2 := Lib.hid (show w9.drew.cell? ⟨w3.heap.size, 0, none⟩ = some (.int .i64 (N : Int)) ∧ w9.drew.cell? ⟨w3.heap.size, 1, none⟩ = some (.slice A2 m2 c2) ∧ w9.drew.cell? ⟨w3.heap.size, 2, none⟩ = some (.bool false) ∧ w9.drew.cell? ⟨w3.heap.size, 3, none⟩ = some (.int .i64 (-1)) ∧ w9.drew.cell? ⟨w3.heap.size, 4, none⟩ = some (.int .i64 (-1)) ∧ w9.drew.cell? ⟨w3.heap.size, 5, none⟩ = some (.int .i64 s.done) ∧ w9.drew.rangeAt w8.heap.size 0 (bvs bq) from ⟨FD.out.x.cell (j := 0) rfl, FD.out.x.cell (j := 1) rfl, FD.out.x.cell (j := 2) rfl, FD.out.x.cell (j := 3) rfl, FD.out.x.cell (j := 4) rfl, FD.out.x.cell (j := 5) rfl, BD.out.rg⟩)
            go_region_held3 (fun w' => w'.cell? ⟨w3.heap.size, 0, none⟩ = some (.int .i64 (N : Int)) ∧ w'.cell? ⟨w3.heap.size, 1, none⟩ = some (.slice A2 m2 c2) ∧ w'.cell? ⟨w3.heap.size, 2, none⟩ = some (.bool false) ∧ w'.cell? ⟨w3.heap.size, 3, none⟩ = some (.int .i64 (-1)) ∧ w'.cell? ⟨w3.heap.size, 4, none⟩ = some (.int .i64 (-1)) ∧ w'.cell? ⟨w3.heap.size, 5, none⟩ = some (.int .i64 s.done) ∧ w'.rangeAt w8.heap.size 0 (bvs bq))
              (first | with_reducible exact HK2.out | with_reducible exact HK3.out)
              ((go_at_call 21; refine (HHR.out _ FD.out.ew).mono ?_; rintro e w10 ⟨rfl, hb10⟩; have F10 := Lib.hid (FD.out.below hb10); have B10 := Lib.hid (BD.out.below hb10 BD.out.lt); have HK3 := Lib.hid (show w10.cell? ⟨w3.heap.size, 0, none⟩ = some (.int .i64 (N : Int)) ∧ w10.cell? ⟨w3.heap.size, 1, none⟩ = some (.slice A2 m2 c2) ∧ w10.cell? ⟨w3.heap.size, 2, none⟩ = some (.bool false) ∧ w10.cell? ⟨w3.heap.size, 3, none⟩ = some (.int .i64 (-1)) ∧ w10.cell? ⟨w3.heap.size, 4, none⟩ = some (.int .i64 (-1)) ∧ w10.cell? ⟨w3.heap.size, 5, none⟩ = some (.int .i64 s.done) ∧ w10.rangeAt w8.heap.size 0 (bvs bq) from ⟨F10.out.x.cell (j := 0) rfl, F10.out.x.cell (j := 1) rfl, F10.out.x.cell (j := 2) rfl, F10.out.x.cell (j := 3) rfl, F10.out.x.cell (j := 4) rfl, F10.out.x.cell (j := 5) rfl, B10.out.rg⟩); clear hb10))
            go_wp2
            go_roundw
            case rel => exact ⟨j + 1, _, _, by omega, by go_num, F10⟩
            case measure => simp [intOf]; omega
          · have hd2 : decide ((j : Int) < (20 : Int)) = false := by simp; omega
            have HFI := hfi
            clear hfi
            go_wp2
            go_ret
            exact ⟨rfl, HFI.out.live.2.2⟩

theorem walk (n0 : Int) (hb : -9223372036854775808 ≤ n0 ∧ n0 ≤ 9223372036854775807) (A : Option Addr) (n c : Nat) (l : List Ac) (W : World) (hs : Acts W W.heap.size A n c l) :
    Calls Try.prog 3 #[.int .i64 n0, .slice A n c] W fun e w' => e = .returned (.bool true) ∧ Below W.heap.size W w' := by
  by_cases h : n0 < 1 ∨ 2048 < n0
  · exact walk_bad n0 A n c W h
  · obtain ⟨N, rfl⟩ : ∃ N : Nat, n0 = (N : Int) := ⟨n0.toNat, by omega⟩
    exact walk_good N (by omega) (by omega) A n c l W hs

theorem own : ownKnob Try.prog.godebug = none := by kernel_rfl
theorem laidOut : laidOutB Try.prog = true := by kernel_rfl

set_option maxRecDepth 100000 in
theorem lifted (os : Os) (started : os.Started) (H : Type) (enc : TypeId × Value → H) :
    ReturnsInHanded {} Try.checked os 3 .any (Rows.diskGoesSpec.pre6 enc Try.prog Try.f3 Rows.diskGoesRow.domain false) (Rows.diskGoesSpec.post enc Try.prog Try.f3 false true false false) := by
  refine returnsInHanded_of_change (C := Try.checked) own started (by kernel_rfl) Try.func3
    (ChangeSpec.witness6 (enc := enc) (C := Try.checked) false ⟨#[], #[.int .i64 0, .slice none 0 0], []⟩ 8 (by kernel_rfl) (by kernel_rfl) (by kernel_rfl) (by kernel_rfl)) ?_
  intro W base args ds gs before hval0 hW hcnd _
  have hval : ∀ (j : Nat) t v, Try.f3.params[j]? = some t → args[j]? = some v → Value.okWide Try.prog W .any base t v := hval0
  have hW' := hW
  obtain ⟨p, q, hA0, hV, rfl, hfz, hnd⟩ := hW
  have hA : DataW.TrodAll enc Try.prog W 0 (fun _ => true) true Try.f3.params.toList args.toList ds p := hA0
  rw [Try.params3] at hA hval
  obtain ⟨v0, vs0, d0, ds0, p0, q0, hargs, rfl, rfl, h0, r0⟩ := trodAll_cons hA
  obtain ⟨v1, vs1, d1, ds1, p1, q1, rfl, rfl, rfl, h1, r1⟩ := trodAll_cons r0
  obtain ⟨rfl, rfl, rfl⟩ := trodAll_nil r1
  obtain rfl : args = #[v0, v1] := by cases args; simp_all
  obtain ⟨rfl, rfl⟩ := trodVars_none hV
  have k0 := h0
  have lt0 : ∀ x ∈ p0, x.block < W.heap.size := by obtain ⟨m, hm⟩ := k0; exact DataW.trod_lt m _ _ _ hm
  obtain ⟨a0, rfl, e0, f0, w0⟩ := open_int Try.underlying3 (hval 0 3 v0 rfl rfl) h0
  have b0 := bounds_i64 w0
  have k1 := h1
  have lt1 : ∀ x ∈ p1, x.block < W.heap.size := by obtain ⟨m, hm⟩ := k1; exact DataW.trod_lt m _ _ _ hm
  obtain ⟨A1, n1, c1, l1, rfl, s1⟩ := acts_arg (hval 1 22 v1 rfl rfl) h1
  clear hA0 hval0
  refine (walk a0 b0 A1 n1 c1 l1 W s1).mono fun e W' ⟨he, bel⟩ => ?_
  subst he
  exact ⟨_, rfl, _, _, _, [], _, [], hW', trodAll_mk1 (shut_bool Try.underlying4 _), (trodAll_cons_mk (Below.trod laidOut (by kernel_rfl) (of_decide_eq_true (by kernel_rfl)) k0 bel lt0) (trodAll_cons_mk (Below.trod laidOut (by kernel_rfl) (of_decide_eq_true (by kernel_rfl)) k1 bel lt1) trodAll_mk0)), rfl, bel.frame _, fun h => by cases h⟩

theorem over : Rows.diskGoesRow.holds Try.pinned (OpenSpec.ofChange Rows.diskGoesSpec) :=
  OpenClaim.holds_of_wide 3 Try.f3 rfl rfl rfl rfl rfl rfl rfl ⟨rfl, rfl, rfl, rfl, rfl⟩ rfl rfl rfl rfl rfl (by kernel_rfl) Try.func3 (by kernel_rfl)
    (of_decide_eq_true (by kernel_rfl)) (by unfold Func.isWrapper; first | (rw [if_pos (by decide +kernel)]; kernel_rfl) | (rw [if_neg (by decide +kernel)]; exact ⟨rfl, rfl⟩))
    (fun os started H enc _ => lifted os started H enc)

theorem proved : Rows.DiskGoesSaid := over
#print axioms proved
end Go.Proofs.Ytclgkmaeolnlaaa.diskGoes
