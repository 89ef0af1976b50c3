/-
  PROVED HERE: whatever acts l and whatever is kept, confluencelaw02.DiskLasts(l, keep) returns true: what is safe stays, whatever a crash keeps, and each sector holds something that it held. No condition.
-/
import Derived.Test.YtionbjocfepkaaaSc
import Derived.Test.YtionbjocfepkaaaLawe
import Derived.Test.YtionbjocfepkaaaRows
import Derived.ProofKit
import Derived.OpenShut
import Derived.ChangeOld
import Derived.Carry
namespace Go.Proofs.Ytionbjocfepkaaa.diskLasts
open Go.ChangeShapes Go.WideShapes Go.ChangeAt Go.RowKit
set_option linter.unusedVariables false

set_option linter.unusedSimpArgs false
open Go.Deep
theorem si_start (w : World) (b : Nat → Nat) : Si 0 (w.alloc (.cells (six6 (fun _ => .slice none 0 0)).toArray 46)) w.heap.size b (fun _ => .slice none 0 0) (fun _ => [Zb]) :=
  ⟨Lies.new w (six6 (fun _ => .slice none 0 0)) _, fun i hi => absurd hi (Nat.not_lt_zero i), fun i j hi => absurd hi (Nat.not_lt_zero i), fun i hi => absurd hi (Nat.not_lt_zero i)⟩
theorem si_push {k : Nat} (hk : k < 6) {w : World} {Bs : Nat} {b : Nat → Nat} {V : Nat → Value} (h : Si k w Bs b V (fun _ => [Zb])) : Si (k + 1) ((w.alloc (.cells Z64 37)).setCell ⟨Bs, k, none⟩ (.slice (some ⟨w.heap.size, 0, none⟩) 1 1)) Bs (upd b k w.heap.size) (upd V k (.slice (some ⟨w.heap.size, 0, none⟩) 1 1)) (fun _ => [Zb]) := by
  have hb : Below w.heap.size w (w.alloc (.cells Z64 37)) := (Below.refl _ _).alloc (Nat.le_refl _) _
  have hl := h.blk.lt
  have := Si.put (k' := k + 1) (j := k) (bj := w.heap.size) (v := .slice (some ⟨w.heap.size, 0, none⟩) 1 1) (l := [Zb]) (L := fun _ => [Zb]) (b := b) hk (h.blk.below hb hl) (fun i hi hn => (h.sv i (by omega)).below hb) (fun i i' hi hi' n1 n2 hn => h.inj i i' (by omega) (by omega) hn) (fun i hi hn => h.nB i (by omega)) (Sv.new w Zb_len) (by omega) (fun i hi hn => by have := (h.sv i (by omega)).lt; omega)
  refine this.congr fun i hi => ?_
  unfold upd
  split <;> rfl
theorem upd_hold {α : Type} (A B : Nat → α) (i j : Nat) : upd (fun j => if j < i then A j else B j) i (A i) j = if j < i + 1 then A j else B j := by
  by_cases e : j = i
  · subst e; rw [upd_same, if_pos (Nat.lt_succ_self _)]
  · rw [upd_other _ _ e]
    by_cases h : j < i
    · rw [if_pos h, if_pos (by omega)]
    · rw [if_neg h, if_neg (by omega)]
theorem ui_push {k Bs x y : Nat} {b : Nat → Nat} (h : Ui (k + 1) Bs (upd b k y) x) : Ui k Bs b x ∨ x = y := by
  rcases h with h | ⟨i, hi, h⟩
  · exact .inl (.inl h)
  · by_cases e : i = k
    · subst e; rw [upd_same] at h; exact .inr h
    · rw [upd_other _ _ e] at h; exact .inl (.inr ⟨i, by omega, h⟩)

set_option maxRecDepth 100000 in
set_option maxHeartbeats 4000000 in
theorem walk (A0 : Option Addr) (n0 c0 : Nat) (al0 : List Ac) (A1 : Option Addr) (n1 c1 : Nat) (kb : List Bool) (W : World) (hs0 : Acts W W.heap.size A0 n0 c0 al0) (hs1 : SlV W W.heap.size A1 n1 c1 (bls kb)) :
    Calls Try.prog 4 #[.slice A0 n0 c0, .slice A1 n1 c1] W fun e w' => e = .returned (.bool true) ∧ Below W.heap.size W w' := by
  have HKB := Lib.hid hs1
  clear hs1
  have hsm := some_any A0 n0 c0 hs0.cap hs0.max
  obtain ⟨m0, hm⟩ : ∃ m, min n0 100 = m := ⟨_, rfl⟩
  have M0 : m0 ≤ 100 := by omega
  have hsk := hs0.take (k := m0) (by omega)
  obtain ⟨al, has⟩ : ∃ al, al0.take m0 = al := ⟨_, rfl⟩
  rw [has] at hsk
  rw [hm] at hsm
  have HS0 := Lib.hid hsk
  have HSM0 := Lib.hid hsm
  clear hs0 hsm hsk has hm
  go_enter Try.func4, Try.ntmps4
  go_wp2_with fail
  refine (wakes_any _).mono ?_
  rintro e w1 ⟨rfl, hb1⟩
  have HB1 := Lib.hid hb1
  clear hb1
  go_wp2_with fail
  refine (new_any 6 (by omega) (by omega) w1).mono ?_
  rintro e w2 ⟨g, S2, rfl, hd2, hS2, hb2⟩
  have L2 : Hid (Live W w2 g S2 (Mo.new 6)) := Lib.hid ⟨hd2, fun b hb => Nat.le_trans HB1.out.size (hS2 b hb), HB1.out.trans (hb2.mono HB1.out.size)⟩
  clear hd2 hS2 hb2
  have hb3 : Below w2.heap.size w2 (w2.alloc (.cells (six6 (fun _ => .slice none 0 0)).toArray 46)) := (Below.refl _ _).alloc (Nat.le_refl _) _
  have L3 := Lib.hid (L2.out.below hb3)
  have I3 := Lib.hid (si_start w2 fun _ => 0)
  have U3 : Hid (∀ x, Ui 0 w2.heap.size (fun _ => 0) x → ¬ S2 x ∧ W.heap.size ≤ x) := Lib.hid fun x hx => by
    rcases hx with rfl | ⟨i, hi, _⟩
    · exact ⟨fun hS => by have := L2.out.1.lt _ hS; omega, L2.out.2.2.size⟩
    · exact absurd hi (Nat.not_lt_zero i)
  clear hb3
  go_wp2_with fail
  obtain ⟨Bs, hBs⟩ : ∃ Bs, w2.heap.size = Bs := ⟨_, rfl⟩
  rw [hBs] at I3 U3 ⊢
  clear hBs L2 HB1
  go_loopw [37] (fun i wr => ∃ (k : Nat) (b : Nat → Nat) (V : Nat → Value), k ≤ 6 ∧ i = .int .i64 (k : Int) ∧ Hid (Si k wr Bs b V (fun _ => [Zb])) ∧ Hid (Live W wr g S2 (Mo.new 6)) ∧ Hid (∀ x, Ui k Bs b x → ¬ S2 x ∧ W.heap.size ≤ x)) (fun i _ => 6 - (intOf i).toNat)
  case atStart => exact ⟨0, _, _, Nat.zero_le _, rfl, I3, L3, U3⟩
  case round =>
    clear I3 L3 U3
    obtain ⟨k, b, V, hk, rfl, hSi, hL, hU⟩ := hrel
    by_cases hlt : k < 6
    · have hd : decide ((k : Int) < 6) = true := by simp; omega
      have hk0 : (0 : Int) ≤ (k : Int) := Int.natCast_nonneg _
      have hk1 : (k : Int) < 6 := by omega
      have hob : (Instr.buildSlice 45 1 #[(0, .agg Z64)]).run Try.prog wr = .ok (.slice (some ⟨wr.heap.size, 0, none⟩) 1 1) (wr.alloc (.cells Z64 37)) := one_block Zb_len wr
      have hbu : ∀ w : World, (Instr.build 37 #[]).run Try.prog w = .ok (.agg Z64) w := fun w => by kernel_rfl
      have q1 := hSi.out.blk.cell (j := k) (six6_at V hlt)
      have q2 := hSi.out.blk.frozen (j := k) hlt
      have hBl := hSi.out.blk.lt
      go_wp2
      trace "HERE"
      go_roundw
      case rel =>
        have hpu := si_push hlt hSi.out
        rw [World.setCell_alloc_past _ _ _ _ hSi.out.blk.lt] at hpu
        refine ⟨k + 1, _, _, by omega, by go_num, Lib.hid hpu, ?_, ?_⟩
        · have hBB := hU.out Bs (.inl rfl)
          have l2 := hL.out.below (w' := wr.alloc (.cells Z64 37)) ((Below.refl _ _).alloc (Nat.le_refl _) _)
          have l3 : Live W ((wr.alloc (.cells Z64 37)).setCell ⟨Bs, k, none⟩ (.slice (some ⟨wr.heap.size, 0, none⟩) 1 1)) g S2 (Mo.new 6) := live_set l2 hBB.1 hBB.2 k [_]
          rw [World.setCell_alloc_past _ _ _ _ hSi.out.blk.lt] at l3
          exact Lib.hid l3
        · refine Lib.hid fun x hx => ?_
          rcases ui_push hx with q | rfl
          · exact hU.out x q
          · exact ⟨fun hS => by have := hL.out.1.lt _ hS; omega, hL.out.2.2.size⟩
      case measure => simp [intOf]; omega
    · have hd : decide ((k : Int) < 6) = false := by simp; omega
      obtain rfl : k = 6 := by omega
      have US0 : Hid (Us W g Bs 0 S2 (Mo.new 6) b V (LQ (Mo.new 6)) wr) := Lib.hid ⟨hL.out, Mo.Bare.new 6, by simp [Mo.new], by simp [Mo.new], by simp [Mo.new], hSi.out.congr fun i hi => (LQ_new hi).symm, hU.out⟩
      clear hSi hL hU hlt hk
      go_wp2_with (first
        | (go_at_call 8; refine (HSM0.out _).mono ?_; rintro e w5 ⟨rfl, rfl⟩))
      trace "LOOP2"
      clear HSM0
      go_loopw [48] (fun i wr => ∃ (k : Nat) (M : Mo) (S : Nat → Prop) (b : Nat → Nat) (V : Nat → Value), k ≤ m0 ∧ i = .int .i64 (k : Int) ∧ Hid (Us W g Bs k S M b V (LQ M) wr)) (fun i _ => m0 - (intOf i).toNat)
      case atStart => exact ⟨0, _, _, _, _, Nat.zero_le _, rfl, US0⟩
      case round =>
        clear US0
        obtain ⟨k, M, S, b, V, hk, rfl, hUs⟩ := hrel
        by_cases hlt : k < m0
        · have hd : decide ((k : Int) < (m0 : Int)) = true := by simp; omega
          have hk0 : (0 : Int) ≤ (k : Int) := Int.natCast_nonneg _
          have hk1 : (k : Int) < (m0 : Int) := by omega
          have hlas : al.length = m0 := HS0.out.len
          obtain ⟨bb, oo, hA, hbb, hcells⟩ := HS0.out.pos (by omega)
          have hcell := hcells k (by omega)
          obtain ⟨a, ha⟩ : ∃ a, al[k]'(by omega) = a := ⟨_, rfl⟩
          have haok := HS0.out.ok a (by rw [← ha]; exact List.getElem_mem _)
          rw [ha] at hcell
          have hbw : Below W.heap.size W wr := hUs.out.live.2.2
          have hcw := rangeAt_keep hcell (hbw.block bb hbb)
          subst hA
          obtain ⟨kind, nn, by_, Ak, lk, ck, ks⟩ := a
          have q0 : wr.cell? ⟨bb, oo + k * 4, none⟩ = some (.int .i64 kind) := hcw 0 _ rfl
          have q1 : wr.cell? ⟨bb, oo + k * 4 + 1, none⟩ = some (.int .i64 nn) := hcw 1 _ rfl
          have q2 : wr.cell? ⟨bb, oo + k * 4 + 2, none⟩ = some (.int .u8 (by_.toNat : Int)) := hcw 2 _ rfl
          have q3 : wr.cell? ⟨bb, oo + k * 4 + 3, none⟩ = some (.slice Ak lk ck) := hcw 3 _ rfl
          have hqb : bb < wr.heap.size := Nat.lt_of_lt_of_le hbb hbw.size
          have HKS : Hid (SlV W W.heap.size Ak lk ck (bls ks)) := Lib.hid haok.ks
          have HN := Lib.hid haok.n
          have HBB := Lib.hid hbb
          have HBW := Lib.hid hbw
          have HCELL := Lib.hid hcell
          obtain ⟨wx, hwx⟩ : ∃ wx, wx = wr.alloc (.cells #[.int .i64 kind, .int .i64 nn, .int .u8 (by_.toNat : Int), .slice Ak lk ck] 35) := ⟨_, rfl⟩
          have hbx : Below wr.heap.size wr wx := by rw [hwx]; exact (Below.refl _ _).alloc (Nat.le_refl _) _
          have U1 := Lib.hid (hUs.out.below hbx)
          have X1 : Hid (Lies wx wr.heap.size 4 (acL kind nn by_ Ak lk ck)) := Lib.hid (by rw [hwx]; exact Lies.new wr (acL kind nn by_ Ak lk ck) 35)
          have NS := Lib.hid (show ¬ S wr.heap.size from fun hS => by have := hUs.out.live.1.lt _ hS; omega)
          have NU := Lib.hid (show ∀ x, Ui 6 Bs b x → x ≠ wr.heap.size from fun x hx e => by have := hUs.out.si.lt hx; omega)
          obtain ⟨kd, hkd⟩ : ∃ kd, whichI kind = kd := ⟨_, rfl⟩
          have hwh := fun w => which_any kind nn by_ Ak lk ck w
          rw [hkd] at hwh
          have HWH := Lib.hid hwh
          have HKD := Lib.hid hkd
          have HWX := Lib.hid hwx
          have e0 := X1.out.cell (j := 0) rfl
          have e1 := X1.out.cell (j := 1) rfl
          have e2 := X1.out.cell (j := 2) rfl
          have e3 := X1.out.cell (j := 3) rfl
          have HAOK := Lib.hid haok
          have hkr := whichI_cases kind
          rw [hkd] at hkr
          clear hwh hkd hwx hcells hcell haok hbw hcw hbx hlas ha hUs
          go_upto_region 15 with fail
          rw [← HWX.out]
          clear HWX q0 q1 q2 q3
          by_cases hgt : 3 < kd
          · have hgt' : decide (3 < kd) = true := by simpa using hgt
            clear hkr
            go_wp2_with fail
            refine (HWH.out _).mono ?_
            rintro e w3 ⟨rfl, hb3⟩
            have U3 := Lib.hid (U1.out.below hb3).weak
            clear hb3 e0 e1 e2 e3
            go_wp2_with fail
            go_roundw
            case rel => exact ⟨k + 1, _, _, _, _, by omega, by go_num, U3⟩
            case measure => simp [intOf]; omega
          · have hgt' : decide (3 < kd) = false := by simpa using hgt
            have HK3 := Lib.hid (show whichI kind ≤ 3 by rw [HKD.out]; omega)
            go_wp2_with fail
            refine (HWH.out _).mono ?_
            rintro e w3 ⟨rfl, hb3⟩
            have U3 := Lib.hid (U1.out.below hb3)
            have X3 := Lib.hid (X1.out.below hb3 X1.out.lt)
            clear hb3 e0 e1 e2 e3
            have e0 := X3.out.cell (j := 0) rfl
            have e1 := X3.out.cell (j := 1) rfl
            have e2 := X3.out.cell (j := 2) rfl
            have e3 := X3.out.cell (j := 3) rfl
            have hhap := happens_dk kind nn by_ (ks := ks) (HKS.out.below U3.out.live.2.2) U3.out.live.2.2.size U3.out.live.1 (by have := U3.out.ops; omega) (by have := U3.out.cnt; omega) HAOK.out.n
            have hal := act_len U3.out.live.1.ok kind nn by_ ks
            have HST := Lib.hid (fun w' S' (hd : Dk w' g S' (M.act kind nn by_ ks).1) (hm : Mv S w3 w') (hg : Grow S S' w3) => U3.out.step HK3.out hd hm hg)
            obtain ⟨er, her⟩ : ∃ er, (M.act kind nn by_ ks).2.2 = er := ⟨_, rfl⟩
            obtain ⟨bq, hbq⟩ : ∃ bq, (M.act kind nn by_ ks).2.1 = bq := ⟨_, rfl⟩
            obtain ⟨M', hM'⟩ : ∃ M', (M.act kind nn by_ ks).1 = M' := ⟨_, rfl⟩
            have hMn : er = 2 ∧ M' = M ∨ er = 0 ∧ thB M.safe.length kind nn = true := by
              cases ht : thB M.safe.length kind nn with
              | false => left; rw [← her, ← hM', bare_miss U3.out.bare HK3.out ht]; exact ⟨rfl, rfl⟩
              | true => right; rw [← her, bare_ok U3.out.bare HK3.out ht]; exact ⟨rfl, rfl⟩
            have hLr := fun (h : whichI kind = 0) => lq_read (n := nn) (b := by_) (ks := ks) U3.out.bare h
            have hLw := fun (h : whichI kind = 1 ∨ whichI kind = 2) => lq_write (n := nn) (b := by_) (ks := ks) U3.out.bare h
            have hLs := fun (h : whichI kind = 3) => lq_sync (n := nn) (b := by_) (ks := ks) U3.out.bare U3.out.live.1.ok h
            rw [hM'] at HST hLr hLw hLs hhap
            rw [her, hbq] at hhap
            rw [hbq] at hal
            rw [HKD.out] at hLr hLw hLs
            have HHAP := Lib.hid hhap
            have HBQ := Lib.hid hal
            have HLR := Lib.hid hLr
            have HLW := Lib.hid hLw
            have HLS := Lib.hid hLs
            clear hhap hal hM' her hbq hLr hLw hLs
            rcases hMn with ⟨rfl, rfl⟩ | ⟨rfl, hth⟩
            · clear hkr
              go_upto_region 16 with fail
              go_wp2_with fail
              refine (HHAP.out).mono ?_
              rintro e w5 ⟨rfl, S5, hd5, hm5, hg5⟩
              have U5 := Lib.hid (HST.out _ _ hd5 hm5 hg5)
              have X5 := Lib.hid (X3.out.mv hm5 NS.out)
              have HB5 := Lib.hid (Z64_there w5)
              have hb6 : Below w5.heap.size w5 ((zbW w5).setCells w5.heap.size 0 (bvs bq)) := below_setCells (zbW_below w5) (Nat.le_refl _) 0 (bvs bq)
              have U6 := Lib.hid (U5.out.below hb6)
              have X6 := Lib.hid (X5.out.below hb6 X5.out.lt)
              clear hd5 hm5 hg5 hb6 e0 e1 e2 e3
              have e0 := X6.out.cell (j := 0) rfl
              have e1 := X6.out.cell (j := 1) rfl
              have e2 := X6.out.cell (j := 2) rfl
              have e3 := X6.out.cell (j := 3) rfl
              go_upto_region 17 with (first
                | (with_reducible refine al_block rfl rfl ?_)
                | (with_reducible refine st_block rfl _ _ rfl w5.heap.size 0 bq HBQ rfl rfl HB5.out ?_)
                | fail)
              generalize (zbW w5).setCells w5.heap.size 0 (bvs bq) = w6 at U6 X6 e0 e1 e2 e3 ⊢
              go_wp2_with fail
              go_roundw
              case rel => exact ⟨k + 1, _, _, _, _, by omega, by go_num, U6⟩
              case measure => simp [intOf]; omega
            · have HTH := Lib.hid hth
              clear hth
              rcases (show kd = 0 ∨ (kd = 1 ∨ kd = 2) ∨ kd = 3 by omega) with h0 | h12 | h3
              · subst h0
                clear hkr
                go_upto_region 16 with fail
                go_wp2_with fail
                refine (HHAP.out).mono ?_
                rintro e w5 ⟨rfl, S5, hd5, hm5, hg5⟩
                have U5 := Lib.hid (HST.out _ _ hd5 hm5 hg5)
                have X5 := Lib.hid (X3.out.mv hm5 NS.out)
                have HB5 := Lib.hid (Z64_there w5)
                have hb6 : Below w5.heap.size w5 ((zbW w5).setCells w5.heap.size 0 (bvs bq)) := below_setCells (zbW_below w5) (Nat.le_refl _) 0 (bvs bq)
                have U6 := Lib.hid (U5.out.below hb6)
                have X6 := Lib.hid (X5.out.below hb6 X5.out.lt)
                clear hd5 hm5 hg5 hb6 e0 e1 e2 e3
                have e0 := X6.out.cell (j := 0) rfl
                have e1 := X6.out.cell (j := 1) rfl
                have e2 := X6.out.cell (j := 2) rfl
                have e3 := X6.out.cell (j := 3) rfl
                go_upto_region 17 with (first
                  | (with_reducible refine al_block rfl rfl ?_)
                  | (with_reducible refine st_block rfl _ _ rfl w5.heap.size 0 bq HBQ rfl rfl HB5.out ?_)
                  | fail)
                generalize (zbW w5).setCells w5.heap.size 0 (bvs bq) = w6 at U6 X6 e0 e1 e2 e3 ⊢
                have U6' := Lib.hid (U6.out.congr (L' := LQ M') fun i hi => by rw [HLR.out (by trivial)])
                go_wp2_with fail
                refine (HWH.out _).mono ?_
                rintro e w7 ⟨rfl, hb7⟩
                have U7 := Lib.hid (U6'.out.below hb7)
                have X7 := Lib.hid (X6.out.below hb7 X6.out.lt)
                clear hb7 e0 e1 e2 e3
                have e0 := X7.out.cell (j := 0) rfl
                have e1 := X7.out.cell (j := 1) rfl
                have e2 := X7.out.cell (j := 2) rfl
                have e3 := X7.out.cell (j := 3) rfl
                go_wp2_with fail
                refine (HWH.out _).mono ?_
                rintro e w8 ⟨rfl, hb8⟩
                have U8 := Lib.hid (U7.out.below hb8)
                have X8 := Lib.hid (X7.out.below hb8 X7.out.lt)
                clear hb8 e0 e1 e2 e3
                have e0 := X8.out.cell (j := 0) rfl
                have e1 := X8.out.cell (j := 1) rfl
                have e2 := X8.out.cell (j := 2) rfl
                have e3 := X8.out.cell (j := 3) rfl
                go_wp2_with fail
                go_roundw
                case rel => exact ⟨k + 1, _, _, _, _, by omega, by go_num, U8⟩
                case measure => simp [intOf]; omega
              · obtain ⟨N, rfl⟩ : ∃ N : Nat, nn = (N : Int) := ⟨nn.toNat, by
                  have h := HTH.out
                  rw [thB_0 (by rw [HKD.out]; omega)] at h
                  simp [hasB] at h
                  omega⟩
                have HN6 : Hid (N < 6) := Lib.hid (by
                  have h := HTH.out
                  rw [thB_0 (by rw [HKD.out]; omega), U3.out.six] at h
                  simp [hasB] at h
                  omega)
                have HWT := Lib.hid (show (M.wt.length : Int) ≤ k from U3.out.cnt)
                have hN0 : (0 : Int) ≤ (N : Int) := Int.natCast_nonneg _
                have hN6 : (N : Int) < 6 := by have := HN6.out; omega
                have g1 : decide (0 < kd) = true := by simp; omega
                have g2 : (kd == 3) = false := by simp; omega
                have HLW2 := Lib.hid (HLW.out (by rw [HKD.out] at *; exact h12) HTH.out)
                clear hkr h12
                go_upto_region 16 with fail
                go_wp2_with fail
                refine (HHAP.out).mono ?_
                rintro e w5 ⟨rfl, S5, hd5, hm5, hg5⟩
                have U5 := Lib.hid (HST.out _ _ hd5 hm5 hg5)
                have X5 := Lib.hid (X3.out.mv hm5 NS.out)
                have HB5 := Lib.hid (Z64_there w5)
                have hb6 : Below w5.heap.size w5 ((zbW w5).setCells w5.heap.size 0 (bvs bq)) := below_setCells (zbW_below w5) (Nat.le_refl _) 0 (bvs bq)
                have U6 := Lib.hid (U5.out.below hb6)
                have X6 := Lib.hid (X5.out.below hb6 X5.out.lt)
                clear hd5 hm5 hg5 hb6 e0 e1 e2 e3
                have e0 := X6.out.cell (j := 0) rfl
                have e1 := X6.out.cell (j := 1) rfl
                have e2 := X6.out.cell (j := 2) rfl
                have e3 := X6.out.cell (j := 3) rfl
                go_upto_region 17 with (first
                  | (with_reducible refine al_block rfl rfl ?_)
                  | (with_reducible refine st_block rfl _ _ rfl w5.heap.size 0 bq HBQ rfl rfl HB5.out ?_)
                  | fail)
                generalize (zbW w5).setCells w5.heap.size 0 (bvs bq) = w6 at U6 X6 e0 e1 e2 e3 ⊢
                go_wp2_with fail
                refine (HWH.out _).mono ?_
                rintro e w7 ⟨rfl, hb7⟩
                have U7 := Lib.hid (U6.out.below hb7)
                have X7 := Lib.hid (X6.out.below hb7 X6.out.lt)
                clear hb7 e0 e1 e2 e3
                have e0 := X7.out.cell (j := 0) rfl
                have e1 := X7.out.cell (j := 1) rfl
                have e2 := X7.out.cell (j := 2) rfl
                have e3 := X7.out.cell (j := 3) rfl
                go_wp2_with fail
                refine (HWH.out _).mono ?_
                rintro e w8 ⟨rfl, hb8⟩
                have U8 := Lib.hid (U7.out.below hb8)
                have X8 := Lib.hid (X7.out.below hb8 X7.out.lt)
                clear hb8 e0 e1 e2 e3
                have e0 := X8.out.cell (j := 0) rfl
                have e1 := X8.out.cell (j := 1) rfl
                have e2 := X8.out.cell (j := 2) rfl
                have e3 := X8.out.cell (j := 3) rfl
                go_upto_region 25 with fail
                trace "R25"
                have hbd : Below w8.heap.size w8 w8.drew := (Below.refl _ _).drew
                have UD := Lib.hid (U8.out.below hbd)
                have XD := Lib.hid (X8.out.below hbd X8.out.lt)
                clear hbd e0 e1 e2 e3
                refine wp_region_bk 7 10 11 (fun w' => w'.cell? ⟨wr.heap.size, 1, none⟩ = some (.int .i64 (N : Int)) ∧ w'.cell? ⟨Bs, N, none⟩ = some (V N) ∧ w'.rangeAt wr.heap.size 0 (acL kind (N : Int) by_ Ak lk ck)) (by kernel_rfl) (by kernel_rfl) ⟨XD.out.cell (j := 1) rfl, UD.out.si.blk.cell (j := N) (six6_at V HN6.out), XD.out.rg⟩ ?_
                simp only [List.take_succ_cons, List.take_zero, List.drop_succ_cons, List.drop_zero]
                refine ⟨_, .inl ⟨rfl, fun w' hw' => (by clear hw'; go_simp; rfl)⟩, ?_⟩
                (try simp only [Act.put, List.setIfInBounds_toArray, List.set_cons_succ, List.set_cons_zero])
                refine ⟨_, .inl ⟨rfl, fun w' hw' => (by obtain ⟨h1, h2, h3⟩ := hw'; go_simp; rfl)⟩, ?_⟩
                (try simp only [Act.put, List.setIfInBounds_toArray, List.set_cons_succ, List.set_cons_zero])
                refine ⟨_, .inl ⟨rfl, fun w' hw' => (by clear hw'; go_simp; rfl)⟩, ?_⟩
                (try simp only [Act.put, List.setIfInBounds_toArray, List.set_cons_succ, List.set_cons_zero])
                refine ⟨_, .inl ⟨rfl, fun w' hw' => (by obtain ⟨h1, h2, h3⟩ := hw'; go_simp; rfl)⟩, ?_⟩
                (try simp only [Act.put, List.setIfInBounds_toArray, List.set_cons_succ, List.set_cons_zero])
                refine ⟨_, .inl ⟨rfl, fun w' hw' => (by clear hw'; go_simp; rfl)⟩, ?_⟩
                (try simp only [Act.put, List.setIfInBounds_toArray, List.set_cons_succ, List.set_cons_zero])
                refine ⟨_, .inl ⟨rfl, fun w' hw' => (by obtain ⟨h1, h2, h3⟩ := hw'; go_simp; rfl)⟩, ?_⟩
                (try simp only [Act.put, List.setIfInBounds_toArray, List.set_cons_succ, List.set_cons_zero])
                refine ⟨_, yieldsIf_load_mid rfl 35 _ rfl wr.heap.size 0 rfl (acL kind (N : Int) by_ Ak lk ck) _ (fun w' hw' => hw'.2.2) Try.underlying35 rfl (by kernel_rfl), ?_⟩
                (try simp only [Act.put, List.setIfInBounds_toArray, List.set_cons_succ, List.set_cons_zero])
                rw [wpHead_nil]
                rw [wpMid_cons]
                refine ⟨rfl, ?_⟩
                refine wp_fn (f := 14) (xs := #[actV kind (N : Int) by_ Ak lk ck]) (by first | (go_simp; done) | (go_simp; rfl)) ((block_any kind (N : Int) by_ Ak lk ck _).mono ?_)
                rintro e w9 ⟨rfl, hb9⟩
                have U9 := Lib.hid (UD.out.below hb9)
                have X9 := Lib.hid (XD.out.below hb9 XD.out.lt)
                clear hb9
                refine ⟨_, rfl, ⟨X9.out.cell (j := 1) rfl, U9.out.si.blk.cell (j := N) (six6_at V HN6.out), X9.out.rg⟩, ?_⟩
                rw [wpMid_cons]
                refine ⟨rfl, ?_⟩
                (try simp only [Act.put, List.setIfInBounds_toArray, List.set_cons_succ, List.set_cons_zero])
                have hb10 : Below w9.heap.size w9 (w9.alloc (.cells (bvs (actB by_)).toArray 37)) := (Below.refl _ _).alloc (Nat.le_refl _) _
                have U10 := Lib.hid (U9.out.below hb10)
                have X10 := Lib.hid (X9.out.below hb10 X9.out.lt)
                have NW10 := Lib.hid (World.news_of_block (heap_alloc_new w9 (.cells (bvs (actB by_)).toArray 37 (0, 0))))
                clear hb10
                refine wp_one_block (.tmp 92) (by rfl) (actB by_) (actB_len by_) (by rfl) ?_
                refine ⟨⟨X10.out.cell (j := 1) rfl, U10.out.si.blk.cell (j := N) (six6_at V HN6.out), X10.out.rg⟩, ?_⟩
                rw [wpMid_cons]
                refine ⟨rfl, ?_⟩
                (try simp only [Act.put, List.setIfInBounds_toArray, List.set_cons_succ, List.set_cons_zero])
                refine wp_append_sv (.tmp 90) (.tmp 93) (by rfl) (by rfl) (V N) (LQ M N) (by rfl) (U10.out.si.sv N HN6.out) ⟨w9.heap.size, 0, none⟩ 1 (actB by_) (by rfl) (actB_len by_) (fun j u hu => NW10.out j u (by simpa using hu)) (by have h1 := LQ_len M N; have h2 := U8.out.cnt; have h3 := HWT.out; omega) ?_
                intro bj vj w11 hsv hbj hmv
                obtain ⟨oj, cj, hvj, _⟩ := hsv.ex
                obtain ⟨nj, hnj⟩ : ∃ nj, (LQ M N ++ [actB by_]).length = nj := ⟨_, rfl⟩
                rw [hnj] at hvj
                subst hvj
                clear hnj
                have U11 := Lib.hid (U9.out.app ((Below.refl _ _).alloc (Nat.le_refl _) _) HN6.out hsv hbj hmv)
                have X11 := Lib.hid (X10.out.mv hmv (fun e => NU.out (b N) (.inr ⟨N, HN6.out, rfl⟩) e.symm))
                have B11 := Lib.hid (U10.out.si.blk.mv hmv (fun e => U10.out.si.nB N HN6.out e.symm))
                clear hsv hbj hmv
                refine ⟨⟨X11.out.cell (j := 1) rfl, B11.out.cell (j := N) (six6_at V HN6.out), X11.out.rg⟩, ?_⟩
                rw [wpMid_nil]
                (try simp only [Act.put, List.setIfInBounds_toArray, List.set_cons_succ, List.set_cons_zero])
                refine ⟨_, .inl ⟨rfl, fun w' _ => (by go_simp; rfl)⟩, ?_⟩
                (try simp only [Act.put, List.setIfInBounds_toArray, List.set_cons_succ, List.set_cons_zero])
                rw [wpHead_nil]
                (try simp only [Act.put, List.setIfInBounds_toArray, List.set_cons_succ, List.set_cons_zero])
                have d1 := B11.out.cell (j := N) (six6_at V HN6.out)
                have d2 := B11.out.frozen (j := N) HN6.out
                go_wp2_with fail
                refine NoPanic.normal ?_
                go_wp2_with fail
                trace "WROTE"
                have U12 := Lib.hid (U11.out.congr (L' := LQ M') fun i hi => by rw [HLW2.out]; rw [Int.toNat_natCast])
                go_roundw
                case rel => exact ⟨k + 1, _, _, _, _, by omega, by go_num, U12⟩
                case measure => simp [intOf]; omega
              · subst h3
                clear hkr
                go_upto_region 16 with fail
                go_wp2_with fail
                refine (HHAP.out).mono ?_
                rintro e w5 ⟨rfl, S5, hd5, hm5, hg5⟩
                have U5 := Lib.hid (HST.out _ _ hd5 hm5 hg5)
                have X5 := Lib.hid (X3.out.mv hm5 NS.out)
                have HB5 := Lib.hid (Z64_there w5)
                have hb6 : Below w5.heap.size w5 ((zbW w5).setCells w5.heap.size 0 (bvs bq)) := below_setCells (zbW_below w5) (Nat.le_refl _) 0 (bvs bq)
                have U6 := Lib.hid (U5.out.below hb6)
                have X6 := Lib.hid (X5.out.below hb6 X5.out.lt)
                clear hd5 hm5 hg5 hb6 e0 e1 e2 e3
                have e0 := X6.out.cell (j := 0) rfl
                have e1 := X6.out.cell (j := 1) rfl
                have e2 := X6.out.cell (j := 2) rfl
                have e3 := X6.out.cell (j := 3) rfl
                go_upto_region 17 with (first
                  | (with_reducible refine al_block rfl rfl ?_)
                  | (with_reducible refine st_block rfl _ _ rfl w5.heap.size 0 bq HBQ rfl rfl HB5.out ?_)
                  | fail)
                generalize (zbW w5).setCells w5.heap.size 0 (bvs bq) = w6 at U6 X6 e0 e1 e2 e3 ⊢
                go_wp2_with fail
                refine (HWH.out _).mono ?_
                rintro e w7 ⟨rfl, hb7⟩
                have U7 := Lib.hid (U6.out.below hb7)
                have X7 := Lib.hid (X6.out.below hb7 X6.out.lt)
                clear hb7 e0 e1 e2 e3
                have e0 := X7.out.cell (j := 0) rfl
                have e1 := X7.out.cell (j := 1) rfl
                have e2 := X7.out.cell (j := 2) rfl
                have e3 := X7.out.cell (j := 3) rfl
                have c0 := U7.out.si.blk.cell (j := 0) rfl
                have c1 := U7.out.si.blk.cell (j := 1) rfl
                have c2 := U7.out.si.blk.cell (j := 2) rfl
                have c3 := U7.out.si.blk.cell (j := 3) rfl
                have c4 := U7.out.si.blk.cell (j := 4) rfl
                have c5 := U7.out.si.blk.cell (j := 5) rfl
                have HV := Lib.hid (show ∀ i, i < 6 → ∃ a n c, V i = .slice a n c from fun i hi => by obtain ⟨o, c, h, _⟩ := (U7.out.si.sv i hi).ex; exact ⟨_, _, _, h⟩)
                go_wp2_with fail
                clear c0 c1 c2 c3 c4 c5
                obtain ⟨wo, hwo⟩ : ∃ wo : World, wo = wr := ⟨_, rfl⟩
                have HWO := Lib.hid hwo
                clear hwo
                go_loopw [69] (fun s wz => ∃ (i : Nat) (V' : Nat → Value), i ≤ 6 ∧ s = .int .i64 (i : Int) ∧ Hid (Us W g Bs (k + 1) S5 M' b V' (fun j => if j < i then [M.hold j] else LQ M j) wz) ∧ Hid (∀ j, i ≤ j → V' j = V j)) (fun s _ => 6 - (intOf s).toNat)
                case atStart => exact ⟨0, V, Nat.zero_le _, rfl, Lib.hid (U7.out.congr fun i hi => by rw [if_neg (Nat.not_lt_zero i)]), Lib.hid fun _ _ => rfl⟩
                case round =>
                  obtain ⟨i, V', hi6, rfl, hUi, hVi⟩ := hrel
                  by_cases hil : i < 6
                  · have hdi : decide ((i : Int) < 6) = true := by simp; omega
                    have hi0 : (0 : Int) ≤ (i : Int) := Int.natCast_nonneg _
                    have hi1 : (i : Int) < 6 := by omega
                    have hsv := hUi.out.si.sv i hil
                    rw [if_neg (Nat.lt_irrefl i), hVi.out i (Nat.le_refl _)] at hsv
                    obtain ⟨o, c, hv, hle, hcm, hlast⟩ := hsv.last (by simp [LQ]) (LQ_last M i)
                    have hix := fun w => index_six V HV.out hil w
                    rw [hv] at hix
                    obtain ⟨n, hn⟩ : ∃ n, (LQ M i).length = n := ⟨_, rfl⟩
                    have hn1 : (1 : Int) ≤ (n : Int) := by rw [← hn]; simp [LQ]; omega
                    have hnk : (n : Int) ≤ 1000 := by have h1 := LQ_len M i; have h2 := U3.out.cnt; omega
                    have hnc : (n : Int) ≤ (c : Int) := by omega
                    rw [hn] at hix hle hlast
                    have q1 := hUi.out.si.blk.cell (j := i) (six6_at V' hil)
                    have q2 := hUi.out.si.blk.frozen (j := i) hil
                    have hlast2 : Sv wr (b i) (.slice (some ⟨b i, o + (n - 1) * 64, none⟩) (n - (n - 1)) (c - (n - 1))) [M.hold i] := by
                      rw [show n - (n - 1) = 1 by omega]
                      exact hlast
                    have HLAST := Lib.hid hlast2
                    clear hsv hlast hlast2 hn hv hcm
                    go_wp2
                    trace "SLICED"
                    go_roundw
                    case rel => exact ⟨i + 1, _, by omega, by go_num, Lib.hid ((hUi.out.cut hil HLAST.out).congr (L' := fun j => if j < i + 1 then [M.hold j] else LQ M j) fun j _ => upd_hold (fun j => [M.hold j]) (LQ M) i j), Lib.hid fun j hj => (upd_other V' _ (by omega)).trans (hVi.out j (by omega))⟩
                    case measure => simp [intOf]; omega
                  · have hdi : decide ((i : Int) < 6) = false := by simp; omega
                    obtain rfl : i = 6 := by omega
                    have UE := Lib.hid (hUi.out.congr (L' := LQ M') fun j hj => by rw [if_pos hj, HLS.out (by trivial) j (by rw [U3.out.six]; exact hj)])
                    clear hUi hVi
                    go_wp2_with fail
                    go_roundw
                    case rel => exact ⟨k + 1, _, _, _, _, by omega, by go_num, UE⟩
                    case measure => simp [intOf]; omega
        · have hd : decide ((k : Int) < (m0 : Int)) = false := by simp; omega
          obtain rfl : k = m0 := by omega
          obtain ⟨N, hN⟩ : ∃ N : Mo, { M with ops := M.ops + 6 } = N := ⟨_, rfl⟩
          have hNs : N.safe = M.safe ∧ N.wt = M.wt ∧ N.ops = M.ops + 6 ∧ N.Bare := by subst hN; exact ⟨rfl, rfl, rfl, hUs.out.bare.dead, hUs.out.bare.fu, hUs.out.bare.fa⟩
          obtain ⟨fh, hfh⟩ : ∃ fh, M.hld = fh := ⟨_, rfl⟩
          have hfN : N.hld = fh := by subst hN; exact hfh
          have hLN : LQ M = LQ N := by subst hN; rfl
          have hHD := holds_dk hUs.out.live.1 hUs.out.bare.plain (by have := hUs.out.six; omega) (by have := hUs.out.ops; omega)
          rw [hN, hfh] at hHD
          have hfl := hld_len hUs.out.live.1.ok
          rw [hfh] at hfl
          have HF := Lib.hid hfl
          have HHD := Lib.hid hHD
          have US := Lib.hid hUs.out
          rw [hLN] at US
          have HNS := Lib.hid hNs
          have HFN := Lib.hid hfN
          clear hUs hHD hfl hN hNs hfh hfN hLN
          go_wp2_with fail
          refine (HHD.out).mono ?_
          rintro e w3 ⟨rfl, S3, hd3, hm3, hg3⟩
          have U3 : Hid (Us W g Bs (k + 6) S3 N b V (LQ N) w3) := Lib.hid (US.out.to hd3 hm3 hg3 HNS.out.2.2.2 (by rw [HNS.out.1]; exact US.out.six) (by have := US.out.ops; rw [HNS.out.2.2.1]; push_cast; omega) (by have := US.out.cnt; rw [HNS.out.2.1]; push_cast; omega))
          clear hd3 hm3 hg3
          have U4 := Lib.hid (U3.out.below (below_six w3 fh))
          have L15 := Lib.hid (lies_six (w := w3) HF.out)
          have N15 := Lib.hid (show ¬ S3 w3.heap.size from fun h => by have := U3.out.live.1.lt _ h; omega)
          have TH3 := Lib.hid (there_six w3)
          go_upto_region 28 with (first
            | (with_reducible refine al_six rfl rfl ?_)
            | (with_reducible refine st_six rfl _ _ rfl w3.heap.size fh HF rfl rfl TH3.out ?_)
            | fail)
          clear TH3 U3 US HHD
          generalize (w3.alloc (.cells Z6 50)).setCells w3.heap.size 0 (bvs (sixB fh)) = w4 at U4 L15 ⊢
          generalize w3.heap.size = b15 at L15 N15 ⊢
          have hC1 := copy_dk U4.out.live.1 (by have := U4.out.cnt; omega)
          have HC1 := Lib.hid hC1
          clear hC1
          go_wp2_with fail
          refine (HC1.out).mono ?_
          rintro e w5 ⟨ga, Sa, rfl, hda, hSa, hb5⟩
          have hC2 := copy_dk (U4.out.live.below hb5).1 (by have := U4.out.cnt; omega)
          have HC2 := Lib.hid hC2
          have HDA := Lib.hid (And.intro hda (And.intro hSa hb5))
          clear hC2 hda hSa hb5
          go_wp2_with fail
          refine (HC2.out).mono ?_
          rintro e w6 ⟨gb, Sb, rfl, hdb, hSb, hb6⟩
          have Z6_ : Hid (Zz W Bs b V (LQ N) [(b15, fh)] w6 g S3 N ga Sa N gb Sb N) := Lib.hid (by
            have hu : ∀ x, Uz Bs b [(b15, fh)] x → x < w4.heap.size ∧ ¬ S3 x := fun x hx => by
              rcases hx with hx | ⟨p, hp, rfl⟩
              · exact ⟨U4.out.si.lt hx, (U4.out.off x hx).1⟩
              · simp only [List.mem_singleton] at hp; subst hp; exact ⟨L15.out.lt, N15.out⟩
            obtain ⟨ht, hk⟩ := Th.start (U := Uz Bs b [(b15, fh)]) U4.out.live hu HDA.out.1 HDA.out.2.1 HDA.out.2.2 hdb hSb hb6
            exact ⟨ht, U4.out.si.kp (fun x hx => hk.block x (.inl hx)) hk.size, fun p hp => by simp only [List.mem_singleton] at hp; subst hp; exact L15.out.kp (hk.block b15 (.inr ⟨(b15, fh), by simp, rfl⟩)) hk.size⟩)
          have HNN := Lib.hid (show N.ops ≤ (k : Int) + 6 ∧ (N.wt.length : Int) ≤ (k : Int) + 6 ∧ N.safe.length = 6 ∧ N.Ok ∧ k ≤ 100 from ⟨by have := U4.out.ops; push_cast at this; exact this, by have := U4.out.cnt; push_cast at this; exact this, U4.out.six, U4.out.live.1.ok, M0⟩)
          clear U4 L15 N15 HC1 HC2 HDA hdb hSb hb6 HNS
          have HPD := Lib.hid (pend_dk Z6_.out.th.a.1 (by have := HNN.out; omega))
          go_wp2_with fail
          refine (HPD.out).mono ?_
          rintro e w7 ⟨Ap, n, cp, rfl, hop, hnp, hb7⟩
          have Z7 := Lib.hid (Z6_.out.below hb7)
          have HNP := Lib.hid hnp
          have hn0 : (0 : Int) ≤ (n : Int) := Int.natCast_nonneg _
          have hnk : (n : Int) ≤ 1000 := by have := HNN.out; omega
          have hmk := run_make_bools n (by omega) w7
          have hbk : Below w7.heap.size w7 (w7.alloc (.cells (bls (List.replicate n false)).toArray 4)) := (Below.refl _ _).alloc (Nat.le_refl _) _
          have Z8 := Lib.hid (Z7.out.below hbk)
          have O8 : Hid ((w7.alloc (.cells (bls (List.replicate n false)).toArray 4)).ownsRow w7.heap.size 4 1 (.slice (some ⟨w7.heap.size, 0, none⟩) n n) n (bls (List.replicate n false))) := Lib.hid (World.ownsRow_lit w7 (bls (List.replicate n false)).toArray n (Nat.le_refl _) (by unfold maxLen; omega) (by simp [bls]))
          have NK := Lib.hid (Z7.out.notin (Nat.le_refl w7.heap.size))
          have HW7 := Lib.hid Z7.out.th.a.2.2.size
          clear hop hnp hb7 hbk HPD Z6_
          go_wp2_with fail
          generalize w7.alloc (.cells (bls (List.replicate n false)).toArray 4) = w8 at Z8 O8 ⊢
          generalize w7.heap.size = bk at O8 NK HW7 ⊢
          clear Z7 hmk
          obtain ⟨wo, hwo⟩ : ∃ wo : World, wo = wr := ⟨_, rfl⟩
          have HWO := Lib.hid hwo
          clear hwo
          go_loopw [112] (fun s wq => ∃ (j : Nat) (ys : List Bool), j ≤ n ∧ s = .int .i64 (j : Int) ∧ Hid (ys.length = n) ∧ Hid (∀ i, i < j → ys.getD i false = true) ∧ Hid (wq.ownsRow bk 4 1 (.slice (some ⟨bk, 0, none⟩) n n) n (bls ys)) ∧ Hid (Zz W Bs b V (LQ N) [(b15, fh)] wq g S3 N ga Sa N gb Sb N)) (fun s _ => n - (intOf s).toNat)
          case atStart => exact ⟨0, List.replicate n false, Nat.zero_le _, rfl, Lib.hid (by simp), Lib.hid (fun i hi => absurd hi (Nat.not_lt_zero i)), O8, Z8⟩
          case round =>
            clear O8 Z8
            obtain ⟨j, ys, hj, rfl, hyl, hyt, hown, hz⟩ := hrel
            by_cases hjl : j < n
            · have hd2 : decide ((j : Int) < (n : Int)) = true := by simp; omega
              have hj0 : (0 : Int) ≤ (j : Int) := Int.natCast_nonneg _
              have hj1 : (j : Int) < (n : Int) := by omega
              have q1 := hown.out.cellAt j (by omega)
              rw [List.getElem?_eq_getElem (by simp [bls, hyl.out]; exact hjl)] at q1
              have q2 := hown.out.frozenAt j
              have HYT := hyt
              have HYL := hyl
              clear hyt
              go_wp2
              go_roundw
              case rel =>
                refine ⟨j + 1, ys.set j true, by omega, by go_num, Lib.hid (by rw [List.length_set]; exact HYL.out), Lib.hid fun i hi => ?_, Lib.hid (by have := (hown.out.stored j (.bool true)).1; simpa [bls, List.map_set] using this), Lib.hid (hz.out.set_ NK.out HW7.out j _)⟩
                by_cases e : i = j
                · subst e; rw [List.getD_eq_getElem?_getD, List.getElem?_set_self (by rw [HYL.out]; exact hjl)]; rfl
                · rw [List.getD_eq_getElem?_getD, List.getElem?_set_ne (Ne.symm e), ← List.getD_eq_getElem?_getD]; exact HYT.out i (by omega)
              case measure => simp [intOf]; omega
            · have hd2 : decide ((j : Int) < (n : Int)) = false := by simp; omega
              obtain rfl : j = n := by omega
              have Z9 := Lib.hid hz.out
              have KS : Hid (SlV wr wr.heap.size (some ⟨bk, 0, none⟩) j j (bls ys)) := Lib.hid (own_slv hown.out)
              have HYS := Lib.hid (show ∀ i, i < N.wt.length → lvB ys i = true from fun i hi => hyt.out i (by rw [HNP.out]; exact hi))
              have HCA := Lib.hid (crash_dk Z9.out.th.b.1 KS.out (Nat.le_refl _) (fun x hx hS => by injection hx with hx; subst hx; exact NK.out.2.1 hS) (by have := HNN.out; omega))
              obtain ⟨lt_, hlt_⟩ : ∃ lv : Nat → Bool, lvB ys = lv := ⟨_, rfl⟩
              rw [hlt_] at HYS HCA
              obtain ⟨m1, hm1⟩ : ∃ m1, min n1 200 = m1 := ⟨_, rfl⟩
              have hm1c : n1 ≤ 200 ∧ m1 = n1 ∨ 200 < n1 ∧ m1 = 200 := by omega
              have hm1b : m1 ≤ 200 := by omega
              have SK := Lib.hid (HKB.out.take (k := m1) (by omega))
              obtain ⟨kt, hkt⟩ : ∃ kt : List Bool, kb.take m1 = kt := ⟨_, rfl⟩
              rw [show (bls kb).take m1 = bls kt by rw [← hkt]; simp [bls, List.map_take]] at SK
              have hn1c : n1 ≤ c1 ∧ c1 ≤ 9223372036854775807 := ⟨HKB.out.cap, HKB.out.max⟩
              have hn10 : (0 : Int) ≤ (n1 : Int) := Int.natCast_nonneg _
              clear hz hown hyl hyt hlt_ hm1 hkt
              go_upto_region 35 with fail
              go_cut [142] (fun s wz => s = .bool false ∧ ∃ (Sd Sa' Sb' : Nat → Prop) (lv : Nat → Bool), Hid (Zz W Bs b V (LQ N) [(b15, fh)] wz ga Sa' (N.crash lt_) gb Sb' (N.crash (lvB [])) g Sd (N.crash lv)))
              case first =>
                rcases hm1c with ⟨h1, rfl⟩ | ⟨h1, rfl⟩
                · have h1' : (m1 : Int) ≤ 200 := by omega
                  go_wp2_with (first
                    | (go_at_call 17; refine (HCD.out).mono ?_; rintro e w14 ⟨rfl, Sd, hd14, hm14, hg14⟩; have Z14 := Lib.hid (Z13.out.step hd14 hm14 hg14); clear hd14 hm14 hg14)
                    | (go_at_call 17; refine (HCB.out).mono ?_; rintro e w12 ⟨rfl, Sb', hd12, hm12, hg12⟩; have Z12 := Lib.hid (Z11.out.step hd12 hm12 hg12).turn; have HCL := Lib.hid (clone_bool (w := w12) (SK.out.below Z12.out.th.a.2.2) Z12.out.th.a.2.2.size (fun u hu => by simp only [bls, List.mem_map] at hu; obtain ⟨x, _, rfl⟩ := hu; rfl) (by omega)); clear hd12 hm12 hg12)
                    | (go_at_call 17; refine (HCA.out).mono ?_; rintro e w10 ⟨rfl, Sa', hd10, hm10, hg10⟩; have Z11 := Lib.hid (Z9.out.turn.step hd10 hm10 hg10).turn; have HCB := Lib.hid (crash_dk Z11.out.th.a.1 (B := 0) (A := none) (n := 0) (c := 0) (l := []) SlV.nil_ (Nat.zero_le _) (fun x hx => by cases hx) (by have := HNN.out; omega)); clear hd10 hm10 hg10)
                    | (go_at_call 18; refine (HCL.out).mono ?_; rintro e w13 ⟨v, rfl, ho13, hb13⟩; obtain ⟨A', c', rfl⟩ := own_form ho13; have Z13 := Lib.hid (Z12.out.below hb13); have HCD := Lib.hid (crash_dk Z13.out.th.a.1 (own_slv ho13) (Nat.le_refl _) (fun x hx hS => by subst hx; have h1 := (ho13.lt x.block rfl).1; have h2 := Z12.out.th.a.1.lt _ hS; omega) (by have := HNN.out; omega)); clear ho13 hb13)
                    | fail)
                  go_meet
                  exact ⟨rfl, _, _, _, _, Lib.hid Z14.out.turn⟩
                · have h1' : (200 : Int) < (n1 : Int) := by omega
                  go_wp2_with (first
                    | (go_at_call 17; refine (HCD.out).mono ?_; rintro e w14 ⟨rfl, Sd, hd14, hm14, hg14⟩; have Z14 := Lib.hid (Z13.out.step hd14 hm14 hg14); clear hd14 hm14 hg14)
                    | (go_at_call 17; refine (HCB.out).mono ?_; rintro e w12 ⟨rfl, Sb', hd12, hm12, hg12⟩; have Z12 := Lib.hid (Z11.out.step hd12 hm12 hg12).turn; have HCL := Lib.hid (clone_bool (w := w12) (SK.out.below Z12.out.th.a.2.2) Z12.out.th.a.2.2.size (fun u hu => by simp only [bls, List.mem_map] at hu; obtain ⟨x, _, rfl⟩ := hu; rfl) (by omega)); clear hd12 hm12 hg12)
                    | (go_at_call 17; refine (HCA.out).mono ?_; rintro e w10 ⟨rfl, Sa', hd10, hm10, hg10⟩; have Z11 := Lib.hid (Z9.out.turn.step hd10 hm10 hg10).turn; have HCB := Lib.hid (crash_dk Z11.out.th.a.1 (B := 0) (A := none) (n := 0) (c := 0) (l := []) SlV.nil_ (Nat.zero_le _) (fun x hx => by cases hx) (by have := HNN.out; omega)); clear hd10 hm10 hg10)
                    | (go_at_call 18; refine (HCL.out).mono ?_; rintro e w13 ⟨v, rfl, ho13, hb13⟩; obtain ⟨A', c', rfl⟩ := own_form ho13; have Z13 := Lib.hid (Z12.out.below hb13); have HCD := Lib.hid (crash_dk Z13.out.th.a.1 (own_slv ho13) (Nat.le_refl _) (fun x hx hS => by subst hx; have h1 := (ho13.lt x.block rfl).1; have h2 := Z12.out.th.a.1.lt _ hS; omega) (by have := HNN.out; omega)); clear ho13 hb13)
                    | fail)
                  go_meet
                  exact ⟨rfl, _, _, _, _, Lib.hid Z14.out.turn⟩
              case rest =>
                obtain ⟨rfl, Sd, Sa', Sb', lv, hZ⟩ := hcut
                trace "CRASHED"
                have HCK := Lib.hid (crash_full HNN.out.2.2.2.1 HNN.out.2.2.1 lt_ HYS.out)
                have hHA := holds_dk hZ.out.th.a.1 (crash_plain _ _) (by rw [crash_len]; have := HNN.out; omega) (by have := HNN.out; show N.ops ≤ _; omega)
                rw [HCK.out, HFN.out] at hHA
                have HHA := Lib.hid hHA
                have ZA := Lib.hid hZ.out
                obtain ⟨fb, hfb⟩ : ∃ fb, (N.crash (lvB [])).hld = fb := ⟨_, rfl⟩
                obtain ⟨fd, hfd⟩ : ∃ fd, (N.crash lv).hld = fd := ⟨_, rfl⟩
                have HFB := Lib.hid (show ∀ i, (fb i).length = 64 from by rw [← hfb]; exact hld_len hZ.out.th.b.1.ok)
                have HFD := Lib.hid (show ∀ i, (fd i).length = 64 from by rw [← hfd]; exact hld_len hZ.out.th.c.1.ok)
                have HEB := Lib.hid (show ∀ i, i < 6 → fb i = N.safe.getD i [] from fun i hi => by rw [← hfb, crash_hld HNN.out.2.2.1 _ hi, crash_none N (lvB []) (fun j _ => by simp [lvB])])
                have HED := Lib.hid (show ∀ i, i < 6 → fd i ∈ LQ N i from fun i hi => by rw [← hfd, crash_hld HNN.out.2.2.1 _ hi]; exact crash_in HNN.out.2.2.2.1 lv i)
                have HHB := Lib.hid (fun (w' : World) (S' : Nat → Prop) (h : Dk w' gb S' (N.crash (lvB []))) => by
                  have := holds_dk h (crash_plain _ _) (by rw [crash_len]; have := HNN.out; omega) (by have := HNN.out; show N.ops ≤ _; omega)
                  rw [hfb] at this
                  exact this)
                have HHC := Lib.hid (fun (w' : World) (S' : Nat → Prop) (h : Dk w' g S' (N.crash lv)) => by
                  have := holds_dk h (crash_plain _ _) (by rw [crash_len]; have := HNN.out; omega) (by have := HNN.out; show N.ops ≤ _; omega)
                  rw [hfd] at this
                  exact this)
                clear hHA hZ hfb hfd
                go_wp2_with fail
                refine (HHA.out).mono ?_
                rintro e w20 ⟨rfl, Sxw20, hdw20, hmw20, hgw20⟩
                have Zw20 := Lib.hid (ZA.out.step hdw20 hmw20 hgw20)
                have Z21 := Lib.hid (Zw20.out.box HF.out)
                have THw20 := Lib.hid (there_six w20)
                clear hdw20 hmw20 hgw20
                go_upto_region 38 with (first
                  | (with_reducible refine al_six rfl rfl ?_)
                  | (with_reducible refine st_six rfl _ _ rfl w20.heap.size fh HF rfl rfl THw20.out ?_)
                  | fail)
                clear THw20 Zw20
                generalize (w20.alloc (.cells Z6 50)).setCells w20.heap.size 0 (bvs (sixB fh)) = w20b at Z21 ⊢
                generalize w20.heap.size = b21 at Z21 ⊢
                have ZB := Lib.hid Z21.out.turn
                have HHB2 := Lib.hid (HHB.out _ _ ZB.out.th.a.1)
                clear Z21 ZA HHA HHB
                go_wp2_with fail
                refine (HHB2.out).mono ?_
                rintro e w22 ⟨rfl, Sxw22, hdw22, hmw22, hgw22⟩
                have Zw22 := Lib.hid (ZB.out.step hdw22 hmw22 hgw22)
                have Z23 := Lib.hid (Zw22.out.box HFB.out)
                have THw22 := Lib.hid (there_six w22)
                clear hdw22 hmw22 hgw22
                go_upto_region 39 with (first
                  | (with_reducible refine al_six rfl rfl ?_)
                  | (with_reducible refine st_six rfl _ _ rfl w22.heap.size fb HFB rfl rfl THw22.out ?_)
                  | fail)
                clear THw22 Zw22
                generalize (w22.alloc (.cells Z6 50)).setCells w22.heap.size 0 (bvs (sixB fb)) = w22b at Z23 ⊢
                generalize w22.heap.size = b23 at Z23 ⊢
                have ZC := Lib.hid Z23.out.turn
                have HHC2 := Lib.hid (HHC.out _ _ ZC.out.th.a.1)
                clear Z23 ZB HHB2 HHC
                go_wp2_with fail
                refine (HHC2.out).mono ?_
                rintro e w24 ⟨rfl, Sxw24, hdw24, hmw24, hgw24⟩
                have Zw24 := Lib.hid (ZC.out.step hdw24 hmw24 hgw24)
                have Z25 := Lib.hid (Zw24.out.box HFD.out)
                have THw24 := Lib.hid (there_six w24)
                clear hdw24 hmw24 hgw24
                go_upto_region 40 with (first
                  | (with_reducible refine al_six rfl rfl ?_)
                  | (with_reducible refine st_six rfl _ _ rfl w24.heap.size fd HFD rfl rfl THw24.out ?_)
                  | fail)
                clear THw24 Zw24
                generalize (w24.alloc (.cells Z6 50)).setCells w24.heap.size 0 (bvs (sixB fd)) = w24b at Z25 ⊢
                generalize w24.heap.size = b25 at Z25 ⊢
                have hE6 := fun w => run_neq_six (sixB fh) (sixB fh) (sixB_len fh HF.out) (sixB_len fh HF.out) w
                rw [show (!(sixB fh == sixB fh)) = false by simp] at hE6
                have HP1 := Lib.hid (pend_dk Z25.out.th.a.1 (Nat.zero_le _))
                have R15 := Lib.hid (Z25.out.bx (b15, fh) (by simp)).rg
                have R21 := Lib.hid (Z25.out.bx (b21, fh) (by simp)).rg
                clear ZC HHC2
                go_upto_region 42 with (first
                  | ((with_reducible refine ld_six ?_ (.tmp 21) rfl b21 fh HF ?_ ?_ ?_); (first | rfl | go_simp); (first | rfl | go_simp); exact R21.out)
                  | ((with_reducible refine ld_six ?_ (.tmp 15) rfl b15 fh HF ?_ ?_ ?_); (first | rfl | go_simp); (first | rfl | go_simp); exact R15.out)
                  | (go_at_call 16; refine (HP2.out).mono ?_; rintro e w27 ⟨A8, n8, c8, rfl, ho8, hn8, hb8⟩; (have hn8' : n8 = 0 := hn8); subst hn8'; have Z27 := Lib.hid (Z26.out.below hb8); clear ho8 hn8 hb8)
                  | (go_at_call 16; refine (HP1.out).mono ?_; rintro e w26 ⟨A7, n7, c7, rfl, ho7, hn7, hb7⟩; (have hn7' : n7 = 0 := hn7); subst hn7'; have Z26 := Lib.hid (Z25.out.below hb7); have HP2 := Lib.hid (pend_dk Z26.out.th.b.1 (Nat.zero_le _)); clear ho7 hn7 hb7)
                  | fail)
                trace "R42"
                have c0_ := Z27.out.si.blk.cell (j := 0) rfl
                have c1_ := Z27.out.si.blk.cell (j := 1) rfl
                have c2_ := Z27.out.si.blk.cell (j := 2) rfl
                have c3_ := Z27.out.si.blk.cell (j := 3) rfl
                have c4_ := Z27.out.si.blk.cell (j := 4) rfl
                have c5_ := Z27.out.si.blk.cell (j := 5) rfl
                have HV := Lib.hid (show ∀ i, i < 6 → ∃ a n c, V i = .slice a n c from fun i hi => by obtain ⟨o, c, h, _⟩ := (Z27.out.si.sv i hi).ex; exact ⟨_, _, _, h⟩)
                go_wp2_with fail
                clear c0_ c1_ c2_ c3_ c4_ c5_
                obtain ⟨wp, hwp⟩ : ∃ wp : World, wp = wr := ⟨_, rfl⟩
                have HWP := Lib.hid hwp
                clear hwp
                go_loopw [184] (fun s wz => ∃ (i : Nat), i ≤ 6 ∧ s = .int .i64 (i : Int) ∧ Hid (Below w27.heap.size w27 wz)) (fun s _ => 6 - (intOf s).toNat)
                case atStart => exact ⟨0, Nat.zero_le _, rfl, Lib.hid (Below.refl _ _)⟩
                case round =>
                  obtain ⟨i, hi6, rfl, hBw⟩ := hrel
                  by_cases hil : i < 6
                  · have hdi : decide ((i : Int) < 6) = true := by simp; omega
                    have hi0 : (0 : Int) ≤ (i : Int) := Int.natCast_nonneg _
                    have hi1 : (i : Int) < 6 := by omega
                    obtain ⟨o, c, hv, hle, hcm, hrg, _⟩ := (Z27.out.si.sv i hil).ex
                    have hix := fun w => index_six V HV.out hil w
                    rw [hv] at hix
                    obtain ⟨n', hn'⟩ : ∃ n', (LQ N i).length = n' := ⟨_, rfl⟩
                    have hn1' : 0 < n' := by rw [← hn']; simp [LQ]
                    obtain ⟨xb, hxb⟩ : ∃ xb, N.safe.getD i [] = xb := ⟨_, rfl⟩
                    obtain ⟨xd, hxd⟩ : ∃ xd, fd i = xd := ⟨_, rfl⟩
                    have HXB := Lib.hid (show xb.length = 64 by rw [← hxb]; exact safe_fit HNN.out.2.2.2.1 (by rw [HNN.out.2.2.1]; exact hil))
                    have HXD := Lib.hid (show xd.length = 64 by rw [← hxd]; exact HFD.out i)
                    have HS := Lib.hid (fun (w' : World) (hb : Below w27.heap.size w27 w') => show w'.rangeAt b23 (i * 64) (bvs xb) ∧ w'.rangeAt (b i) o (bvs xb) ∧ w'.rangeAt b25 (i * 64) (bvs xd) from by
                      have z := Z27.out.below hb
                      refine ⟨?_, ?_, ?_⟩
                      · have := six_part HFB.out (z.bx (b23, fb) (by simp)).rg hil
                        rwa [HEB.out i hil, hxb] at this
                      · have := fl_at (LQ N i) o (rangeAt_keep hrg (hb.block (b i) (Z27.out.si.sv i hil).lt)) (Z27.out.si.sv i hil).fit 0 xb (by rw [← hxb]; rfl)
                        rwa [Nat.zero_mul, Nat.add_zero] at this
                      · have := six_part HFD.out (z.bx (b25, fd) (by simp)).rg hil
                        rwa [hxd] at this)
                    have HCT := Lib.hid (fun (w' : World) (hb : Below w27.heap.size w27 w') => by
                      have := contains_any ((Z27.out.si.sv i hil).below hb) (by have h1 := LQ_len N i; have h2 := HNN.out; omega) HXD.out
                      rw [hv, List.contains_iff_mem.2 (hxd ▸ HED.out i hil)] at this
                      exact this)
                    rw [hn'] at hix HCT
                    have hE := fun w => neq_same HXB.out w
                    have HBW2 := Lib.hid hBw.out
                    have B30 := Lib.hid (hBw.out.drew)
                    clear hv hle hcm hrg hn' hxb hxd hBw
                    go_upto_region 45 with fail
                    trace "R45"
                    refine wp_region_noPanic ?_
                    refine wp_region_held_drew (S := fun w' => w'.rangeAt b23 (i * 64) (bvs xb) ∧ w'.rangeAt (b i) o (bvs xb) ∧ w'.rangeAt b25 (i * 64) (bvs xd)) (by kernel_rfl) (HS.out _ B30.out) (fun _ => ?_)
                    refine wpAnyH_take (i := 0) rfl (by kernel_rfl) (by kernel_rfl) (by kernel_rfl) (fun _ _ _ h => h) (.inl ⟨rfl, fun w' hw' => (by clear hw'; go_simp; rfl)⟩) (HS.out _ B30.out) ?_
                    simp only [List.getElem_toArray, List.getElem_cons_zero, List.getElem_cons_succ, Act.put, List.setIfInBounds_toArray, List.set_cons_succ, List.set_cons_zero]
                    refine wpAnyH_take (i := 1) rfl (by kernel_rfl) (by kernel_rfl) (by kernel_rfl) (fun _ _ _ h => h) (.inl ⟨rfl, fun w' hw' => (by clear hw'; go_simp; rfl)⟩) (HS.out _ B30.out) ?_
                    simp only [List.getElem_toArray, List.getElem_cons_zero, List.getElem_cons_succ, Act.put, List.setIfInBounds_toArray, List.set_cons_succ, List.set_cons_zero]
                    refine wpAnyH_take (i := 2) rfl (by kernel_rfl) (by kernel_rfl) (by kernel_rfl) (fun _ _ _ h => h) (yieldsIf_load_mid rfl 37 _ rfl (b23) (i * 64) rfl (bvs xb) _ (fun w' hw' => hw'.1) Try.underlying37 rfl (size_of HXB.out)) (HS.out _ B30.out) ?_
                    simp only [List.getElem_toArray, List.getElem_cons_zero, List.getElem_cons_succ, Act.put, List.setIfInBounds_toArray, List.set_cons_succ, List.set_cons_zero]
                    refine wpAnyH_take (i := 3) rfl (by kernel_rfl) (by kernel_rfl) (by kernel_rfl) (fun _ _ _ h => h) (.inl ⟨rfl, fun w' hw' => (by clear hw'; go_simp; rfl)⟩) (HS.out _ B30.out) ?_
                    simp only [List.getElem_toArray, List.getElem_cons_zero, List.getElem_cons_succ, Act.put, List.setIfInBounds_toArray, List.set_cons_succ, List.set_cons_zero]
                    refine wpAnyH_take (i := 4) rfl (by kernel_rfl) (by kernel_rfl) (by kernel_rfl) (fun _ _ _ h => h) (.inl ⟨rfl, fun w' hw' => (by clear hw'; go_simp; rfl)⟩) (HS.out _ B30.out) ?_
                    simp only [List.getElem_toArray, List.getElem_cons_zero, List.getElem_cons_succ, Act.put, List.setIfInBounds_toArray, List.set_cons_succ, List.set_cons_zero]
                    refine wpAnyH_take (i := 5) rfl (by kernel_rfl) (by kernel_rfl) (by kernel_rfl) (fun _ _ _ h => h) (yieldsIf_load_mid rfl 37 _ rfl (b i) (o) rfl (bvs xb) _ (fun w' hw' => hw'.2.1) Try.underlying37 rfl (size_of HXB.out)) (HS.out _ B30.out) ?_
                    simp only [List.getElem_toArray, List.getElem_cons_zero, List.getElem_cons_succ, Act.put, List.setIfInBounds_toArray, List.set_cons_succ, List.set_cons_zero]
                    refine wpAnyH_take (i := 6) rfl (by kernel_rfl) (by kernel_rfl) (by kernel_rfl) (fun _ _ _ h => h) (.inl ⟨rfl, fun w' hw' => (by clear hw'; go_simp; rfl)⟩) (HS.out _ B30.out) ?_
                    simp only [List.getElem_toArray, List.getElem_cons_zero, List.getElem_cons_succ, Act.put, List.setIfInBounds_toArray, List.set_cons_succ, List.set_cons_zero]
                    refine wpAnyH_take (i := 7) rfl (by kernel_rfl) (by kernel_rfl) (by kernel_rfl) (fun _ _ _ h => h) (.inl ⟨rfl, fun w' hw' => (by clear hw'; go_simp; rfl)⟩) (HS.out _ B30.out) ?_
                    simp only [List.getElem_toArray, List.getElem_cons_zero, List.getElem_cons_succ, Act.put, List.setIfInBounds_toArray, List.set_cons_succ, List.set_cons_zero]
                    refine wpAnyH_take (i := 8) rfl (by kernel_rfl) (by kernel_rfl) (by kernel_rfl) (fun _ _ _ h => h) (.inl ⟨rfl, fun w' hw' => (by clear hw'; go_simp; rfl)⟩) (HS.out _ B30.out) ?_
                    simp only [List.getElem_toArray, List.getElem_cons_zero, List.getElem_cons_succ, Act.put, List.setIfInBounds_toArray, List.set_cons_succ, List.set_cons_zero]
                    refine wpAnyH_take (i := 9) rfl (by kernel_rfl) (by kernel_rfl) (by kernel_rfl) (fun _ _ _ h => h) (.inl ⟨rfl, fun w' hw' => (by clear hw'; go_simp; rfl)⟩) (HS.out _ B30.out) ?_
                    simp only [List.getElem_toArray, List.getElem_cons_zero, List.getElem_cons_succ, Act.put, List.setIfInBounds_toArray, List.set_cons_succ, List.set_cons_zero]
                    refine wpAnyH_take (i := 10) rfl (by kernel_rfl) (by kernel_rfl) (by kernel_rfl) (fun _ _ _ h => h) (.inl ⟨rfl, fun w' hw' => (by clear hw'; go_simp; rfl)⟩) (HS.out _ B30.out) ?_
                    simp only [List.getElem_toArray, List.getElem_cons_zero, List.getElem_cons_succ, Act.put, List.setIfInBounds_toArray, List.set_cons_succ, List.set_cons_zero]
                    refine wpAnyH_take (i := 11) rfl (by kernel_rfl) (by kernel_rfl) (by kernel_rfl) (fun _ _ _ h => h) (yieldsIf_load_mid rfl 37 _ rfl (b25) (i * 64) rfl (bvs xd) _ (fun w' hw' => hw'.2.2) Try.underlying37 rfl (size_of HXD.out)) (HS.out _ B30.out) ?_
                    simp only [List.getElem_toArray, List.getElem_cons_zero, List.getElem_cons_succ, Act.put, List.setIfInBounds_toArray, List.set_cons_succ, List.set_cons_zero]
                    refine wpAnyH_ready (rs := [12]) (by kernel_rfl) (by simp) (AllReadyH.cons rfl (fun K hK => ?_) AllReadyH.nil)
                    rw [if_pos (by rfl)]
                    refine wp_fn (f := 19) (xs := #[.slice (some ⟨b i, o, none⟩) n' c, .agg (bvs xd).toArray]) (by first | (go_simp; done) | (go_simp; rfl)) ((HCT.out _ B30.out).mono ?_)
                    rintro e w31 ⟨rfl, hb31⟩
                    have B31 := Lib.hid (B30.out.trans (hb31.mono B30.out.size))
                    clear hb31
                    refine ⟨_, rfl, hK.out _ _ (HS.out _ B31.out) (fun _ => ?_)⟩
                    simp only [List.getElem_toArray, List.getElem_cons_zero, List.getElem_cons_succ, Act.put, List.setIfInBounds_toArray, List.set_cons_succ, List.set_cons_zero]
                    refine wpAnyH_take (i := 13) rfl (by kernel_rfl) (by kernel_rfl) (by kernel_rfl) (fun _ _ _ h => h) (.inl ⟨rfl, fun w' hw' => (by clear hw'; go_simp; rfl)⟩) (HS.out _ B31.out) ?_
                    simp only [List.getElem_toArray, List.getElem_cons_zero, List.getElem_cons_succ, Act.put, List.setIfInBounds_toArray, List.set_cons_succ, List.set_cons_zero]
                    refine wpAnyH_take (i := 14) rfl (by kernel_rfl) (by kernel_rfl) (by kernel_rfl) (fun _ _ _ h => h) (.inl ⟨rfl, fun w' hw' => (by clear hw'; go_simp; rfl)⟩) (HS.out _ B31.out) ?_
                    simp only [List.getElem_toArray, List.getElem_cons_zero, List.getElem_cons_succ, Act.put, List.setIfInBounds_toArray, List.set_cons_succ, List.set_cons_zero]
                    refine wpAnyH_done (by kernel_rfl) ?_ _
                    refine NoPanic.normal ?_
                    go_wp2_with fail
                    go_roundw
                    case rel => exact ⟨i + 1, by omega, by go_num, B31⟩
                    case measure => simp [intOf]; omega
                  · have hdi : decide ((i : Int) < 6) = false := by simp; omega
                    have BF := Lib.hid (Z27.out.th.a.2.2.trans (hBw.out.mono Z27.out.th.a.2.2.size))
                    clear hBw
                    go_wp2_with fail
                    go_ret
                    exact ⟨rfl, BF.out⟩

theorem own : ownKnob Try.prog.godebug = none := by kernel_rfl
theorem laidOut : laidOutB Try.prog = true := by kernel_rfl

set_option maxRecDepth 100000 in
theorem lifted (os : Os) (started : os.Started) (H : Type) (enc : TypeId × Value → H) :
    ReturnsInHanded {} Try.checked os 4 .any (Rows.diskLastsSpec.pre6 enc Try.prog Try.f4 Rows.diskLastsRow.domain false) (Rows.diskLastsSpec.post enc Try.prog Try.f4 false true false false) := by
  refine returnsInHanded_of_change (C := Try.checked) own started (by kernel_rfl) Try.func4
    (ChangeSpec.witness6 (enc := enc) (C := Try.checked) false ⟨#[], #[.slice none 0 0, .slice none 0 0], []⟩ 8 (by kernel_rfl) (by kernel_rfl) (by kernel_rfl) (by kernel_rfl)) ?_
  intro W base args ds gs before hval0 hW hcnd _
  have hval : ∀ (j : Nat) t v, Try.f4.params[j]? = some t → args[j]? = some v → Value.okWide Try.prog W .any base t v := hval0
  have hW' := hW
  obtain ⟨p, q, hA0, hV, rfl, hfz, hnd⟩ := hW
  have hA : DataW.TrodAll enc Try.prog W 0 (fun _ => true) true Try.f4.params.toList args.toList ds p := hA0
  rw [Try.params4] at hA hval
  obtain ⟨v0, vs0, d0, ds0, p0, q0, hargs, rfl, rfl, h0, r0⟩ := trodAll_cons hA
  obtain ⟨v1, vs1, d1, ds1, p1, q1, rfl, rfl, rfl, h1, r1⟩ := trodAll_cons r0
  obtain ⟨rfl, rfl, rfl⟩ := trodAll_nil r1
  obtain rfl : args = #[v0, v1] := by cases args; simp_all
  obtain ⟨rfl, rfl⟩ := trodVars_none hV
  have k0 := h0
  have lt0 : ∀ x ∈ p0, x.block < W.heap.size := by obtain ⟨m, hm⟩ := k0; exact DataW.trod_lt m _ _ _ hm
  obtain ⟨A0, n0, c0, l0, rfl, s0⟩ := acts_arg (hval 0 22 v0 rfl rfl) h0
  have k1 := h1
  have lt1 : ∀ x ∈ p1, x.block < W.heap.size := by obtain ⟨m, hm⟩ := k1; exact DataW.trod_lt m _ _ _ hm
  obtain ⟨A1, n1, c1, rfl⟩ := okWide_slice Try.underlying33 (hval 1 33 v1 rfl rfl)
  obtain ⟨l1, s1⟩ : ∃ l, SlV W W.heap.size A1 n1 c1 (bls l) := by
    obtain ⟨fuel, hf⟩ := h1
    obtain ⟨A_, n_, c_, l_, e_, s_⟩ := bools_arg (v := .slice A1 n1 c1) (by simpa [Value.cells] using hf)
    injection e_ with e1_ e2_ e3_
    subst e1_ e2_ e3_
    exact ⟨l_, s_⟩
  clear hA0 hval0
  refine (walk A0 n0 c0 l0 A1 n1 c1 l1 W s0 s1).mono fun e W' ⟨he, bel⟩ => ?_
  subst he
  exact ⟨_, rfl, _, _, _, [], _, [], hW', trodAll_mk1 (shut_bool Try.underlying4 _), (trodAll_cons_mk (Below.trod laidOut (by kernel_rfl) (of_decide_eq_true (by kernel_rfl)) k0 bel lt0) (trodAll_cons_mk (Below.trod laidOut (by kernel_rfl) (of_decide_eq_true (by kernel_rfl)) k1 bel lt1) trodAll_mk0)), rfl, bel.frame _, fun h => by cases h⟩

theorem over : Rows.diskLastsRow.holds Try.pinned (OpenSpec.ofChange Rows.diskLastsSpec) :=
  OpenClaim.holds_of_wide 4 Try.f4 rfl rfl rfl rfl rfl rfl rfl ⟨rfl, rfl, rfl, rfl, rfl⟩ rfl rfl rfl rfl rfl (by kernel_rfl) Try.func4 (by kernel_rfl)
    (of_decide_eq_true (by kernel_rfl)) (by unfold Func.isWrapper; first | (rw [if_pos (by decide +kernel)]; kernel_rfl) | (rw [if_neg (by decide +kernel)]; exact ⟨rfl, rfl⟩))
    (fun os started H enc _ => lifted os started H enc)

theorem proved : Rows.DiskLastsSaid := over
#print axioms proved
end Go.Proofs.Ytionbjocfepkaaa.diskLasts
