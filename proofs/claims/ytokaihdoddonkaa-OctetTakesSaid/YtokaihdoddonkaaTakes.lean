/-
  PROVED HERE: whatever x and asks, confluencelaw01.OctetTakes(x, asks) returns true: what a reader takes off, what it tells of it, how many bytes are left, and its error. No condition.
-/
import Derived.Test.YtokaihdoddonkaaNum
import Derived.Test.YtokaihdoddonkaaRows
import Derived.ProofKit
import Derived.OpenShut
import Derived.ChangeOld
import Derived.Carry
namespace Go.Proofs.Ytokaihdoddonkaa.octetTakes
open Go.ChangeShapes Go.WideShapes Go.ChangeAt Go.RowKit
set_option linter.unusedVariables false

set_option maxRecDepth 100000 in
set_option maxHeartbeats 4000000 in
theorem walk {A A' : Option Addr} {n c n' c' : Nat} {l : List UInt8} {ps : List (Int × Int)} {w : World} (h : SlB w w.heap.size A n c l) (h' : SlP w w.heap.size A' n' c' ps) :
    Calls Try.prog 5 #[.slice A n c, .slice A' n' c'] w fun e w' => e = .returned (.bool true) ∧ Below w.heap.size w w' := by
  go_enter Try.func5, Try.ntmps5
  go_wp2_with fail
  refine (wakes_any w).mono ?_
  rintro q w1 ⟨rfl, hb1⟩
  have hz1 := hb1.size
  go_wp2_with fail
  refine (own_any (h.below hb1) hz1).mono ?_
  rintro q w2 ⟨A2, c2, rfl, ho2, hb2⟩
  have hz2 := hb2.size
  have hs2 := ho2.sl (Nat.le_refl _)
  have hm : min n 600 ≤ 600 := Nat.min_le_right _ _
  have hbw : Below w.heap.size w w2 := hb1.trans (hb2.mono hz1)
  have hww := hbw.size
  go_wp2_with fail
  refine (own_any (h.below hbw) hww).mono ?_
  rintro q w3 ⟨A3, c3, rfl, ho3, hb3⟩
  have hz3 := hb3.size
  generalize l.take 600 = r at *
  generalize min n 600 = m at *
  have hrl := Lib.hid hs2.len
  have hs2' := hs2.below hb3
  have hs3 := ho3.sl (Nat.le_refl _)
  clear ho2 hb2 hb1 hz1
  go_wp2_with fail
  refine (read_keep hs3 (Nat.le_refl _) (by omega)).mono ?_
  rintro q w4 ⟨g, hg, rfl, hgl, hR, hb4⟩
  have hz4 := hb4.size
  have ho4 := ho3.below hb4 (Nat.le_refl _)
  have hs2'' := hs2'.below (hb4.mono hz3)
  have hbw4 : Below w.heap.size w w4 := hbw.trans ((hb3.mono hww).trans (hb4.mono (Nat.le_trans hww hz3)))
  have HO4 := Lib.hid ho4
  have HR := Lib.hid hR
  have HS2 := Lib.hid hs2''
  have hgw : w2.heap.size ≤ g := by omega
  have hA3 : Hid (∀ gg, A3 = some ⟨gg, 0, none⟩ → gg < w3.heap.size) := fun gg e => (World.ownsRow.lt ho3 gg (by rw [e]; rfl)).2
  clear ho3 hb4 hb3 hs2 hs2' hs2'' hs3 hR ho4
  go_wp2_with fail
  go_loopw [31] (fun i wr => ∃ (p : Nat) (l3 : List UInt8), p ≤ m ∧ i = .int .i64 p ∧ Hid (Ow wr w2.heap.size A3 m c3 l3) ∧ Hid (∀ k, w3.heap.size ≤ k → wr.heap[k]? = w4.heap[k]?) ∧ Below w2.heap.size w4 wr) (fun i _ => m - (intOf i).toNat)
  case atStart => exact ⟨0, r, Nat.zero_le _, rfl, HO4, fun _ _ => rfl, Below.refl _ _⟩
  case round =>
    obtain ⟨p, l3, hp, rfl, hO, hK, hbr⟩ := hrel
    by_cases hlt : p < m
    · have hl3 := hO.out.len
      obtain ⟨gg, hgg, hA⟩ : ∃ gg, w2.heap.size ≤ gg ∧ A3 = some ⟨gg, 0, none⟩ := by
        rcases hO.out.2 with ⟨_, h0⟩ | ⟨gg, cap, cur, hv, hgg, _⟩
        · omega
        · injection hv with e1 e2 e3
          exact ⟨gg, hgg, e1⟩
      have hgg3 : gg < w3.heap.size := hA3.out gg hA
      have HL3 := Lib.hid hl3
      clear hl3
      subst hA
      have hp3 : p < l3.length := by rw [HL3.out]; exact hlt
      have hcell := World.ownsRow.cellAt hO.out p (by omega)
      rw [show (bvs l3)[p]? = some (.int .u8 (l3[p].toNat : Int)) by simp [bvs, bv, List.getElem?_eq_getElem hp3]] at hcell
      have hfr := World.ownsRow.frozenAt hO.out p
      obtain ⟨hst, hgr⟩ := World.ownsRow.stored hO.out p (bv (l3[p] ^^^ 85))
      rw [show (bvs l3).set p (bv (l3[p] ^^^ 85)) = bvs (l3.set p (l3[p] ^^^ 85)) by simp [bvs, List.map_set]] at hst
      have HST := Lib.hid hst
      have HX : Hid (Value.int .u8 (bits .xor .u8 (l3[p].toNat : Int) 85) = bv (l3[p] ^^^ 85)) := by
        have : Value.int .u8 (bits .xor .u8 (l3[p].toNat : Int) 85) = bv (l3[p] ^^^ 85) := by rw [xor_byte]; rfl
        exact this
      clear hst
      go_wp2_with fail
      rw [HX.out]
      exact ⟨⟨p + 1, _, by omega, rfl, HST, fun k hk => (Below.heap_setCell wr ⟨gg, p, none⟩ _ k (by show k ≠ gg; omega)).trans (hK.out k hk), hbr.setCell (p := ⟨gg, p, none⟩) hgg _⟩, by simp [intOf]; omega⟩
    · obtain rfl : p = m := by omega
      have hR5 := HR.out wr (fun k h1 _ => hK.out k h1)
      have hS5 := HS2.out.below hbr
      have hbw5 : Below w.heap.size w wr := hbw4.trans (hbr.mono hww)
      have HR5 := Lib.hid hR5
      have HS5 := Lib.hid hS5
      have hgl5 := hR5.lt
      have hpl := Lib.hid h'.len
      have hcap' := h'.cap
      have hmax' := h'.max
      unfold maxLen at hmax'
      have hsz5 := hbr.size
      clear hR5 hS5 hO hK HR HS2 HO4 hA3 hrl
      go_wp2_with fail
      obtain ⟨wo, rfl⟩ : ∃ wo : World, wo = wr := ⟨_, rfl⟩
      go_loopw [5, 9, 43] (fun al er i wv => ∃ (p2 : Nat) (A5 : Option Addr) (n5 c5 : Nat) (lst : List UInt8) (e : Int), p2 ≤ n' ∧ i = .int .i64 p2 ∧ al = .slice A5 n5 c5 ∧ er = .int .i64 e ∧ okE e ∧ n5 ≤ 600 ∧ Hid (SlB wv w2.heap.size A5 n5 c5 lst) ∧ Hid (Rd wv g lst (em e)) ∧ wo.grownBy wv (some g)) (fun _ _ i _ => n' - (intOf i).toNat)
      case atStart => exact ⟨0, A2, p, c2, r, 0, Nat.zero_le _, rfl, rfl, rfl, .inl rfl, hm, HS5, HR5, only_refl _ _⟩
      case round =>
        obtain ⟨p2, A5, n5, c5, lst, e, hp2, rfl, rfl, rfl, hoke, hn5, hS6, hR6, hG6⟩ := hrel
        have hbG : Below w2.heap.size wo wr := below_of_only hG6 hgw (by omega)
        by_cases hlt2 : p2 < n'
        · have hpq : p2 < ps.length := by rw [hpl.out]; exact hlt2
          obtain ⟨bb, o, rfl, hbb, hc⟩ := h'.pos (by omega)
          obtain ⟨hq0, hq1⟩ := h'.rng ps[p2] (List.getElem_mem hpq)
          have hbA : Below w.heap.size w wr := hbw5.trans (hbG.mono hww)
          obtain ⟨hc0, hc1⟩ := hc p2 hpq
          rw [← hbA.cell (p := ⟨bb, o + p2 * 2, none⟩) hbb] at hc0
          rw [← hbA.cell (p := ⟨bb, o + p2 * 2 + 1, none⟩) hbb] at hc1
          clear hc
          generalize ps[p2].1 = kd0 at *
          generalize ps[p2].2 = nn0 at *
          by_cases h60 : p2 = 60
          · have hb60 : ((p2 : Int) == 60) = true := by rw [h60]; rfl
            clear h60
            go_wp2_with fail
            go_ret
            exact ⟨rfl, (hbw5.trans (hbG.mono hww)).alloc hbA.size _⟩
          · have hb60 : ((p2 : Int) == 60) = false := by simp; omega
            clear h60
            have hkr := kind_range kd0
            go_upto_region 16 with fail
            generalize wrap64 ((IntKind.u64.wrap kd0).tmod 5) = kd at *
            have hkc : kd = 0 ∨ kd = 1 ∨ kd = 2 ∨ kd = 3 ∨ kd = 4 := by omega
            clear hkr hc0 hc1 hq0
            have hw2r : w2.heap.size ≤ wr.heap.size := by have := hbG.size; omega
            have hbox : Below w2.heap.size wr (wr.alloc (.cells #[.int .i64 kd0, .int .i64 nn0] 42)) := (Below.refl _ _).alloc hw2r _
            have hSA := hS6.out.below hbox
            have hRA := hR6.out.below ((Below.refl wr.heap.size wr).alloc (Nat.le_refl _) (.cells #[.int .i64 kd0, .int .i64 nn0] 42)) hR6.out.lt
            have hGA := only_trans hG6 (World.grownBy_alloc wr (.cells #[.int .i64 kd0, .int .i64 nn0] 42) (some g))
            have hll := Lib.hid hS6.out.len
            have hc5 := hS6.out.cap
            have hc5m := hS6.out.max
            unfold maxLen at hc5m
            clear hS6 hR6 hG6
            rcases hkc with rfl | rfl | rfl | rfl | rfl
            · go_wp2_with fail
              have hF := off_lst lst e 1 hoke
              rw [hll.out] at hF
              have htk := took_le n5 e 1
              have htk' := took_le' n5 e 1
              have he2 : okE (nextE n5 e 1) := nextE_ok hoke
              refine (off_is n5 e 1 _ rfl _).mono ?_
              rintro q wx ⟨rfl, rfl⟩
              generalize tookN n5 e 1 = tk at *
              generalize nextE n5 e 1 = e2 at *
              obtain ⟨hF1, hF2, hF3⟩ := hF
              have HF1 := Lib.hid hF1
              have HF2 := Lib.hid hF2
              have HF3 := Lib.hid hF3
              clear hF1 hF2 hF3
              go_upto_region 21 with fail
              go_cut [5, 9] (fun s5 s9 wx => ∃ A6 c6, s5 = .slice A6 (n5 - tk) c6 ∧ s9 = .int .i64 e2 ∧ Hid (SlB wx w2.heap.size A6 (n5 - tk) c6 (lst.drop tk)) ∧ wx = wr.alloc (.cells #[.int .i64 kd0, .int .i64 nn0] 42))
              case first =>
                by_cases hct : c5 = tk
                · obtain rfl : n5 = tk := by omega
                  obtain rfl : n5 = c5 := by omega
                  have hz : lst.drop n5 = [] := List.drop_eq_nil_of_le (by rw [hll.out]; exact Nat.le_refl _)
                  have HZ := Lib.hid hz
                  clear hz hct
                  go_wp2_with fail
                  all_goals
                    go_meet
                    refine ⟨A5, 0, by rw [Nat.sub_self], rfl, ?_, rfl⟩
                    rw [HZ.out]
                    simpa [Hid] using SlB.zero_
                · have hS2 := hSA.cut2 htk hct
                  go_wp2_with fail
                  all_goals
                    go_meet
                    exact ⟨_, _, rfl, rfl, hS2, rfl⟩
              case rest =>
                obtain ⟨A6, c6, rfl, rfl, hS7, rfl⟩ := hcut
                have hW := hSA.take htk
                have hlt5 : Hid ((lst.take tk).length = tk) := by
                  have : (lst.take tk).length = tk := by rw [List.length_take, hll.out]; omega
                  exact this
                have hld5 : Hid ((lst.drop tk).length = n5 - tk) := by
                  have : (lst.drop tk).length = n5 - tk := by rw [List.length_drop, hll.out]
                  exact this
                go_wp2_with fail
                have hnl := num_lt (lst.take tk)
                rw [hlt5.out] at hnl
                have hpw : 256 ^ tk ≤ 256 ^ 1 := Nat.pow_le_pow_right (by decide) htk'
                have hpb : 256 ^ 1 ≤ 18446744073709551616 := by decide
                have hw64 : w64 (num (lst.take tk)) = num (lst.take tk) := w64_small _ (by omega)
                have c0 := number_any hW
                rw [hw64] at c0
                refine c0.mono ?_
                rintro q wx ⟨rfl, rfl⟩
                clear c0 hpb
                have c1 := take_u8 hRA
                rw [HF1.out, HF2.out, HF3.out] at c1
                have C1 := Lib.hid c1
                have hN : num (lst.take tk) < 256 := by omega
                clear c1 hw64 hpw hnl hW hSA hRA
                generalize num (lst.take tk) = N at *
                have HN := Lib.hid hN
                clear HN
                go_wp2_with fail
                refine C1.out.mono ?_
                rintro q wz ⟨rfl, hRz, hGz⟩
                have hSz := hS7.out.below (below_of_only hGz hgw (by simp; omega))
                have hGG := only_trans hGA hGz
                clear C1 hS7 hGz hGA
                go_upto_region 40 with fail
                have hLq := left_quiet hRz
                rw [hld5.out] at hLq
                have HLq := Lib.hid hLq
                have HEq := Lib.hid (err_quiet hRz)
                clear hLq
                have hix := arr_at e2 he2
                go_quiet ((first | (go_at_call 29; exact HLq.out _) | (go_at_call 30; exact HEq.out _)))
                go_wp2_with fail
                go_roundw
                case rel => exact ⟨p2 + 1, A6, n5 - tk, c6, lst.drop tk, e2, by omega, by go_num, rfl, rfl, he2, by omega, hSz.drewN _, hRz.drewN _, only_drewN hGG _⟩
                case measure => simp [intOf]; omega
            · go_wp2_with fail
              have hF := off_lst lst e 2 hoke
              rw [hll.out] at hF
              have htk := took_le n5 e 2
              have htk' := took_le' n5 e 2
              have he2 : okE (nextE n5 e 2) := nextE_ok hoke
              refine (off_is n5 e 2 _ rfl _).mono ?_
              rintro q wx ⟨rfl, rfl⟩
              generalize tookN n5 e 2 = tk at *
              generalize nextE n5 e 2 = e2 at *
              obtain ⟨hF1, hF2, hF3⟩ := hF
              have HF1 := Lib.hid hF1
              have HF2 := Lib.hid hF2
              have HF3 := Lib.hid hF3
              clear hF1 hF2 hF3
              go_upto_region 21 with fail
              go_cut [5, 9] (fun s5 s9 wx => ∃ A6 c6, s5 = .slice A6 (n5 - tk) c6 ∧ s9 = .int .i64 e2 ∧ Hid (SlB wx w2.heap.size A6 (n5 - tk) c6 (lst.drop tk)) ∧ wx = wr.alloc (.cells #[.int .i64 kd0, .int .i64 nn0] 42))
              case first =>
                by_cases hct : c5 = tk
                · obtain rfl : n5 = tk := by omega
                  obtain rfl : n5 = c5 := by omega
                  have hz : lst.drop n5 = [] := List.drop_eq_nil_of_le (by rw [hll.out]; exact Nat.le_refl _)
                  have HZ := Lib.hid hz
                  clear hz hct
                  go_wp2_with fail
                  all_goals
                    go_meet
                    refine ⟨A5, 0, by rw [Nat.sub_self], rfl, ?_, rfl⟩
                    rw [HZ.out]
                    simpa [Hid] using SlB.zero_
                · have hS2 := hSA.cut2 htk hct
                  go_wp2_with fail
                  all_goals
                    go_meet
                    exact ⟨_, _, rfl, rfl, hS2, rfl⟩
              case rest =>
                obtain ⟨A6, c6, rfl, rfl, hS7, rfl⟩ := hcut
                have hW := hSA.take htk
                have hlt5 : Hid ((lst.take tk).length = tk) := by
                  have : (lst.take tk).length = tk := by rw [List.length_take, hll.out]; omega
                  exact this
                have hld5 : Hid ((lst.drop tk).length = n5 - tk) := by
                  have : (lst.drop tk).length = n5 - tk := by rw [List.length_drop, hll.out]
                  exact this
                go_wp2_with fail
                have hnl := num_lt (lst.take tk)
                rw [hlt5.out] at hnl
                have hpw : 256 ^ tk ≤ 256 ^ 2 := Nat.pow_le_pow_right (by decide) htk'
                have hpb : 256 ^ 2 ≤ 18446744073709551616 := by decide
                have hw64 : w64 (num (lst.take tk)) = num (lst.take tk) := w64_small _ (by omega)
                have c0 := number_any hW
                rw [hw64] at c0
                refine c0.mono ?_
                rintro q wx ⟨rfl, rfl⟩
                clear c0 hpb
                have c1 := take_u16 hRA
                rw [HF1.out, HF2.out, HF3.out] at c1
                have C1 := Lib.hid c1
                have hN : num (lst.take tk) < 65536 := by omega
                clear c1 hw64 hpw hnl hW hSA hRA
                generalize num (lst.take tk) = N at *
                have HN := Lib.hid hN
                clear HN
                go_wp2_with fail
                refine C1.out.mono ?_
                rintro q wz ⟨rfl, hRz, hGz⟩
                have hSz := hS7.out.below (below_of_only hGz hgw (by simp; omega))
                have hGG := only_trans hGA hGz
                clear C1 hS7 hGz hGA
                go_upto_region 40 with fail
                have hLq := left_quiet hRz
                rw [hld5.out] at hLq
                have HLq := Lib.hid hLq
                have HEq := Lib.hid (err_quiet hRz)
                clear hLq
                have hix := arr_at e2 he2
                go_quiet ((first | (go_at_call 29; exact HLq.out _) | (go_at_call 30; exact HEq.out _)))
                go_wp2_with fail
                go_roundw
                case rel => exact ⟨p2 + 1, A6, n5 - tk, c6, lst.drop tk, e2, by omega, by go_num, rfl, rfl, he2, by omega, hSz.drewN _, hRz.drewN _, only_drewN hGG _⟩
                case measure => simp [intOf]; omega
            · go_wp2_with fail
              have hF := off_lst lst e 4 hoke
              rw [hll.out] at hF
              have htk := took_le n5 e 4
              have htk' := took_le' n5 e 4
              have he2 : okE (nextE n5 e 4) := nextE_ok hoke
              refine (off_is n5 e 4 _ rfl _).mono ?_
              rintro q wx ⟨rfl, rfl⟩
              generalize tookN n5 e 4 = tk at *
              generalize nextE n5 e 4 = e2 at *
              obtain ⟨hF1, hF2, hF3⟩ := hF
              have HF1 := Lib.hid hF1
              have HF2 := Lib.hid hF2
              have HF3 := Lib.hid hF3
              clear hF1 hF2 hF3
              go_upto_region 21 with fail
              go_cut [5, 9] (fun s5 s9 wx => ∃ A6 c6, s5 = .slice A6 (n5 - tk) c6 ∧ s9 = .int .i64 e2 ∧ Hid (SlB wx w2.heap.size A6 (n5 - tk) c6 (lst.drop tk)) ∧ wx = wr.alloc (.cells #[.int .i64 kd0, .int .i64 nn0] 42))
              case first =>
                by_cases hct : c5 = tk
                · obtain rfl : n5 = tk := by omega
                  obtain rfl : n5 = c5 := by omega
                  have hz : lst.drop n5 = [] := List.drop_eq_nil_of_le (by rw [hll.out]; exact Nat.le_refl _)
                  have HZ := Lib.hid hz
                  clear hz hct
                  go_wp2_with fail
                  all_goals
                    go_meet
                    refine ⟨A5, 0, by rw [Nat.sub_self], rfl, ?_, rfl⟩
                    rw [HZ.out]
                    simpa [Hid] using SlB.zero_
                · have hS2 := hSA.cut2 htk hct
                  go_wp2_with fail
                  all_goals
                    go_meet
                    exact ⟨_, _, rfl, rfl, hS2, rfl⟩
              case rest =>
                obtain ⟨A6, c6, rfl, rfl, hS7, rfl⟩ := hcut
                have hW := hSA.take htk
                have hlt5 : Hid ((lst.take tk).length = tk) := by
                  have : (lst.take tk).length = tk := by rw [List.length_take, hll.out]; omega
                  exact this
                have hld5 : Hid ((lst.drop tk).length = n5 - tk) := by
                  have : (lst.drop tk).length = n5 - tk := by rw [List.length_drop, hll.out]
                  exact this
                go_wp2_with fail
                have hnl := num_lt (lst.take tk)
                rw [hlt5.out] at hnl
                have hpw : 256 ^ tk ≤ 256 ^ 4 := Nat.pow_le_pow_right (by decide) htk'
                have hpb : 256 ^ 4 ≤ 18446744073709551616 := by decide
                have hw64 : w64 (num (lst.take tk)) = num (lst.take tk) := w64_small _ (by omega)
                have c0 := number_any hW
                rw [hw64] at c0
                refine c0.mono ?_
                rintro q wx ⟨rfl, rfl⟩
                clear c0 hpb
                have c1 := take_u32 hRA
                rw [HF1.out, HF2.out, HF3.out] at c1
                have C1 := Lib.hid c1
                have hN : num (lst.take tk) < 4294967296 := by omega
                clear c1 hw64 hpw hnl hW hSA hRA
                generalize num (lst.take tk) = N at *
                have HN := Lib.hid hN
                clear HN
                go_wp2_with fail
                refine C1.out.mono ?_
                rintro q wz ⟨rfl, hRz, hGz⟩
                have hSz := hS7.out.below (below_of_only hGz hgw (by simp; omega))
                have hGG := only_trans hGA hGz
                clear C1 hS7 hGz hGA
                go_upto_region 40 with fail
                have hLq := left_quiet hRz
                rw [hld5.out] at hLq
                have HLq := Lib.hid hLq
                have HEq := Lib.hid (err_quiet hRz)
                clear hLq
                have hix := arr_at e2 he2
                go_quiet ((first | (go_at_call 29; exact HLq.out _) | (go_at_call 30; exact HEq.out _)))
                go_wp2_with fail
                go_roundw
                case rel => exact ⟨p2 + 1, A6, n5 - tk, c6, lst.drop tk, e2, by omega, by go_num, rfl, rfl, he2, by omega, hSz.drewN _, hRz.drewN _, only_drewN hGG _⟩
                case measure => simp [intOf]; omega
            · go_wp2_with fail
              have hF := off_lst lst e 8 hoke
              rw [hll.out] at hF
              have htk := took_le n5 e 8
              have htk' := took_le' n5 e 8
              have he2 : okE (nextE n5 e 8) := nextE_ok hoke
              refine (off_is n5 e 8 _ rfl _).mono ?_
              rintro q wx ⟨rfl, rfl⟩
              generalize tookN n5 e 8 = tk at *
              generalize nextE n5 e 8 = e2 at *
              obtain ⟨hF1, hF2, hF3⟩ := hF
              have HF1 := Lib.hid hF1
              have HF2 := Lib.hid hF2
              have HF3 := Lib.hid hF3
              clear hF1 hF2 hF3
              go_upto_region 21 with fail
              go_cut [5, 9] (fun s5 s9 wx => ∃ A6 c6, s5 = .slice A6 (n5 - tk) c6 ∧ s9 = .int .i64 e2 ∧ Hid (SlB wx w2.heap.size A6 (n5 - tk) c6 (lst.drop tk)) ∧ wx = wr.alloc (.cells #[.int .i64 kd0, .int .i64 nn0] 42))
              case first =>
                by_cases hct : c5 = tk
                · obtain rfl : n5 = tk := by omega
                  obtain rfl : n5 = c5 := by omega
                  have hz : lst.drop n5 = [] := List.drop_eq_nil_of_le (by rw [hll.out]; exact Nat.le_refl _)
                  have HZ := Lib.hid hz
                  clear hz hct
                  go_wp2_with fail
                  all_goals
                    go_meet
                    refine ⟨A5, 0, by rw [Nat.sub_self], rfl, ?_, rfl⟩
                    rw [HZ.out]
                    simpa [Hid] using SlB.zero_
                · have hS2 := hSA.cut2 htk hct
                  go_wp2_with fail
                  all_goals
                    go_meet
                    exact ⟨_, _, rfl, rfl, hS2, rfl⟩
              case rest =>
                obtain ⟨A6, c6, rfl, rfl, hS7, rfl⟩ := hcut
                have hW := hSA.take htk
                have hlt5 : Hid ((lst.take tk).length = tk) := by
                  have : (lst.take tk).length = tk := by rw [List.length_take, hll.out]; omega
                  exact this
                have hld5 : Hid ((lst.drop tk).length = n5 - tk) := by
                  have : (lst.drop tk).length = n5 - tk := by rw [List.length_drop, hll.out]
                  exact this
                go_wp2_with fail
                have hnl := num_lt (lst.take tk)
                rw [hlt5.out] at hnl
                have hpw : 256 ^ tk ≤ 256 ^ 8 := Nat.pow_le_pow_right (by decide) htk'
                have hpb : 256 ^ 8 ≤ 18446744073709551616 := by decide
                have hw64 : w64 (num (lst.take tk)) = num (lst.take tk) := w64_small _ (by omega)
                have c0 := number_any hW
                rw [hw64] at c0
                refine c0.mono ?_
                rintro q wx ⟨rfl, rfl⟩
                clear c0 hpb
                have c1 := take_u64 hRA
                rw [HF1.out, HF2.out, HF3.out] at c1
                have C1 := Lib.hid c1
                have hN : num (lst.take tk) < 18446744073709551616 := by omega
                clear c1 hw64 hpw hnl hW hSA hRA
                generalize num (lst.take tk) = N at *
                have HN := Lib.hid hN
                clear hN
                go_wp2_with fail
                refine C1.out.mono ?_
                rintro q wz ⟨rfl, hRz, hGz⟩
                have hSz := hS7.out.below (below_of_only hGz hgw (by simp; omega))
                have hGG := only_trans hGA hGz
                clear C1 hS7 hGz hGA
                go_upto_region 40 with fail
                have hLq := left_quiet hRz
                rw [hld5.out] at hLq
                have HLq := Lib.hid hLq
                have HEq := Lib.hid (err_quiet hRz)
                clear hLq
                have hix := arr_at e2 he2
                go_quiet ((first | (go_at_call 29; exact HLq.out _) | (go_at_call 30; exact HEq.out _)))
                go_wp2_with fail
                go_roundw
                case rel => exact ⟨p2 + 1, A6, n5 - tk, c6, lst.drop tk, e2, by omega, by go_num, rfl, rfl, he2, by omega, hSz.drewN _, hRz.drewN _, only_drewN hGG _⟩
                case measure => simp [intOf]; omega
            · go_wp2_with fail
              have hF := off_lst lst e nn0 hoke
              rw [hll.out] at hF
              have htk := took_le n5 e nn0
              have htk' := took_le' n5 e nn0
              have he2 : okE (nextE n5 e nn0) := nextE_ok hoke
              refine (off_is n5 e nn0 _ rfl _).mono ?_
              rintro q wx ⟨rfl, rfl⟩
              generalize tookN n5 e nn0 = tk at *
              generalize nextE n5 e nn0 = e2 at *
              obtain ⟨hF1, hF2, hF3⟩ := hF
              have HF1 := Lib.hid hF1
              have HF2 := Lib.hid hF2
              have HF3 := Lib.hid hF3
              clear hF1 hF2 hF3
              go_upto_region 21 with fail
              go_cut [5, 9] (fun s5 s9 wx => ∃ A6 c6, s5 = .slice A6 (n5 - tk) c6 ∧ s9 = .int .i64 e2 ∧ Hid (SlB wx w2.heap.size A6 (n5 - tk) c6 (lst.drop tk)) ∧ wx = wr.alloc (.cells #[.int .i64 kd0, .int .i64 nn0] 42))
              case first =>
                by_cases hct : c5 = tk
                · obtain rfl : n5 = tk := by omega
                  obtain rfl : n5 = c5 := by omega
                  have hz : lst.drop n5 = [] := List.drop_eq_nil_of_le (by rw [hll.out]; exact Nat.le_refl _)
                  have HZ := Lib.hid hz
                  clear hz hct
                  go_wp2_with fail
                  all_goals
                    go_meet
                    refine ⟨A5, 0, by rw [Nat.sub_self], rfl, ?_, rfl⟩
                    rw [HZ.out]
                    simpa [Hid] using SlB.zero_
                · have hS2 := hSA.cut2 htk hct
                  go_wp2_with fail
                  all_goals
                    go_meet
                    exact ⟨_, _, rfl, rfl, hS2, rfl⟩
              case rest =>
                obtain ⟨A6, c6, rfl, rfl, hS7, rfl⟩ := hcut
                have hW := hSA.take htk
                have hlt5 : Hid ((lst.take tk).length = tk) := by
                  have : (lst.take tk).length = tk := by rw [List.length_take, hll.out]; omega
                  exact this
                have hld5 : Hid ((lst.drop tk).length = n5 - tk) := by
                  have : (lst.drop tk).length = n5 - tk := by rw [List.length_drop, hll.out]
                  exact this
                go_wp2_with fail
                refine (number_any hW).mono ?_
                rintro q wx ⟨rfl, rfl⟩
                generalize w64 (num (lst.take tk)) = N at *
                have c1 := raw_any hRA nn0 hq1 (by rw [hll.out]; omega)
                rw [HF1.out, HF2.out, HF3.out, hlt5.out] at c1
                have C1 := Lib.hid c1
                have hgA := hRA.lt
                clear c1 hSA hRA
                go_wp2_with fail
                refine C1.out.mono ?_
                rintro q wb ⟨b8, hb8, rfl, hB8, hRb, hGb⟩
                have hbb2 : Below w2.heap.size (wr.alloc (.cells #[.int .i64 kd0, .int .i64 nn0] 42)) wb := below_of_only hGb hgw (by simp; omega)
                have hSb := hS7.out.below hbb2
                have hWb := hW.below hbb2
                have hGGb := only_trans hGA hGb
                have hb8s : wr.heap.size + 1 ≤ b8 := by simpa using hb8
                have hb8g : g < b8 := by simp at hgA; omega
                have s8 := Bl.sl (B := wb.heap.size) hB8 hB8.lt (by rw [hlt5.out]; unfold maxLen; omega)
                rw [hlt5.out] at s8
                clear C1 hS7 hGA hGb hbb2 hW
                go_wp2_with fail
                refine (same_is s8 hWb true (by simp)).mono ?_
                rintro q wx ⟨rfl, k8, rfl⟩
                have hB8' : Hid (Bl (wb.drewN k8) b8 5 (bvs (lst.take tk))) := hB8
                have hwo8 : wo.heap.size ≤ b8 := by have := hbG.size; omega
                clear s8 hWb hB8
                go_wp2_with fail
                go_loopw [87] (fun j wv => ∃ (v : Nat) (l' : List UInt8), v ≤ tk ∧ j = .int .i64 v ∧ l'.length = tk ∧ Hid (Bl wv b8 5 (bvs l')) ∧ (wb.drewN k8).grownBy wv (some b8)) (fun j _ => tk - (intOf j).toNat)
                case atStart => exact ⟨0, _, Nat.zero_le _, rfl, hlt5.out, hB8', only_refl _ _⟩
                case round =>
                obtain ⟨v, l', hv, rfl, hl', hbv, hGv⟩ := hrel
                by_cases hvl : v < tk
                · have HL' := Lib.hid hl'
                  clear hl'
                  have hcv := hbv.out.cell v
                  have hvl' : v < l'.length := by rw [HL'.out]; exact hvl
                  rw [show (bvs l')[v]? = some (.int .u8 (l'[v].toNat : Int)) by simp [bvs, bv, List.getElem?_eq_getElem hvl']] at hcv
                  have hfv := hbv.out.frozen v
                  have hby := l'[v].toNat_lt
                  have hset : Hid (Bl (wr.setCell ⟨b8, v, none⟩ (bv (l'[v] + 1))) b8 5 (bvs (l'.set v (l'[v] + 1)))) := by
                    have := hbv.out.set_ v (bv (l'[v] + 1))
                    rw [show (bvs l').set v (bv (l'[v] + 1)) = bvs (l'.set v (l'[v] + 1)) by simp [bvs, List.map_set]] at this
                    exact this
                  have hval : Hid (((l'[v].toNat : Int) + 1) % 256 = ((l'[v] + 1).toNat : Int)) := by
                    have : ((l'[v].toNat : Int) + 1) % 256 = ((l'[v] + 1).toNat : Int) := by
                      rw [UInt8.toNat_add]; simp
                    exact this
                  go_wp2_with fail
                  have hval2 : Value.int .u8 (((l'[v].toNat : Int) + 1) % 256) = bv (l'[v] + 1) := by rw [hval.out]; rfl
                  rw [hval2]
                  exact ⟨⟨v + 1, l'.set v (l'[v] + 1), by omega, rfl, by rw [List.length_set, HL'.out], hset, only_set (p := ⟨b8, v, none⟩) hGv rfl _⟩, by simp [intOf]; omega⟩
                obtain rfl : v = tk := by omega
                have hbz : Below b8 (wb.drewN k8) wr := below_of_only hGv (Nat.le_refl _) (by exact Nat.le_of_lt hB8'.out.lt)
                have hRz := (hRb.drewN k8).below hbz hb8g
                have hSz := (hSb.drewN k8).below (hbz.mono (by omega))
                have hGG := only_new (only_drewN hGGb k8) hGv hwo8
                clear hRb hSb hGGb hGv hbv hB8'
                go_upto_region 40 with fail
                have hLq := left_quiet hRz
                rw [hld5.out] at hLq
                have HLq := Lib.hid hLq
                have HEq := Lib.hid (err_quiet hRz)
                clear hLq
                have hix := arr_at e2 he2
                go_quiet ((first | (go_at_call 29; exact HLq.out _) | (go_at_call 30; exact HEq.out _)))
                go_wp2_with fail
                go_roundw
                case rel => exact ⟨p2 + 1, A6, n5 - v, c6, lst.drop v, e2, by omega, by go_num, rfl, rfl, he2, by omega, hSz.drewN _, hRz.drewN _, only_drewN hGG _⟩
                case measure => simp [intOf]; omega
        · go_wp2_with fail
          go_ret
          exact ⟨rfl, hbw5.trans (hbG.mono hww)⟩

theorem own : ownKnob Try.prog.godebug = none := by kernel_rfl
theorem laidOut : laidOutB Try.prog = true := by kernel_rfl

set_option maxRecDepth 100000 in
theorem lifted (os : Os) (started : os.Started) (H : Type) (enc : TypeId × Value → H) :
    ReturnsInHanded {} Try.checked os 5 .any (Rows.octetTakesSpec.pre6 enc Try.prog Try.f5 Rows.octetTakesRow.domain false) (Rows.octetTakesSpec.post enc Try.prog Try.f5 false true false false) := by
  refine returnsInHanded_of_change (C := Try.checked) own started (by kernel_rfl) Try.func5
    (ChangeSpec.witness6 (enc := enc) (C := Try.checked) false ⟨#[], #[.slice none 0 0, .slice none 0 0], []⟩ 8 (by kernel_rfl) (by kernel_rfl) (by kernel_rfl) (by kernel_rfl)) ?_
  intro W base args ds gs before hval0 hW hcnd _
  have hval : ∀ (j : Nat) t v, Try.f5.params[j]? = some t → args[j]? = some v → Value.okWide Try.prog W .any base t v := hval0
  have hW' := hW
  obtain ⟨p, q, hA0, hV, rfl, hfz, hnd⟩ := hW
  have hA : DataW.TrodAll enc Try.prog W 0 (fun _ => true) true Try.f5.params.toList args.toList ds p := hA0
  rw [Try.params5] at hA hval
  obtain ⟨v0, vs0, d0, ds0, p0, q0, hargs, rfl, rfl, h0, r0⟩ := trodAll_cons hA
  obtain ⟨v1, vs1, d1, ds1, p1, q1, rfl, rfl, rfl, h1, r1⟩ := trodAll_cons r0
  obtain ⟨rfl, rfl, rfl⟩ := trodAll_nil r1
  obtain rfl : args = #[v0, v1] := by cases args; simp_all
  obtain ⟨rfl, rfl⟩ := trodVars_none hV
  have k0 := h0
  have lt0 : ∀ x ∈ p0, x.block < W.heap.size := by obtain ⟨m, hm⟩ := k0; exact DataW.trod_lt m _ _ _ hm
  obtain ⟨a0, len0, cap0, rfl⟩ := okWide_slice Try.underlying22 (hval 0 22 v0 rfl rfl)
  obtain ⟨l0, s0⟩ : ∃ l, SlB W W.heap.size a0 len0 cap0 l := by
    obtain ⟨fuel, hf⟩ := h0
    rcases open_ints Try.underlying22 Try.underlying5 (by kernel_rfl) hf with ⟨hcs, _⟩ | ⟨x, l, c, zs, hcs, _, hl, hm, hz, _, hcell, hwz⟩
    · simp [Value.cells] at hcs
      obtain ⟨rfl, rfl, rfl⟩ := hcs
      exact ⟨[], SlB.nil_⟩
    · simp [Value.cells] at hcs
      obtain ⟨rfl, rfl, rfl⟩ := hcs
      exact sl_arg hl hm (by simpa using hz) hcell hwz
  have k1 := h1
  have lt1 : ∀ x ∈ p1, x.block < W.heap.size := by obtain ⟨m, hm⟩ := k1; exact DataW.trod_lt m _ _ _ hm
  obtain ⟨a1, len1, cap1, rfl⟩ := okWide_slice Try.underlying38 (hval 1 38 v1 rfl rfl)
  obtain ⟨l1, s1⟩ : ∃ l, SlP W W.heap.size a1 len1 cap1 l := by
    obtain ⟨fuel, hf⟩ := h1
    rcases Go.Deep.open_slice_pairs Try.underlying38 Try.underlying42 (by kernel_rfl) rfl rfl (by kernel_rfl) (by kernel_rfl) hf with ⟨hcs, _⟩ | ⟨x, l, c, m, fl, V0, V1, D0, D1, P0, P1, hcs, _, hl, hm, hmm, _, hcell⟩
    · simp [Value.cells] at hcs
      obtain ⟨rfl, rfl, rfl⟩ := hcs
      exact ⟨[], SlP.nil_⟩
    · simp [Value.cells] at hcs
      obtain ⟨rfl, rfl, rfl⟩ := hcs
      refine slp_arg (V0 := V0) (V1 := V1) hl hm (m := m) (by rw [hmm]; split <;> omega) (fun i hi => ?_)
      obtain ⟨q0, q1, q2, q3⟩ := hcell i hi
      obtain ⟨n0, g0, _, wf0⟩ := DataW.trod_int Try.underlying3 q2
      obtain ⟨n1, g1, _, wf1⟩ := DataW.trod_int Try.underlying3 q3
      simp at g0 g1
      exact ⟨q0, q1, ⟨n0, g0, wf0⟩, n1, g1, wf1⟩
  clear hA0 hval0
  refine (walk s0 s1).mono fun e W' ⟨he, bel⟩ => ?_
  subst he
  exact ⟨_, rfl, _, _, _, [], _, [], hW', trodAll_mk1 (shut_bool Try.underlying4 _), (trodAll_cons_mk (Below.trod laidOut (by kernel_rfl) (of_decide_eq_true (by kernel_rfl)) k0 bel lt0) (trodAll_cons_mk (Below.trod laidOut (by kernel_rfl) (of_decide_eq_true (by kernel_rfl)) k1 bel lt1) trodAll_mk0)), rfl, bel.frame _, fun h => by cases h⟩

theorem over : Rows.octetTakesRow.holds Try.pinned (OpenSpec.ofChange Rows.octetTakesSpec) :=
  OpenClaim.holds_of_wide 5 Try.f5 rfl rfl rfl rfl rfl rfl rfl ⟨rfl, rfl, rfl, rfl, rfl⟩ rfl rfl rfl rfl rfl (by kernel_rfl) Try.func5 (by kernel_rfl)
    (of_decide_eq_true (by kernel_rfl)) (by unfold Func.isWrapper; first | (rw [if_pos (by decide +kernel)]; kernel_rfl) | (rw [if_neg (by decide +kernel)]; exact ⟨rfl, rfl⟩))
    (fun os started H enc _ => lifted os started H enc)

theorem proved : Rows.OctetTakesSaid := over
#print axioms proved
end Go.Proofs.Ytokaihdoddonkaa.octetTakes
