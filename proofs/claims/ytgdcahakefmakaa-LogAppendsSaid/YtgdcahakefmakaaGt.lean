/-
  LOGS: From.
-/
import Derived.Test.YtgdcahakefmakaaGs
namespace Go.Proofs.Ytgdcahakefmakaa
set_option linter.unusedVariables false
set_option linter.unusedSimpArgs false
open Go.RowKit Go.WideShapes Go.ChangeShapes Go.Deep Go.Shelf
attribute [local irreducible] wpQuiet

theorem results_from (tmps : Array Value) (W : World) (b i t : Nat) (v : Value) (k : Int) (h6 : tmps.getD 6 undef = .pointer (some ⟨b, 0, none⟩)) (h7 : tmps.getD 7 undef = v) (h8 : tmps.getD 8 undef = .int .i64 k) (x : Bl W b 24 (atC i t)) :
    (results Try.f27 tmps).run Try.prog W = .ok (.tuple #[atV i t, v, .int .i64 k]) W := by
  have h6' : tmps[6]?.getD undef = .pointer (some ⟨b, 0, none⟩) := by simpa using h6
  have h7' : tmps[7]?.getD undef = v := by simpa using h7
  have h8' : tmps[8]?.getD undef = .int .i64 k := by simpa using h8
  have x0 := x.cell 0
  have x1 := x.cell 1
  simp only [atC, List.getElem?_cons_zero, List.getElem?_cons_succ] at x0 x1
  simp [results, Try.f27, go_sem, h6', h7', h8', x0, x1]
theorem ends_from {W : World} {R : Ending → World → Prop} (tmps : Array Value) (b i t : Nat) (v : Value) (k : Int) (h6 : tmps.getD 6 undef = .pointer (some ⟨b, 0, none⟩)) (h7 : tmps.getD 7 undef = v) (h8 : tmps.getD 8 undef = .int .i64 k) (x : Bl W b 24 (atC i t))
    (h : R (.returned (.tuple #[atV i t, v, .int .i64 k])) W) : bodyPost Try.prog Try.f27 R Exit.ret { tmps := tmps, defers := [] } W := bodyPost_ret (results_from tmps W b i t v k h6 h7 h8 x) rfl h
theorem far2 {W : World} {b B : Nat} {x y : Value} {ty : TypeId} (h : Bl W b ty [x, y]) (hn : b ≠ B) (u v : Value) : ((W.setCell ⟨B, 0, none⟩ u).setCell ⟨B, 1, none⟩ v).cell? ⟨b, 0, none⟩ = some x ∧ ((W.setCell ⟨B, 0, none⟩ u).setCell ⟨B, 1, none⟩ v).cell? ⟨b, 1, none⟩ = some y := by
  have M := (h.far (p := ⟨B, 0, none⟩) hn u).far (p := ⟨B, 1, none⟩) hn v
  exact ⟨M.cell 0, M.cell 1⟩
theorem res2 {w w' : World} {b : Nat} {u0 u1 : Value} (hL : Bl w' b 24 [u0, u1]) (hB : Below w.heap.size w w') (hb : w.heap.size ≤ b) (i t : Nat) :
    Bl ((w'.setCell ⟨b, 0, none⟩ (.int .u64 (i : Int))).setCell ⟨b, 1, none⟩ (.int .u64 (t : Int))) b 24 (atC i t) ∧
    Below w.heap.size w ((w'.setCell ⟨b, 0, none⟩ (.int .u64 (i : Int))).setCell ⟨b, 1, none⟩ (.int .u64 (t : Int))) := by
  have hz := hB.size
  exact ⟨bl_set2 hL _ _, (hB.trans (below_cell hb hz)).trans (below_cell hb (by simpa [World.setCell] using hz))⟩
def predI (k : Nat) : Nat := if k = 0 then 18446744073709551615 else k - 1
theorem sub1 (k : Nat) (hk : k < 18446744073709551616) : IntKind.u64.wrap ((k : Int) - 1) = (predI k : Int) := by
  unfold predI
  by_cases h : k = 0
  · subst h; rfl
  · rw [if_neg h]
    show ((k : Int) - 1) % 18446744073709551616 = _
    omega
theorem fromW_none {l : Lg} {k : Nat} {n : Int} (h : isLogW l = true) (ho : placeW l (predI k) = none) : fromW l k n = ((0, 0), [], 4) := by
  unfold fromW
  rw [if_neg (by rw [h]; simp)]
  by_cases hk : k = 0
  · rw [if_pos hk]
  · have e : predI k = k - 1 := by unfold predI; rw [if_neg hk]
    rw [e] at ho
    rw [if_neg hk, ho]
theorem fromW_some {l : Lg} {k u : Nat} {n : Int} (h : isLogW l = true) (hk : k ≠ 0) (ho : placeW l (predI k) = some u) : fromW l k n = if n < 0 then ((0, 0), [], 2) else ((k - 1, u), (l.es.drop (k - 1 - l.bi)).take n.toNat, 0) := by
  unfold fromW
  rw [if_neg (by rw [h]; simp)]
  have e : predI k = k - 1 := by unfold predI; rw [if_neg hk]
  rw [e] at ho
  rw [if_neg hk, ho]
set_option maxRecDepth 100000 in
set_option maxHeartbeats 4000000 in
theorem From_any {w : World} {A : Option Addr} {n c : Nat} {es : List En} (hs : SqE w w.heap.size A n c es) (hn : n ≤ 1000) (i t : Nat) (hi : i < 18446744073709551616) (ht : t < 18446744073709551616) (k : Nat) (hk : k < 18446744073709551616) (m : Int) (hm : -9223372036854775808 ≤ m ∧ m ≤ 9223372036854775807) :
    Calls Try.prog 27 #[lgV i t A n c, .int .u64 (k : Int), .int .i64 m] w fun e w' => (∃ A' N c' l', e = .returned (.tuple #[atV (fromW ⟨i, t, vsE es⟩ k m).1.1 (fromW ⟨i, t, vsE es⟩ k m).1.2, .slice A' N c', .int .i64 (fromW ⟨i, t, vsE es⟩ k m).2.2]) ∧ OwnL w' w.heap.size A' N c' l' ∧ vsE l' = (fromW ⟨i, t, vsE es⟩ k m).2.1) ∧ Below w.heap.size w w' := by
  obtain ⟨w1, hw1⟩ : ∃ w1, ((w.alloc (.cells #[.int .u64 (i : Int), .int .u64 (t : Int), .slice A n c] 27)).alloc (.cells #[.int .u64 0, .int .u64 0] 24)) = w1 := ⟨_, rfl⟩
  have L0 : Bl w1 (w.heap.size) 27 [.int .u64 (i : Int), .int .u64 (t : Int), .slice A n c] := by
    rw [← hw1]
    have h := Bl.new w 27 [.int .u64 (i : Int), .int .u64 (t : Int), .slice A n c]
    (try simp only [World.size_alloc] at h)
    exact (h.alloc _)
  have L1 : Bl w1 (w.heap.size + 1) 24 [.int .u64 0, .int .u64 0] := by
    rw [← hw1]
    have h := Bl.new (w.alloc (.cells #[.int .u64 (i : Int), .int .u64 (t : Int), .slice A n c] 27)) 24 [.int .u64 0, .int .u64 0]
    (try simp only [World.size_alloc] at h)
    exact h
  have B1 : Below w.heap.size w w1 := by
    rw [← hw1]
    exact (((Below.refl _ _).alloc (by simp <;> omega) _).alloc (by simp <;> omega) _)
  have Z1 : w1.heap.size = w.heap.size + 2 := by rw [← hw1]; simp
  have HQ : Hid (∀ w', Below w1.heap.size w1 w' → w'.cell? ⟨w.heap.size, 0, none⟩ = some (.int .u64 (i : Int)) ∧ w'.cell? ⟨w.heap.size, 1, none⟩ = some (.int .u64 (t : Int)) ∧ w'.cell? ⟨w.heap.size, 2, none⟩ = some (.slice A n c)) := Lib.hid fun w' hw => by
    have := L0.below hw L0.lt
    have q0 := this.cell 0
    have q1 := this.cell 1
    have q2 := this.cell 2
    simp only [List.getElem?_cons_zero, List.getElem?_cons_succ] at q0 q1 q2
    exact ⟨q0, q1, q2⟩
  obtain ⟨c0, c1, c2⟩ := HQ.out _ (Below.refl _ _)
  have HW := Lib.hid hw1
  have HB1 := Lib.hid B1
  have HS := Lib.hid (fun (w' : World) (hw : Below w1.heap.size w1 w') => hs.next (Nat.le_refl _) (B1.trans (hw.mono B1.size)))
  have CL := Lib.hid (isLog_any (HS.out _ (Below.refl _ _)) hn i t hi ht)
  have HT := Lib.hid ht
  have hlen := hs.len
  have HL1 := Lib.hid (show Bl w1 (w.heap.size + 1) 24 (atC 0 0) from L1)
  have hsub := sub1 k hk
  have HSUB := Lib.hid hsub
  clear hw1 L0 L1 B1 Z1 hi
  rcases hq : isLogW ⟨i, t, vsE es⟩ with _ | _
  · have e0 : fromW ⟨i, t, vsE es⟩ k m = ((0, 0), [], 220) := by unfold fromW; rw [hq]; rfl
    rw [e0]
    rw [hq] at CL
    clear hq e0 hs hsub
    go_enter Try.func27, Try.ntmps27
    go_upto_region 1 with fail
    rw [HW.out]
    go_wp2_with (first | (go_at_call 39; refine CL.out.mono ?_; rintro e w2 ⟨rfl, hb2⟩; have HB2 := Lib.hid hb2; clear hb2 c0 c1 c2; have M := (HL1.out.below HB2.out HL1.out.lt); have r0 := M.cell 0; have r1 := M.cell 1; have f0 := M.frozen 0; have f1 := M.frozen 1; simp only [atC, List.getElem?_cons_zero, List.getElem?_cons_succ] at r0 r1; clear M) | fail)
    have R := res2 (HL1.out.below HB2.out HL1.out.lt) (HB1.out.trans (HB2.out.mono HB1.out.size)) (Nat.le_succ _) 0 0
    exact ends_from _ _ 0 0 _ 220 rfl rfl rfl R.1 ⟨⟨none, 0, 0, [], rfl, OwnL.nil_ _ _, rfl⟩, R.2⟩
  obtain ⟨hn16, hin⟩ := isLog_sum hq hlen
  have HEB := Lib.hid (enB_of (i := i) (right_rise hq) hs)
  have hp64 : predI k < 18446744073709551616 := by unfold predI; split <;> omega
  have CP := Lib.hid (fun (w' : World) (hw : Below w1.heap.size w1 w') => place_any (HS.out w' hw) hn i t (show i + n < 18446744073709551616 by omega) HT.out (predI k) hp64)
  rw [hq] at CL
  rcases ho : placeW ⟨i, t, vsE es⟩ (predI k) with _ | u
  · have e0 : fromW ⟨i, t, vsE es⟩ k m = ((0, 0), [], 4) := fromW_none hq ho
    rw [e0]
    rw [ho] at CP
    clear hq e0 hs ho hin hp64
    go_enter Try.func27, Try.ntmps27
    go_upto_region 1 with fail
    rw [HW.out]
    go_upto_region 4 with (first | (go_at_call 39; refine CL.out.mono ?_; rintro e w2 ⟨rfl, hb2⟩; have HB2 := Lib.hid hb2; clear hb2 c0 c1 c2; obtain ⟨c0, c1, c2⟩ := HQ.out _ HB2.out) | (go_at_call 44; refine (CP.out _ HB2.out).mono ?_; rintro e w3 ⟨rfl, hb3⟩; have HB3 := Lib.hid (HB2.out.trans (hb3.mono HB2.out.size)); clear hb3 c0 c1 c2; dsimp only [placeV]) | fail)
    obtain ⟨w4, hw4⟩ : ∃ w4, w3.alloc (.cells #[.int .u64 0, .int .u64 0] 24) = w4 := ⟨_, rfl⟩
    have HB4 := Lib.hid (show Below w1.heap.size w1 w4 by rw [← hw4]; exact HB3.out.alloc HB3.out.size _)
    rw [hw4]
    clear hw4
    have M := (HL1.out.below HB4.out HL1.out.lt)
    have r0 := M.cell 0
    have r1 := M.cell 1
    have f0 := M.frozen 0
    have f1 := M.frozen 1
    simp only [atC, List.getElem?_cons_zero, List.getElem?_cons_succ] at r0 r1
    clear M
    go_wp2_with fail
    have R := res2 (HL1.out.below HB4.out HL1.out.lt) (HB1.out.trans (HB4.out.mono HB1.out.size)) (Nat.le_succ _) 0 0
    exact ends_from _ _ 0 0 _ 4 rfl rfl rfl R.1 ⟨⟨none, 0, 0, [], rfl, OwnL.nil_ _ _, rfl⟩, R.2⟩
  · have hp := placeW_some ho
    simp only [lastI, vsE_len, hlen] at hp
    have hk0 : k ≠ 0 := fun e => by subst e; have : predI 0 = 18446744073709551615 := rfl; omega
    have hpk : predI k = k - 1 := by unfold predI; rw [if_neg hk0]
    obtain ⟨d, hkd⟩ : ∃ d, predI k = i + d := ⟨predI k - i, by omega⟩
    have hdn : d ≤ n := by omega
    rw [ho] at CP
    by_cases hm0 : m < 0
    · have e0 : fromW ⟨i, t, vsE es⟩ k m = ((0, 0), [], 2) := by rw [fromW_some hq hk0 ho, if_pos hm0]
      rw [e0]
      have dm : decide (m < 0) = true := by simpa using hm0
      obtain ⟨pk, hpkk⟩ : ∃ pk, predI k = pk := ⟨_, rfl⟩
      rw [hpkk] at CP hsub
      clear hq e0 hs ho hin hp hpk hkd hpkk HSUB hp64
      go_enter Try.func27, Try.ntmps27
      go_upto_region 1 with fail
      rw [HW.out]
      go_upto_region 4 with (first | (go_at_call 39; refine CL.out.mono ?_; rintro e w2 ⟨rfl, hb2⟩; have HB2 := Lib.hid hb2; clear hb2 c0 c1 c2; obtain ⟨c0, c1, c2⟩ := HQ.out _ HB2.out) | (go_at_call 44; refine (CP.out _ HB2.out).mono ?_; rintro e w3 ⟨rfl, hb3⟩; have HB3 := Lib.hid (HB2.out.trans (hb3.mono HB2.out.size)); clear hb3 c0 c1 c2; dsimp only [placeV]) | fail)
      obtain ⟨w4, hw4⟩ : ∃ w4, w3.alloc (.cells #[.int .u64 (pk : Int), .int .u64 (u : Int)] 24) = w4 := ⟨_, rfl⟩
      have HB4 := Lib.hid (show Below w1.heap.size w1 w4 by rw [← hw4]; exact HB3.out.alloc HB3.out.size _)
      rw [hw4]
      clear hw4
      have M := (HL1.out.below HB4.out HL1.out.lt)
      have r0 := M.cell 0
      have r1 := M.cell 1
      have f0 := M.frozen 0
      have f1 := M.frozen 1
      simp only [atC, List.getElem?_cons_zero, List.getElem?_cons_succ] at r0 r1
      clear M
      go_wp2_with fail
      have R := res2 (HL1.out.below HB4.out HL1.out.lt) (HB1.out.trans (HB4.out.mono HB1.out.size)) (Nat.le_succ _) 0 0
      exact ends_from _ _ 0 0 _ 2 rfl rfl rfl R.1 ⟨⟨none, 0, 0, [], rfl, OwnL.nil_ _ _, rfl⟩, R.2⟩
    · obtain ⟨M, rfl⟩ : ∃ M : Nat, m = (M : Int) := ⟨m.toNat, by omega⟩
      have dm : decide ((M : Int) < 0) = false := by simp
      have e0 : fromW ⟨i, t, vsE es⟩ k (M : Int) = ((predI k, u), vsE ((es.drop d).take M), 0) := by
        rw [fromW_some hq hk0 ho, if_neg hm0, hpk]
        show ((k - 1, u), ((vsE es).drop (k - 1 - i)).take (M : Int).toNat, (0 : Int)) = _
        rw [show k - 1 - i = d by omega, Int.toNat_natCast]
        unfold vsE
        rw [List.map_take, List.map_drop]
      rw [e0]
      have CPA := Lib.hid (fun (w' : World) (hw : Below w1.heap.size w1 w') => (show Calls Try.prog 45 #[lgV i t A n c, atV (predI k) u] w' _ by rw [hkd]; exact parted_any (HS.out w' hw) hn i t d u hdn (by omega)))
      have HDL := Lib.hid (show (es.drop d).length = n - d ∧ ∀ x ∈ es.drop d, EnB x by rw [List.length_drop, hlen]; exact ⟨rfl, fun x hx => HEB.out x (List.mem_of_mem_drop hx)⟩)
      obtain ⟨es', hes'⟩ : ∃ es', es.drop d = es' := ⟨_, rfl⟩
      rw [hes'] at CPA HDL ⊢
      obtain ⟨N, hN⟩ : ∃ N, n - d = N := ⟨_, rfl⟩
      rw [hN] at CPA HDL
      have hNn : N ≤ n := by omega
      obtain ⟨pk, hpkk⟩ : ∃ pk, predI k = pk := ⟨_, rfl⟩
      rw [hpkk] at CP hsub CPA ⊢
      clear hq e0 hs ho hin hp hes' HEB hkd hN hdn hpk hpkk HSUB hp64 hm0
      go_enter Try.func27, Try.ntmps27
      go_upto_region 1 with fail
      rw [HW.out]
      go_upto_region 4 with (first | (go_at_call 39; refine CL.out.mono ?_; rintro e w2 ⟨rfl, hb2⟩; have HB2 := Lib.hid hb2; clear hb2 c0 c1 c2; obtain ⟨c0, c1, c2⟩ := HQ.out _ HB2.out) | (go_at_call 44; refine (CP.out _ HB2.out).mono ?_; rintro e w3 ⟨rfl, hb3⟩; have HB3 := Lib.hid (HB2.out.trans (hb3.mono HB2.out.size)); clear hb3 c0 c1 c2; dsimp only [placeV]) | fail)
      obtain ⟨w4, hw4⟩ : ∃ w4, w3.alloc (.cells #[.int .u64 (pk : Int), .int .u64 (u : Int)] 24) = w4 := ⟨_, rfl⟩
      have HN4 := Lib.hid (show Bl w4 w3.heap.size 24 (atC pk u) by rw [← hw4]; exact Bl.new w3 24 (atC pk u))
      have HB4 := Lib.hid (show Below w1.heap.size w1 w4 by rw [← hw4]; exact HB3.out.alloc HB3.out.size _)
      have HG4 := Lib.hid (show w1.heap.size ≤ w3.heap.size from HB3.out.size)
      rw [hw4]
      clear hw4
      obtain ⟨c0, c1, c2⟩ := HQ.out _ HB4.out
      have z0 := HN4.out.cell 0
      have z1 := HN4.out.cell 1
      simp only [atC, List.getElem?_cons_zero, List.getElem?_cons_succ] at z0 z1
      go_upto_region 9 with (first | (go_at_call 45; refine (CPA.out _ HB4.out).mono ?_; rintro e w5 ⟨⟨A5, c5, rfl, hst5, hsd5⟩, hb5⟩; have HB5 := Lib.hid (HB4.out.trans (hb5.mono HB4.out.size)); have HN5 := Lib.hid (HN4.out.below hb5 HN4.out.lt); have HSD := Lib.hid (hsd5.next (Nat.le_refl _) hb5); clear hst5 hsd5 hb5 c0 c1 c2 z0 z1) | fail)
      obtain ⟨q, hq⟩ : ∃ q, min M N = q := ⟨_, rfl⟩
      have hmin : (if (N : Int) < (M : Int) then (N : Int) else (M : Int)) = (q : Int) := by split <;> omega
      have hmin2 : (if N < M then (N : Int) else (M : Int)) = (q : Int) := by split <;> omega
      have hmin3 : min (M : Int) (N : Int) = (q : Int) := by omega
      have hqN : q ≤ N := by omega
      have hcap := HSD.out.s.cap
      have hq0 : (0 : Int) ≤ (q : Int) := Int.natCast_nonneg _
      have hq1 : (q : Int) ≤ (c5 : Int) := by omega
      have HSQ := Lib.hid (HSD.out.take hqN)
      obtain ⟨w6, hw6⟩ : ∃ w6, (w5.alloc (.cells #[.slice A5 q c5] 25)).drew = w6 := ⟨_, rfl⟩
      have SL6 := (one_ls HSQ.out).below (w' := (w5.alloc (.cells #[.slice A5 q c5] 25)).drew) (Below.refl _ _).drew
      have e6 : (w5.alloc (.cells #[.slice A5 q c5] 25)).heap.size = (w5.alloc (.cells #[.slice A5 q c5] 25)).drew.heap.size := rfl
      rw [e6] at SL6
      clear e6
      rw [hw6] at SL6
      have hlq : (es'.take q).length = q := by rw [List.length_take, HDL.out.1]; omega
      have htq : es'.take M = es'.take q := by
        rw [← hq]
        rcases Nat.le_total M N with h | h
        · rw [Nat.min_eq_left h]
        · rw [Nat.min_eq_right h, List.take_of_length_le (by rw [HDL.out.1]; omega), List.take_of_length_le (by rw [HDL.out.1]; omega)]
      have CJ := Lib.hid (joined_any SL6 (by omega) (by rw [catL_one, hlq]; omega) (by rw [catL_one]; exact fun x hx => HDL.out.2 x (List.mem_of_mem_take hx)))
      rw [catL_one, hlq] at CJ
      have HTQ := Lib.hid htq
      have HB6 := Lib.hid (show Below w5.heap.size w5 w6 by rw [← hw6]; exact ((Below.refl _ _).alloc (Nat.le_refl _) _).drew)
      have HW6 := Lib.hid hw6
      have z0 := HN5.out.cell 0
      have z1 := HN5.out.cell 1
      have hZ6 := HN5.out.below HB6.out HN5.out.lt
      have K6 := Lib.hid (show w6.cell? ⟨w3.heap.size, 0, none⟩ = some (.int .u64 (pk : Int)) ∧ w6.cell? ⟨w3.heap.size, 1, none⟩ = some (.int .u64 (u : Int)) from ⟨hZ6.cell 0, hZ6.cell 1⟩)
      simp only [atC, List.getElem?_cons_zero, List.getElem?_cons_succ] at z0 z1
      clear hw6 SL6 hlq htq hZ6 hq
      go_region_held3 (fun w' => w'.cell? ⟨w3.heap.size, 0, none⟩ = some (.int .u64 (pk : Int)) ∧ w'.cell? ⟨w3.heap.size, 1, none⟩ = some (.int .u64 (u : Int)))
        (first | exact ⟨z0, z1⟩ | (rw [HW6.out]; exact K6.out) | with_reducible exact K7.out | with_reducible exact K8.out | fail)
        (first
          | (go_at_call 53; go_loud (rw [HW6.out]); go_loud (with_reducible refine Calls.mono CJ.out ?_); go_loud (rintro e w7 ⟨⟨A7, c7, l7, rfl, ho7, hv7⟩, hb7⟩); go_loud (have HB7 := Lib.hid (HB5.out.trans ((HB6.out.trans (hb7.mono HB6.out.size)).mono HB5.out.size))); go_loud (have HO7 := Lib.hid (ho7.base_ (base' := w1.heap.size) (Nat.le_trans HB5.out.size HB6.out.size))); go_loud (have HV7 := Lib.hid hv7); go_loud (have N7 := Lib.hid (HN5.out.below (HB6.out.trans (hb7.mono HB6.out.size)) HN5.out.lt)); go_loud (have K7 := Lib.hid (show w7.cell? ⟨w3.heap.size, 0, none⟩ = some (.int .u64 (pk : Int)) ∧ w7.cell? ⟨w3.heap.size, 1, none⟩ = some (.int .u64 (u : Int)) from ⟨N7.out.cell 0, N7.out.cell 1⟩)); go_loud (have hne : w3.heap.size ≠ w.heap.size + 1 := Nat.ne_of_gt (Nat.lt_of_lt_of_le HL1.out.lt HG4.out)); go_loud (have K8 := Lib.hid (far2 N7.out hne (.int .u64 (pk : Int)) (.int .u64 (u : Int)))); go_loud (clear ho7 hv7 hb7 hne); go_loud (have M := (HL1.out.below HB7.out HL1.out.lt)); go_loud (have r0 := M.cell 0); go_loud (have r1 := M.cell 1); go_loud (have f0 := M.frozen 0); go_loud (have f1 := M.frozen 1); go_loud (simp only [atC, List.getElem?_cons_zero, List.getElem?_cons_succ] at r0 r1); go_loud (clear M))
          | fail)
      go_wp2_with fail
      have R := res2 (HL1.out.below HB7.out HL1.out.lt) (HB1.out.trans (HB7.out.mono HB1.out.size)) (Nat.le_succ _) pk u
      have hz := HL1.out.lt
      exact ends_from _ _ pk u _ 0 rfl rfl rfl R.1 ⟨⟨A7, q, c7, l7, rfl, ((HO7.out.far1 (p := ⟨w.heap.size + 1, 0, none⟩) hz _).far1 (p := ⟨w.heap.size + 1, 1, none⟩) hz _).base_ HB1.out.size, by rw [HTQ.out]; exact HV7.out⟩, R.2⟩
end Go.Proofs.Ytgdcahakefmakaa
