/-
  LOGS, THE DOCUMENT'S ANSWER: a place and a cut of whatever log, if it may be or not.
-/
import Derived.Test.YtgdcahakefmakaaSb
namespace Go.Proofs.Ytgdcahakefmakaa
set_option linter.unusedVariables false
set_option linter.unusedSimpArgs false
open Go.RowKit Go.WideShapes Go.ChangeShapes Go.Deep Go.Shelf
attribute [local irreducible] wpQuiet
set_option maxRecDepth 100000 in
set_option maxHeartbeats 8000000 in
theorem refPlaceW_any {w : World} {A : Option Addr} {n c : Nat} {l : List En} (hs : SqE w w.heap.size A n c l) (hn : n ≤ 1000) (i t k : Nat) (hk : k ≤ n) :
    Calls Try.prog 47 #[lgV i t A n c, .int .i64 (k : Int)] w fun e w' => (∃ s u : Nat, e = .returned (atV s u)) ∧ Below w.heap.size w w' := by
  obtain ⟨w1, hw1⟩ : ∃ w1, ((w.alloc (.cells #[.int .u64 (i : Int), .int .u64 (t : Int), .slice A n c] 27)).alloc (.cells #[.int .u64 0, .int .u64 0] 24)) = w1 := ⟨_, rfl⟩
  have L0 : Bl w1 (w.heap.size) 27 [.int .u64 (i : Int), .int .u64 (t : Int), .slice A n c] := by
    rw [← hw1]
    have h := Bl.new w 27 [.int .u64 (i : Int), .int .u64 (t : Int), .slice A n c]
    (try simp only [World.size_alloc] at h)
    exact (h.alloc _)
  have L1 : Bl w1 (w.heap.size + 1) 24 [.int .u64 0, .int .u64 0] := by
    rw [← hw1]
    have h := Bl.new (w.alloc (.cells #[.int .u64 (i : Int), .int .u64 (t : Int), .slice A n c] 27)) 24 [.int .u64 0, .int .u64 0]
    (try simp only [World.size_alloc] at h)
    exact h
  have B1 : Below w.heap.size w w1 := by
    rw [← hw1]
    exact (((Below.refl _ _).alloc (by simp <;> omega) _).alloc (by simp <;> omega) _)
  have Z1 : w1.heap.size = w.heap.size + 2 := by rw [← hw1]; simp
  have HW := Lib.hid hw1
  have HB1 := Lib.hid B1
  have hlen := hs.len
  have c0 := L0.cell 0
  have c1 := L0.cell 1
  have c2 := L0.cell 2
  have d0 := L1.cell 0
  have d1 := L1.cell 1
  have f0 := L1.frozen 0
  have f1 := L1.frozen 1
  simp only [List.getElem?_cons_zero, List.getElem?_cons_succ] at c0 c1 c2 d0 d1
  have HL1 := Lib.hid L1
  rcases Nat.eq_zero_or_pos k with h0 | h0
  · subst h0
    clear hw1 L0 L1 B1 Z1 hs
    go_enter Try.func47, Try.ntmps47
    go_upto_region 1 with fail
    rw [HW.out]
    go_wp2_with fail
    have R := res2 HL1.out HB1.out (Nat.le_succ _) i t
    refine bodyPost_ret (results_at rfl _ _ _ i t rfl R.1) rfl ⟨⟨i, t, rfl⟩, R.2⟩
  · have hkl : k - 1 < l.length := by omega
    obtain ⟨b, o, rfl, hbl, hrg0⟩ := hs.s.at_ (i := k - 1) (by omega)
    have hrg := rangeAt_keep hrg0 (B1.block b hbl)
    have hn0 : w.heap.size ≠ w.heap.size + 1 := by omega
    have hnb : b ≠ w.heap.size + 1 := by omega
    obtain ⟨u, hu⟩ : ∃ u, lastT t ((vsE l).take k) = u := ⟨_, rfl⟩
    have hxu : (l[k - 1]).t = u := by
      have hv : k - 1 < (vsE l).length := by rw [vsE_len]; exact hkl
      have := lastT_take (f := t) hv
      rw [show k - 1 + 1 = k by omega, hu] at this
      rw [this]
      simp [vsE]
      rfl
    obtain ⟨j, hj⟩ : ∃ j, k - 1 = j := ⟨_, rfl⟩
    obtain ⟨s, hsk⟩ : ∃ s, (i + k) % 18446744073709551616 = s := ⟨_, rfl⟩
    have r0 : w1.cell? ⟨b, o + j * 3, none⟩ = some (.int .u64 (u : Int)) := by
      have := hrg 0 _ rfl
      rw [hxu, hj] at this
      simpa using this
    have hwj2 : IntKind.i64.wrap ((k : Int) - 1) = (j : Int) := by rw [IntWalk.i64_in _ (by omega)]; omega
    have hws : IntKind.u64.wrap ((i : Int) + (k : Int)) = (s : Int) := by show ((i : Int) + (k : Int)) % 18446744073709551616 = _; omega
    have hwk : IntKind.u64.wrap (k : Int) = (k : Int) := by show (k : Int) % 18446744073709551616 = _; omega
    have hj0 : (0 : Int) ≤ (j : Int) := Int.natCast_nonneg _
    have hj1 : (j : Int) < (n : Int) := by omega
    have dk : ((k : Int) == 0) = false := by simp; omega
    clear hw1 L0 L1 B1 Z1 hs hbl hrg hrg0 hu hxu hkl hsk hj
    go_enter Try.func47, Try.ntmps47
    go_upto_region 1 with fail
    rw [HW.out]
    go_upto_region 3 with fail
    go_region_held3 (fun w' => w'.cell? ⟨w.heap.size, 0, none⟩ = some (.int .u64 (i : Int)) ∧ w'.cell? ⟨w.heap.size, 2, none⟩ = some (.slice (some ⟨b, o, none⟩) n c) ∧ w'.cell? ⟨b, o + j * 3, none⟩ = some (.int .u64 (u : Int)))
      (first | exact ⟨c0, c2, r0⟩ | exact ⟨cell_far (cell_far c0 hn0) hn0, cell_far (cell_far c2 hn0) hn0, cell_far (cell_far r0 hnb) hnb⟩ | fail)
      (fail)
    all_goals (
      (try go_wp2_with fail)
      have R := res2 HL1.out HB1.out (Nat.le_succ _) s u
      refine bodyPost_ret (results_at rfl _ _ _ s u rfl ?_) rfl ⟨⟨s, u, rfl⟩, ?_⟩
      · exact R.1
      · first | exact R.2 | exact R.2.drew | exact below_drewN R.2 _)
set_option maxRecDepth 100000 in
set_option maxHeartbeats 8000000 in
theorem refCompactW_any {w : World} {A : Option Addr} {n c : Nat} {l : List En} (hs : SqE w w.heap.size A n c l) (hn : n ≤ 1000) (heb : ∀ x ∈ l, EnB x) (i t : Nat) (x : Nat) :
    Calls Try.prog 22 #[lgV i t A n c, .int .u64 (x : Int)] w fun e w' => (∃ (i2 t2 : Nat) (A2 : Option Addr) (n2 c2 : Nat) (r2 : Bool), e = .returned (.tuple #[lgV i2 t2 A2 n2 c2, .bool r2])) ∧ Below w.heap.size w w' := by
  obtain ⟨w1, hw1⟩ : ∃ w1, ((w.alloc (.cells #[.int .u64 (i : Int), .int .u64 (t : Int), .slice A n c] 27)).alloc (.cells #[.int .u64 0, .int .u64 0, .slice none 0 0] 27)) = w1 := ⟨_, rfl⟩
  have L0 : Bl w1 (w.heap.size) 27 [.int .u64 (i : Int), .int .u64 (t : Int), .slice A n c] := by
    rw [← hw1]
    have h := Bl.new w 27 [.int .u64 (i : Int), .int .u64 (t : Int), .slice A n c]
    (try simp only [World.size_alloc] at h)
    exact (h.alloc _)
  have L1 : Bl w1 (w.heap.size + 1) 27 [.int .u64 0, .int .u64 0, .slice none 0 0] := by
    rw [← hw1]
    have h := Bl.new (w.alloc (.cells #[.int .u64 (i : Int), .int .u64 (t : Int), .slice A n c] 27)) 27 [.int .u64 0, .int .u64 0, .slice none 0 0]
    (try simp only [World.size_alloc] at h)
    exact h
  have B1 : Below w.heap.size w w1 := by
    rw [← hw1]
    exact (((Below.refl _ _).alloc (by simp <;> omega) _).alloc (by simp <;> omega) _)
  have Z1 : w1.heap.size = w.heap.size + 2 := by rw [← hw1]; simp
  have HW := Lib.hid hw1
  have HB1 := Lib.hid B1
  have hlen := hs.len
  have HL0 := Lib.hid L0
  have HL1 := Lib.hid (show Bl w1 (w.heap.size + 1) 27 (lgC 0 0 none 0 0) from L1)
  have HS := Lib.hid (fun (w' : World) (hw : Below w1.heap.size w1 w') => hs.next (Nat.le_refl _) (B1.trans (hw.mono B1.size)))
  have HEB := Lib.hid heb
  have HCAP := Lib.hid (show n ≤ c ∧ c ≤ maxLen ∧ (A = none → c = 0) from ⟨hs.s.cap, hs.s.max, hs.s.non⟩)
  have CP := Lib.hid (fun (w' : World) (hw : Below w1.heap.size w1 w') (k : Nat) (hk : k ≤ n) => (show Calls Try.prog 47 #[.agg #[.int .u64 (i : Int), .int .u64 (t : Int), .slice A n c], .int .i64 (k : Int)] w' _ from refPlaceW_any (HS.out w' hw) hn i t k hk))
  have HLEN := Lib.hid hlen
  have c0 := L0.cell 0
  have c1 := L0.cell 1
  have c2 := L0.cell 2
  simp only [List.getElem?_cons_zero, List.getElem?_cons_succ] at c0 c1 c2
  clear hw1 L0 L1 B1 Z1 hs heb
  go_enter Try.func22, Try.ntmps22
  go_upto_region 1 with fail
  rw [HW.out]
  go_wp2_with fail
  clear c0 c1 c2
  go_loopw [12] (fun v wr => ∃ k : Nat, k ≤ n + 1 ∧ v = .int .i64 (k : Int) ∧ Hid (Below w1.heap.size w1 wr)) (fun v _ => n + 1 - (intOf v).toNat)
  case atStart => exact ⟨0, Nat.zero_le _, rfl, Lib.hid (Below.refl _ _)⟩
  case round =>
    obtain ⟨k, hk, rfl, hbr⟩ := hrel
    have hk0 : (0 : Int) ≤ (k : Int) := Int.natCast_nonneg _
    have M := HL0.out.below hbr.out HL0.out.lt
    have c0 := M.cell 0
    have c1 := M.cell 1
    have c2 := M.cell 2
    simp only [List.getElem?_cons_zero, List.getElem?_cons_succ] at c0 c1 c2
    clear M
    by_cases hlt : k < n + 1
    · have hd : decide ((k : Int) < (n : Int) + 1) = true := by simp; omega
      have DP := Lib.hid (CP.out _ hbr.out k (by omega))
      go_upto_region 5 with (first
        | (go_at_call 47; with_reducible refine Calls.mono DP.out ?_; rintro e w2 ⟨⟨s, u, rfl⟩, hb2⟩; have HB2 := Lib.hid (hbr.out.trans (hb2.mono hbr.out.size)); clear hb2 c0 c1 c2)
        | fail)
      obtain ⟨w3, hw3⟩ : ∃ w3, w2.alloc (.cells #[.int .u64 (s : Int), .int .u64 (u : Int)] 24) = w3 := ⟨_, rfl⟩
      have Y := Bl.new w2 24 (atC s u)
      have Y2 : w2.alloc (.cells (atC s u).toArray 24) = w3 := hw3
      rw [Y2] at Y
      have HY := Lib.hid Y
      have HG := Lib.hid (show w1.heap.size ≤ w2.heap.size from HB2.out.size)
      have HB3 := Lib.hid (show Below w1.heap.size w1 w3 by rw [← hw3]; exact HB2.out.alloc HB2.out.size _)
      rw [hw3]
      have y0 := Y.cell 0
      have y1 := Y.cell 1
      simp only [atC, List.getElem?_cons_zero, List.getElem?_cons_succ] at y0 y1
      clear Y Y2 hw3
      have M3 := HL0.out.below HB3.out HL0.out.lt
      have c0 := M3.cell 0
      have c1 := M3.cell 1
      have c2 := M3.cell 2
      simp only [List.getElem?_cons_zero, List.getElem?_cons_succ] at c0 c1 c2
      clear M3
      by_cases hsx : s = x
      · subst hsx
        have dsx : ((s : Int) == (s : Int)) = true := by simp
        have hkn : k ≤ n := by omega
        go_upto_region 6 with fail
        have KS := Lib.hid (fun (W : World) (hw : Below w3.heap.size w3 W) => (show W.cell? ⟨w.heap.size, 2, none⟩ = some (.slice A n c) ∧ W.cell? ⟨w2.heap.size, 0, none⟩ = some (.int .u64 (s : Int)) ∧ W.cell? ⟨w2.heap.size, 1, none⟩ = some (.int .u64 (u : Int)) from
          ⟨(HL0.out.below (HB3.out.trans (hw.mono HB3.out.size)) HL0.out.lt).cell 2, (HY.out.below hw HY.out.lt).cell 0, (HY.out.below hw HY.out.lt).cell 1⟩))
        have K0 := Lib.hid (KS.out _ (Below.refl _ _).drew)
        have hcap := HCAP.out.1
        have hk1 : (k : Int) ≤ (n : Int) := by omega
        have hk2 : (n : Int) ≤ (c : Int) := by omega
        have hk3 : (k : Int) ≤ (c : Int) := by omega
        obtain ⟨A5, hA5⟩ : ∃ A5, (if c = k then A else Option.map (fun x => x.add (k * 3)) A) = A5 := ⟨_, rfl⟩
        have CC := Lib.hid (fun (W : World) (hw : Below w3.heap.size w3 W) => (show Calls Try.prog 48 #[.agg #[.int .u64 (s : Int), .int .u64 (u : Int), .slice A5 (n - k) (c - k)]] W _ from hA5 ▸ refCopy_any ((HS.out W (HB3.out.trans (hw.mono HB3.out.size))).cut hkn) (by omega) (fun y hy => HEB.out y (List.mem_of_mem_drop hy)) s u))
        have FAR := Lib.hid (fun (W : World) (u0 u1 u2 : Value) (h : W.cell? ⟨w.heap.size, 2, none⟩ = some (.slice A n c) ∧ W.cell? ⟨w2.heap.size, 0, none⟩ = some (.int .u64 (s : Int)) ∧ W.cell? ⟨w2.heap.size, 1, none⟩ = some (.int .u64 (u : Int))) =>
          (show (((W.setCell ⟨w.heap.size + 1, 0, none⟩ u0).setCell ⟨w.heap.size + 1, 1, none⟩ u1).setCell ⟨w.heap.size + 1, 2, none⟩ u2).cell? ⟨w.heap.size, 2, none⟩ = some (.slice A n c) ∧ (((W.setCell ⟨w.heap.size + 1, 0, none⟩ u0).setCell ⟨w.heap.size + 1, 1, none⟩ u1).setCell ⟨w.heap.size + 1, 2, none⟩ u2).cell? ⟨w2.heap.size, 0, none⟩ = some (.int .u64 (s : Int)) ∧ (((W.setCell ⟨w.heap.size + 1, 0, none⟩ u0).setCell ⟨w.heap.size + 1, 1, none⟩ u1).setCell ⟨w.heap.size + 1, 2, none⟩ u2).cell? ⟨w2.heap.size, 1, none⟩ = some (.int .u64 (u : Int)) from by
            have e1 : w.heap.size ≠ w.heap.size + 1 := by omega
            have e2 : w2.heap.size ≠ w.heap.size + 1 := by have := HL1.out.lt; have := HG.out; omega
            exact ⟨cell_far (cell_far (cell_far h.1 e1) e1) e1, cell_far (cell_far (cell_far h.2.1 e2) e2) e2, cell_far (cell_far (cell_far h.2.2 e2) e2) e2⟩))
        go_region_held3 (fun w' => w'.cell? ⟨w.heap.size, 2, none⟩ = some (.slice A n c) ∧ w'.cell? ⟨w2.heap.size, 0, none⟩ = some (.int .u64 (s : Int)) ∧ w'.cell? ⟨w2.heap.size, 1, none⟩ = some (.int .u64 (u : Int)))
          (first | with_reducible exact K0.out | with_reducible exact K1.out | with_reducible exact K2.out | fail)
          (first
            | (go_at_call 48; go_loud (with_reducible refine Calls.mono (CC.out _ (Below.refl _ _).drew) ?_); go_loud (rintro e w4 ⟨⟨A4, c4, l4, rfl, ho4, hv4⟩, hb4⟩); go_loud (have hb5 : Below w3.heap.size w3 w4 := (Below.refl w3.heap.size w3).drew.trans (hb4.mono (Nat.le_refl _))); go_loud (have K1 := Lib.hid (KS.out _ hb5)); go_loud (have HB5 := Lib.hid (HB3.out.trans (hb5.mono HB3.out.size))); go_loud (have HO := Lib.hid (ho4.base_ (base' := w1.heap.size) HB3.out.size)); go_loud (have HV := Lib.hid hv4); go_loud (have M2 := Lib.hid (HL1.out.below HB5.out HL1.out.lt)); go_loud (have K2 := Lib.hid (FAR.out _ (.int .u64 (s : Int)) (.int .u64 (u : Int)) (.slice A4 (n - k) c4) K1.out)); go_loud (have r0 := M2.out.cell 0); go_loud (have r1 := M2.out.cell 1); go_loud (have r2 := M2.out.cell 2); go_loud (have f0 := M2.out.frozen 0); go_loud (have f1 := M2.out.frozen 1); go_loud (have f2 := M2.out.frozen 2); go_loud (simp only [lgC, List.getElem?_cons_zero, List.getElem?_cons_succ] at r0 r1 r2); go_loud (clear hb4 hb5 ho4 hv4))
            | fail)
        go_wp2_with fail
        have R := res3 (w1 := w1) M2.out (HB1.out.trans (HB5.out.mono HB1.out.size)) (Nat.le_succ _) s u A4 (n - k) c4
        exact ends_rcompact _ _ s u A4 (n - k) c4 true rfl rfl R.1 ⟨⟨_, _, _, _, _, _, rfl⟩, R.2⟩
      · have dsx : ((s : Int) == (x : Int)) = false := by simp; omega
        clear hsx
        go_wp2_with fail
        go_roundw
        case rel => exact ⟨k + 1, by omega, by go_num, HB3⟩
        case measure => simp [intOf]; omega
    · have hd : decide ((k : Int) < (n : Int) + 1) = false := by simp; omega
      have M := HL1.out.below hbr.out HL1.out.lt
      have r0 := M.cell 0
      have r1 := M.cell 1
      have r2 := M.cell 2
      have f0 := M.frozen 0
      have f1 := M.frozen 1
      have f2 := M.frozen 2
      simp only [lgC, List.getElem?_cons_zero, List.getElem?_cons_succ] at r0 r1 r2
      clear M
      go_wp2_with fail
      have R := res3 (w1 := w1) (HL1.out.below hbr.out HL1.out.lt) (HB1.out.trans (hbr.out.mono HB1.out.size)) (Nat.le_succ _) 0 0 none 0 0
      exact ends_rcompact _ _ 0 0 none 0 0 false rfl rfl R.1 ⟨⟨_, _, _, _, _, _, rfl⟩, R.2⟩
end Go.Proofs.Ytgdcahakefmakaa
