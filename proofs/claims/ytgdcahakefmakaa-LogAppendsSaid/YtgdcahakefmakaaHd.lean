/-
  LOGS, THE DOCUMENT'S ANSWER: the Term of an index, whether a log has a place, which place is newer.
-/
import Derived.Test.YtgdcahakefmakaaHc
namespace Go.Proofs.Ytgdcahakefmakaa
set_option linter.unusedVariables false
set_option linter.unusedSimpArgs false
open Go.RowKit Go.WideShapes Go.ChangeShapes Go.Deep Go.Shelf
attribute [local irreducible] wpQuiet

set_option maxRecDepth 100000 in
set_option maxHeartbeats 8000000 in
theorem refNewer_any (F : Nat) (w : World) (i t k u : Nat) (hF : F = 30) :
    Calls Try.prog F #[atV i t, atV k u] w fun e w' => e = .returned (.bool (newerW i t k u)) ∧ Below w.heap.size w w' := by
  subst hF
  obtain ⟨w1, hw1⟩ : ∃ w1, ((w.alloc (.cells #[.int .u64 (i : Int), .int .u64 (t : Int)] 24)).alloc (.cells #[.int .u64 (k : Int), .int .u64 (u : Int)] 24)) = w1 := ⟨_, rfl⟩
  have L0 : Bl w1 (w.heap.size) 24 [.int .u64 (i : Int), .int .u64 (t : Int)] := by
    rw [← hw1]
    have h := Bl.new w 24 [.int .u64 (i : Int), .int .u64 (t : Int)]
    (try simp only [World.size_alloc] at h)
    exact (h.alloc _)
  have L1 : Bl w1 (w.heap.size + 1) 24 [.int .u64 (k : Int), .int .u64 (u : Int)] := by
    rw [← hw1]
    have h := Bl.new (w.alloc (.cells #[.int .u64 (i : Int), .int .u64 (t : Int)] 24)) 24 [.int .u64 (k : Int), .int .u64 (u : Int)]
    (try simp only [World.size_alloc] at h)
    exact h
  have B1 : Below w.heap.size w w1 := by
    rw [← hw1]
    exact (((Below.refl _ _).alloc (by simp <;> omega) _).alloc (by simp <;> omega) _)
  have Z1 : w1.heap.size = w.heap.size + 2 := by rw [← hw1]; simp
  have c0 := L0.cell 0
  have c1 := L0.cell 1
  have d0 := L1.cell 0
  have d1 := L1.cell 1
  simp only [List.getElem?_cons_zero, List.getElem?_cons_succ] at c0 c1 d0 d1
  have HW := Lib.hid hw1
  have HB1 := Lib.hid B1
  have e2 := beqN t u
  clear hw1 L0 L1 B1 Z1
  unfold newerW
  rcases h1 : decide (u < t) with _ | _
  · rcases h2 : (t == u) with _ | _
    · rw [h2] at e2
      have g1 : decide ((u : Int) < (t : Int)) = false := by simp at h1 ⊢; omega
      go_enter Try.func30, Try.ntmps30
      go_upto_region 1 with fail
      rw [HW.out]
      go_wp2_with fail
      go_ret
      exact ⟨by simp, HB1.out⟩
    · rw [h2] at e2
      have g1 : decide ((u : Int) < (t : Int)) = false := by simp at h1 ⊢; omega
      go_enter Try.func30, Try.ntmps30
      go_upto_region 1 with fail
      rw [HW.out]
      go_wp2_with fail
      go_ret
      exact ⟨by simp, HB1.out⟩
  · have g1 : decide ((u : Int) < (t : Int)) = true := by simp at h1 ⊢; omega
    go_enter Try.func30, Try.ntmps30
    go_upto_region 1 with fail
    rw [HW.out]
    go_wp2_with fail
    go_ret
    exact ⟨by simp, HB1.out⟩

set_option maxRecDepth 100000 in
set_option maxHeartbeats 8000000 in
theorem refTerm_any {w : World} {A : Option Addr} {n c : Nat} {l : List En} (hs : SqE w w.heap.size A n c l) (hn : n ≤ 1000) (i t : Nat) (hin : i + n < 18446744073709551616) (x : Nat) :
    Calls Try.prog 31 #[lgV i t A n c, .int .u64 (x : Int)] w fun e w' => e = .returned (termV (placeW ⟨i, t, vsE l⟩ x)) ∧ Below w.heap.size w w' := by
  obtain ⟨w1, hw1⟩ : ∃ w1, (w.alloc (.cells #[.int .u64 (i : Int), .int .u64 (t : Int), .slice A n c] 27)) = w1 := ⟨_, rfl⟩
  have L0 : Bl w1 (w.heap.size) 27 [.int .u64 (i : Int), .int .u64 (t : Int), .slice A n c] := by
    rw [← hw1]
    have h := Bl.new w 27 [.int .u64 (i : Int), .int .u64 (t : Int), .slice A n c]
    (try simp only [World.size_alloc] at h)
    exact h
  have B1 : Below w.heap.size w w1 := by
    rw [← hw1]
    exact ((Below.refl _ _).alloc (by simp <;> omega) _)
  have Z1 : w1.heap.size = w.heap.size + 1 := by rw [← hw1]; simp
  have HW := Lib.hid hw1
  have HB1 := Lib.hid B1
  have hlen := hs.len
  have HL0 := Lib.hid L0
  have HS := Lib.hid (fun (w' : World) (hw : Below w1.heap.size w1 w') => hs.next (Nat.le_refl _) (B1.trans (hw.mono B1.size)))
  have HIN := Lib.hid hin
  have CP := Lib.hid (fun (w' : World) (hw : Below w1.heap.size w1 w') (k : Nat) (hk : k ≤ n) (hik : i + k < 18446744073709551616) => (show Calls Try.prog 47 #[.agg #[.int .u64 (i : Int), .int .u64 (t : Int), .slice A n c], .int .i64 (k : Int)] w' _ from refPlace_any (HS.out w' hw) hn i t k hk hik))
  obtain ⟨r, hr⟩ : ∃ r, placeW ⟨i, t, vsE l⟩ x = r := ⟨_, rfl⟩
  rw [hr]
  have HR := Lib.hid hr
  have HLEN := Lib.hid hlen
  have c0 := L0.cell 0
  have c1 := L0.cell 1
  have c2 := L0.cell 2
  simp only [List.getElem?_cons_zero, List.getElem?_cons_succ] at c0 c1 c2
  clear hw1 L0 B1 Z1 hs hr hin
  go_enter Try.func31, Try.ntmps31
  go_upto_region 1 with fail
  rw [HW.out]
  go_wp2_with fail
  clear c0 c1 c2
  go_loopw [12] (fun v wr => ∃ k : Nat, k ≤ n + 1 ∧ v = .int .i64 (k : Int) ∧ Hid (∀ j, j < k → i + j ≠ x) ∧ Hid (Below w1.heap.size w1 wr)) (fun v _ => n + 1 - (intOf v).toNat)
  case atStart => exact ⟨0, Nat.zero_le _, rfl, Lib.hid (fun j h => absurd h (by omega)), Lib.hid (Below.refl _ _)⟩
  case round =>
    obtain ⟨k, hk, rfl, hj, hbr⟩ := hrel
    have hk0 : (0 : Int) ≤ (k : Int) := Int.natCast_nonneg _
    have M := HL0.out.below hbr.out HL0.out.lt
    have c0 := M.cell 0
    have c1 := M.cell 1
    have c2 := M.cell 2
    simp only [List.getElem?_cons_zero, List.getElem?_cons_succ] at c0 c1 c2
    clear M
    by_cases hlt : k < n + 1
    · have hd : decide ((k : Int) < (n : Int) + 1) = true := by simp; omega
      have DP := Lib.hid (CP.out _ hbr.out k (by omega) (by have := HIN.out; omega))
      obtain ⟨s, hsk⟩ : ∃ s, i + k = s := ⟨_, rfl⟩
      obtain ⟨u, hu⟩ : ∃ u, lastT t ((vsE l).take k) = u := ⟨_, rfl⟩
      rw [hsk, hu] at DP
      have HSK := Lib.hid hsk
      have HU := Lib.hid hu
      clear hsk hu
      go_upto_region 5 with (first
        | (go_at_call 47; with_reducible refine Calls.mono DP.out ?_; rintro e w2 ⟨rfl, hb2⟩; have HB2 := Lib.hid (hbr.out.trans (hb2.mono hbr.out.size)); clear hb2 c0 c1 c2)
        | fail)
      obtain ⟨w3, hw3⟩ : ∃ w3, w2.alloc (.cells #[.int .u64 (s : Int), .int .u64 (u : Int)] 24) = w3 := ⟨_, rfl⟩
      have Y := Bl.new w2 24 (atC s u)
      have Y2 : w2.alloc (.cells (atC s u).toArray 24) = w3 := hw3
      rw [Y2] at Y
      have HB3 := Lib.hid (show Below w1.heap.size w1 w3 by rw [← hw3]; exact HB2.out.alloc HB2.out.size _)
      rw [hw3]
      have y0 := Y.cell 0
      have y1 := Y.cell 1
      simp only [atC, List.getElem?_cons_zero, List.getElem?_cons_succ] at y0 y1
      clear Y Y2 hw3
      by_cases hsx : s = x
      · obtain rfl : r = some u := by
          rw [← HR.out, ← HU.out]
          have h1 := HSK.out
          have h2 : placeW ⟨i, t, vsE l⟩ x = some (lastT t ((vsE l).take (x - i))) := placeW_at (show i ≤ x by omega) (by unfold lastI; show x ≤ i + (vsE l).length; rw [vsE_len, HLEN.out]; omega)
          rw [h2, show x - i = k by omega]
        subst hsx
        have dsx : ((s : Int) == (s : Int)) = true := by simp
        go_wp2_with fail
        go_ret2
        exact ⟨rfl, HB1.out.trans (HB3.out.mono HB1.out.size)⟩
      · have dsx : ((s : Int) == (x : Int)) = false := by simp; omega
        have HJ2 := Lib.hid (show ∀ j, j < k + 1 → i + j ≠ x from fun j h => by
          by_cases e : j = k
          · have := HSK.out
            omega
          · exact hj.out j (by omega))
        clear hsx
        go_wp2_with fail
        go_roundw
        case rel => exact ⟨k + 1, by omega, by go_num, HJ2, HB3⟩
        case measure => simp [intOf]; omega
    · have hd : decide ((k : Int) < (n : Int) + 1) = false := by simp; omega
      obtain rfl : r = none := by
        rw [← HR.out]
        refine placeW_none.2 ?_
        show x < i ∨ lastI ⟨i, t, vsE l⟩ < x
        unfold lastI
        show x < i ∨ i + (vsE l).length < x
        rw [vsE_len, HLEN.out]
        rcases Nat.lt_or_ge x i with h | h
        · exact .inl h
        · right
          rcases Nat.lt_or_ge (i + n) x with h2 | h2
          · exact h2
          · exact absurd (show i + (x - i) = x by omega) (hj.out (x - i) (by omega))
      go_wp2_with fail
      go_ret2
      exact ⟨rfl, HB1.out.trans (hbr.out.mono HB1.out.size)⟩
end Go.Proofs.Ytgdcahakefmakaa
