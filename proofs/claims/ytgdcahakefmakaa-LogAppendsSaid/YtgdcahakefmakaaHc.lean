/-
  LOGS, THE DOCUMENT'S ANSWER: the last place.
-/
import Derived.Test.YtgdcahakefmakaaHb
namespace Go.Proofs.Ytgdcahakefmakaa
set_option linter.unusedVariables false
set_option linter.unusedSimpArgs false
open Go.RowKit Go.WideShapes Go.ChangeShapes Go.Deep Go.Shelf
attribute [local irreducible] wpQuiet

set_option maxRecDepth 100000 in
set_option maxHeartbeats 8000000 in
theorem refLast_any {w : World} {A : Option Addr} {n c : Nat} {l : List En} (hs : SqE w w.heap.size A n c l) (hn : n ≤ 1000) (i t : Nat) (hin : i + n < 18446744073709551616) :
    Calls Try.prog 23 #[lgV i t A n c] w fun e w' => e = .returned (atV (lastI ⟨i, t, vsE l⟩) (lastT t (vsE l))) ∧ Below w.heap.size w w' := by
  obtain ⟨w1, hw1⟩ : ∃ w1, ((w.alloc (.cells #[.int .u64 (i : Int), .int .u64 (t : Int), .slice A n c] 27)).alloc (.cells #[.int .u64 0, .int .u64 0] 24)) = w1 := ⟨_, rfl⟩
  have L0 : Bl w1 (w.heap.size) 27 [.int .u64 (i : Int), .int .u64 (t : Int), .slice A n c] := by
    rw [← hw1]
    have h := Bl.new w 27 [.int .u64 (i : Int), .int .u64 (t : Int), .slice A n c]
    (try simp only [World.size_alloc] at h)
    exact (h.alloc _)
  have L1 : Bl w1 (w.heap.size + 1) 24 [.int .u64 0, .int .u64 0] := by
    rw [← hw1]
    have h := Bl.new (w.alloc (.cells #[.int .u64 (i : Int), .int .u64 (t : Int), .slice A n c] 27)) 24 [.int .u64 0, .int .u64 0]
    (try simp only [World.size_alloc] at h)
    exact h
  have B1 : Below w.heap.size w w1 := by
    rw [← hw1]
    exact (((Below.refl _ _).alloc (by simp <;> omega) _).alloc (by simp <;> omega) _)
  have Z1 : w1.heap.size = w.heap.size + 2 := by rw [← hw1]; simp
  have HW := Lib.hid hw1
  have HB1 := Lib.hid B1
  have hlen := hs.len
  have c0 := L0.cell 0
  have c1 := L0.cell 1
  have c2 := L0.cell 2
  simp only [List.getElem?_cons_zero, List.getElem?_cons_succ] at c0 c1 c2
  have HL1 := Lib.hid L1
  have CP := Lib.hid (show Calls Try.prog 47 #[.agg #[.int .u64 (i : Int), .int .u64 (t : Int), .slice A n c], .int .i64 (n : Int)] w1 _ from refPlace_any (hs.next (Nat.le_refl _) B1) hn i t n (Nat.le_refl _) hin)
  have e0 : lastI ⟨i, t, vsE l⟩ = i + n := by unfold lastI; show i + (vsE l).length = _; rw [vsE_len, hlen]
  have e1 : (vsE l).take n = vsE l := List.take_of_length_le (by rw [vsE_len]; omega)
  rw [e1] at CP
  rw [e0]
  obtain ⟨s, hsn⟩ : ∃ s, i + n = s := ⟨_, rfl⟩
  obtain ⟨u, hu⟩ : ∃ u, lastT t (vsE l) = u := ⟨_, rfl⟩
  rw [hsn, hu] at CP ⊢
  have hn63 : (n : Int) ≤ 9223372036854775807 := by omega
  clear hw1 L0 L1 B1 Z1 hs e0 e1 hsn hu hin
  go_enter Try.func23, Try.ntmps23
  go_upto_region 1 with fail
  rw [HW.out]
  go_wp2_with (first
    | (go_at_call 47; with_reducible refine Calls.mono CP.out ?_; rintro e w2 ⟨rfl, hb2⟩; have HB2 := Lib.hid (HB1.out.trans (hb2.mono HB1.out.size)); have HL2 := Lib.hid (HL1.out.below hb2 HL1.out.lt); have f0 := HL2.out.frozen 0; have f1 := HL2.out.frozen 1; have d0 := HL2.out.cell 0; have d1 := HL2.out.cell 1; simp only [List.getElem?_cons_zero, List.getElem?_cons_succ] at d0 d1; clear hb2 c0 c1 c2)
    | fail)
  have R := res2 HL2.out HB2.out (Nat.le_succ _) s u
  exact bodyPost_ret (results_at rfl _ _ _ s u rfl R.1) rfl ⟨rfl, R.2⟩
end Go.Proofs.Ytgdcahakefmakaa
