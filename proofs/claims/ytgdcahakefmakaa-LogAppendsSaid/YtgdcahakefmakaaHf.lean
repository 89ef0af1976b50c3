/-
  LOGS, THE DOCUMENT'S ANSWER: whether a log has a place; a log in memory of its own.
-/
import Derived.Test.YtgdcahakefmakaaHe
namespace Go.Proofs.Ytgdcahakefmakaa
set_option linter.unusedVariables false
set_option linter.unusedSimpArgs false
open Go.RowKit Go.WideShapes Go.ChangeShapes Go.Deep Go.Shelf
attribute [local irreducible] wpQuiet

set_option maxRecDepth 100000 in
set_option maxHeartbeats 8000000 in
theorem refHas_any {w : World} {A : Option Addr} {n c : Nat} {l : List En} (hs : SqE w w.heap.size A n c l) (hn : n ≤ 1000) (i t : Nat) (hin : i + n < 18446744073709551616) (x u : Nat) :
    Calls Try.prog 34 #[lgV i t A n c, atV x u] w fun e w' => e = .returned (.bool (hasW ⟨i, t, vsE l⟩ x u)) ∧ Below w.heap.size w w' := by
  obtain ⟨w1, hw1⟩ : ∃ w1, ((w.alloc (.cells #[.int .u64 (i : Int), .int .u64 (t : Int), .slice A n c] 27)).alloc (.cells #[.int .u64 (x : Int), .int .u64 (u : Int)] 24)) = w1 := ⟨_, rfl⟩
  have L0 : Bl w1 (w.heap.size) 27 [.int .u64 (i : Int), .int .u64 (t : Int), .slice A n c] := by
    rw [← hw1]
    have h := Bl.new w 27 [.int .u64 (i : Int), .int .u64 (t : Int), .slice A n c]
    (try simp only [World.size_alloc] at h)
    exact (h.alloc _)
  have L1 : Bl w1 (w.heap.size + 1) 24 [.int .u64 (x : Int), .int .u64 (u : Int)] := by
    rw [← hw1]
    have h := Bl.new (w.alloc (.cells #[.int .u64 (i : Int), .int .u64 (t : Int), .slice A n c] 27)) 24 [.int .u64 (x : Int), .int .u64 (u : Int)]
    (try simp only [World.size_alloc] at h)
    exact h
  have B1 : Below w.heap.size w w1 := by
    rw [← hw1]
    exact (((Below.refl _ _).alloc (by simp <;> omega) _).alloc (by simp <;> omega) _)
  have Z1 : w1.heap.size = w.heap.size + 2 := by rw [← hw1]; simp
  have HW := Lib.hid hw1
  have HB1 := Lib.hid B1
  have HL1 := Lib.hid L1
  have CT := Lib.hid (show Calls Try.prog 31 #[.agg #[.int .u64 (i : Int), .int .u64 (t : Int), .slice A n c], .int .u64 (x : Int)] w1 _ from refTerm_any (hs.next (Nat.le_refl _) B1) hn i t hin x)
  have c0 := L0.cell 0
  have c1 := L0.cell 1
  have c2 := L0.cell 2
  have d0 := L1.cell 0
  have d1 := L1.cell 1
  simp only [List.getElem?_cons_zero, List.getElem?_cons_succ] at c0 c1 c2 d0 d1
  unfold hasW
  obtain ⟨r, hr⟩ : ∃ r, placeW ⟨i, t, vsE l⟩ x = r := ⟨_, rfl⟩
  rw [hr] at CT ⊢
  clear hw1 L0 L1 B1 Z1 hs hr hin
  rcases r with _ | v
  · go_enter Try.func34, Try.ntmps34
    go_upto_region 1 with fail
    rw [HW.out]
    go_wp2_with (first
      | (go_at_call 31; with_reducible refine Calls.mono CT.out ?_; rintro e w2 ⟨rfl, hb2⟩; have HB2 := Lib.hid (HB1.out.trans (hb2.mono HB1.out.size)); dsimp only [termV]; clear hb2 c0 c1 c2 d0 d1)
      | fail)
    go_ret
    exact ⟨rfl, HB2.out⟩
  · have e1 : (some v == some u) = ((v : Int) == (u : Int)) := by rw [beqN]; rfl
    rw [e1]
    go_enter Try.func34, Try.ntmps34
    go_upto_region 1 with fail
    rw [HW.out]
    go_wp2_with (first
      | (go_at_call 31; with_reducible refine Calls.mono CT.out ?_; rintro e w2 ⟨rfl, hb2⟩; have HB2 := Lib.hid (HB1.out.trans (hb2.mono HB1.out.size)); have M2 := HL1.out.below hb2 HL1.out.lt; dsimp only [termV]; clear hb2 c0 c1 c2 d0 d1; have d1 := M2.cell 1; simp only [List.getElem?_cons_zero, List.getElem?_cons_succ] at d1; clear M2)
      | fail)
    go_ret
    exact ⟨rfl, HB2.out⟩
set_option maxRecDepth 100000 in
set_option maxHeartbeats 8000000 in
theorem refCopy_any {w : World} {A : Option Addr} {n c : Nat} {es : List En} (hs : SqE w w.heap.size A n c es) (hn : n ≤ 1000) (heb : ∀ x ∈ es, EnB x) (i t : Nat) :
    Calls Try.prog 48 #[lgV i t A n c] w fun e w' => (∃ A' c' l', e = .returned (lgV i t A' n c') ∧ OwnM w' w.heap.size A' n c' l' ∧ vsE l' = vsE es) ∧ Below w.heap.size w w' := by
  obtain ⟨w1, hw1⟩ : ∃ w1, ((w.alloc (.cells #[.int .u64 (i : Int), .int .u64 (t : Int), .slice A n c] 27)).alloc (.cells #[.int .u64 0, .int .u64 0, .slice none 0 0] 27)) = w1 := ⟨_, rfl⟩
  have L0 : Bl w1 (w.heap.size) 27 [.int .u64 (i : Int), .int .u64 (t : Int), .slice A n c] := by
    rw [← hw1]
    have h := Bl.new w 27 [.int .u64 (i : Int), .int .u64 (t : Int), .slice A n c]
    (try simp only [World.size_alloc] at h)
    exact (h.alloc _)
  have L1 : Bl w1 (w.heap.size + 1) 27 [.int .u64 0, .int .u64 0, .slice none 0 0] := by
    rw [← hw1]
    have h := Bl.new (w.alloc (.cells #[.int .u64 (i : Int), .int .u64 (t : Int), .slice A n c] 27)) 27 [.int .u64 0, .int .u64 0, .slice none 0 0]
    (try simp only [World.size_alloc] at h)
    exact h
  have B1 : Below w.heap.size w w1 := by
    rw [← hw1]
    exact (((Below.refl _ _).alloc (by simp <;> omega) _).alloc (by simp <;> omega) _)
  have Z1 : w1.heap.size = w.heap.size + 2 := by rw [← hw1]; simp
  have HW := Lib.hid hw1
  have HL0 := Lib.hid L0
  have HL1 := Lib.hid (show Bl w1 (w.heap.size + 1) 27 (lgC 0 0 none 0 0) from L1)
  have HB1 := Lib.hid B1
  have HZ1 := Lib.hid Z1
  have CJ := Lib.hid (fun (w' : World) (hw : Below w1.heap.size w1 w') => (show Calls Try.prog 49 #[.slice A n c] w' _ from refEntries_any (w := w') (hs.next (Nat.le_refl _) (B1.trans (hw.mono B1.size))) hn heb))
  have HQ : Hid (∀ w', Below w1.heap.size w1 w' → w'.cell? ⟨w.heap.size, 0, none⟩ = some (.int .u64 (i : Int)) ∧ w'.cell? ⟨w.heap.size, 1, none⟩ = some (.int .u64 (t : Int)) ∧ w'.cell? ⟨w.heap.size, 2, none⟩ = some (.slice A n c)) := Lib.hid fun w' hw => by
    have := HL0.out.below hw HL0.out.lt
    exact ⟨this.cell 0, this.cell 1, this.cell 2⟩
  clear hw1 L0 L1 B1 Z1 hs
  go_enter Try.func48, Try.ntmps48
  go_upto_region 1 with fail
  rw [HW.out]
  have hbz := Below.refl w1.heap.size w1
  obtain ⟨q0, q1, q2⟩ := HQ.out _ hbz
  go_region_held3 (fun w' => w'.cell? ⟨w.heap.size, 0, none⟩ = some (.int .u64 (i : Int)) ∧ w'.cell? ⟨w.heap.size, 1, none⟩ = some (.int .u64 (t : Int)) ∧ w'.cell? ⟨w.heap.size, 2, none⟩ = some (.slice A n c))
    (first | exact ⟨q0, q1, q2⟩ | with_reducible exact K1.out | with_reducible exact K2.out | fail)
    (first
      | (go_at_call 49; go_loud (have T := CJ.out _ hbz.drew); go_loud (with_reducible refine Calls.mono T ?_); go_loud (clear T); go_loud (rintro e w2 ⟨⟨A2, c2, l2, rfl, ho2, hv2⟩, hb2⟩); go_loud (have hb5 := (show Below w1.heap.size w1 w2 from hbz.drew.trans (hb2.mono hbz.drew.size))); go_loud (have HB5 := Lib.hid hb5); go_loud (have K1 := Lib.hid (HQ.out _ hb5)); go_loud (have HO := Lib.hid (show OwnM w2 w1.heap.size A2 n c2 l2 from ho2)); go_loud (have HV := Lib.hid hv2); go_loud (have M2 := Lib.hid (HL1.out.below hb5 HL1.out.lt)); go_loud (have M0 := HL0.out.below hb5 HL0.out.lt); go_loud (have K2 := Lib.hid (far33 M0 (show w.heap.size ≠ w.heap.size + 1 by omega) (.int .u64 (i : Int)) (.int .u64 (t : Int)) (.slice A2 n c2))); go_loud (clear M0); go_loud (have r0 := M2.out.cell 0); go_loud (have r1 := M2.out.cell 1); go_loud (have r2 := M2.out.cell 2); go_loud (have f0 := M2.out.frozen 0); go_loud (have f1 := M2.out.frozen 1); go_loud (have f2 := M2.out.frozen 2); go_loud (simp only [lgC, List.getElem?_cons_zero, List.getElem?_cons_succ] at r0 r1 r2); go_loud (clear hb2 hb5 ho2 hv2))
      | fail)
  go_wp2_with fail
  have R := res3 (w1 := w1) M2.out (HB1.out.trans (HB5.out.mono HB1.out.size)) (Nat.le_succ _) i t A2 n c2
  refine bodyPost_ret (results_log rfl _ _ _ i t A2 n c2 rfl R.1) rfl ⟨⟨A2, c2, l2, rfl, ?_, HV.out⟩, R.2⟩
  exact (((HO.out.far1 (p := ⟨w.heap.size + 1, 0, none⟩) HL1.out.lt _).far1 (p := ⟨w.heap.size + 1, 1, none⟩) HL1.out.lt _).far1 (p := ⟨w.heap.size + 1, 2, none⟩) HL1.out.lt _).base_ HB1.out.size
end Go.Proofs.Ytgdcahakefmakaa
