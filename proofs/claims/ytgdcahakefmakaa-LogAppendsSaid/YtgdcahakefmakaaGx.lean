/-
  THE LAWS' OWN: a log, copied; the chapter's log.
-/
import Derived.Test.YtgdcahakefmakaaGw
namespace Go.Proofs.Ytgdcahakefmakaa
set_option linter.unusedVariables false
set_option linter.unusedSimpArgs false
open Go.RowKit Go.WideShapes Go.ChangeShapes Go.Deep Go.Shelf
attribute [local irreducible] wpQuiet

theorem OwnM.far1 {w : World} {base n c : Nat} {A : Option Addr} {l : List En} (h : OwnM w base A n c l) {p : Addr} (hp : p.block < base) (v : Value) : OwnM (w.setCell p v) base A n c l := by
  have key : ∀ {e : TypeId} {k m : Nat} {u : Value} {xs : List Value}, w.ownsRow base e k u m xs → (w.setCell p v).ownsRow base e k u m xs := fun {e k m u xs} h => by
    refine h.kept (row := some p.block) (only_set (only_refl w (some p.block)) rfl v) ?_
    rcases hq : u.ownBlock with _ | g
    · exact .inl rfl
    · right
      have := (h.lt g hq).1
      intro e'
      injection e' with e'
      omega
  exact ⟨key h.row, fun x hx => key (h.f x hx), h.b⟩
theorem far33 {W : World} {b B : Nat} {x y z : Value} {ty : TypeId} (h : Bl W b ty [x, y, z]) (hn : b ≠ B) (u v s : Value) : (((W.setCell ⟨B, 0, none⟩ u).setCell ⟨B, 1, none⟩ v).setCell ⟨B, 2, none⟩ s).cell? ⟨b, 0, none⟩ = some x ∧ (((W.setCell ⟨B, 0, none⟩ u).setCell ⟨B, 1, none⟩ v).setCell ⟨B, 2, none⟩ s).cell? ⟨b, 1, none⟩ = some y ∧ (((W.setCell ⟨B, 0, none⟩ u).setCell ⟨B, 1, none⟩ v).setCell ⟨B, 2, none⟩ s).cell? ⟨b, 2, none⟩ = some z := by
  have M := ((h.far (p := ⟨B, 0, none⟩) hn u).far (p := ⟨B, 1, none⟩) hn v).far (p := ⟨B, 2, none⟩) hn s
  exact ⟨M.cell 0, M.cell 1, M.cell 2⟩
set_option maxRecDepth 100000 in
set_option maxHeartbeats 2000000 in
theorem short_any {w : World} {A : Option Addr} {n c : Nat} {es : List En} (hs : SqE w w.heap.size A n c es) (i t : Nat) :
    Calls Try.prog 11 #[lgV i t A n c] w fun e w' => (∃ A' c' l', e = .returned (lgV i t A' (min 17 n) c') ∧ OwnM w' w.heap.size A' (min 17 n) c' l' ∧ vsE l' = capL 17 (vsE es)) ∧ Below w.heap.size w w' := by
  obtain ⟨w1, hw1⟩ : ∃ w1, ((w.alloc (.cells #[.int .u64 (i : Int), .int .u64 (t : Int), .slice A n c] 27)).alloc (.cells #[.int .u64 0, .int .u64 0, .slice none 0 0] 27)) = w1 := ⟨_, rfl⟩
  have L0 : Bl w1 (w.heap.size) 27 [.int .u64 (i : Int), .int .u64 (t : Int), .slice A n c] := by
    rw [← hw1]
    have h := Bl.new w 27 [.int .u64 (i : Int), .int .u64 (t : Int), .slice A n c]
    (try simp only [World.size_alloc] at h)
    exact (h.alloc _)
  have L1 : Bl w1 (w.heap.size + 1) 27 [.int .u64 0, .int .u64 0, .slice none 0 0] := by
    rw [← hw1]
    have h := Bl.new (w.alloc (.cells #[.int .u64 (i : Int), .int .u64 (t : Int), .slice A n c] 27)) 27 [.int .u64 0, .int .u64 0, .slice none 0 0]
    (try simp only [World.size_alloc] at h)
    exact h
  have B1 : Below w.heap.size w w1 := by
    rw [← hw1]
    exact (((Below.refl _ _).alloc (by simp <;> omega) _).alloc (by simp <;> omega) _)
  have Z1 : w1.heap.size = w.heap.size + 2 := by rw [← hw1]; simp
  have HW := Lib.hid hw1
  have HL0 := Lib.hid L0
  have HL1 := Lib.hid (show Bl w1 (w.heap.size + 1) 27 (lgC 0 0 none 0 0) from L1)
  have HB1 := Lib.hid B1
  have HZ1 := Lib.hid Z1
  have CJ := Lib.hid (fun (w' : World) (hw : Below w1.heap.size w1 w') => (show Calls Try.prog 12 #[.slice A n c, .int .i64 17] w' _ from entries_any (w := w') (hs.next (Nat.le_refl _) (B1.trans (hw.mono B1.size))) 17 (by omega)))
  obtain ⟨N, hN⟩ : ∃ N, min 17 n = N := ⟨_, rfl⟩
  rw [hN] at CJ ⊢
  have HQ : Hid (∀ w', Below w1.heap.size w1 w' → w'.cell? ⟨w.heap.size, 0, none⟩ = some (.int .u64 (i : Int)) ∧ w'.cell? ⟨w.heap.size, 1, none⟩ = some (.int .u64 (t : Int)) ∧ w'.cell? ⟨w.heap.size, 2, none⟩ = some (.slice A n c)) := Lib.hid fun w' hw => by
    have := HL0.out.below hw HL0.out.lt
    exact ⟨this.cell 0, this.cell 1, this.cell 2⟩
  clear hw1 L0 L1 B1 Z1 hs hN
  go_enter Try.func11, Try.ntmps11
  go_upto_region 1 with fail
  rw [HW.out]
  have hbz := Below.refl w1.heap.size w1
  obtain ⟨q0, q1, q2⟩ := HQ.out _ hbz
  go_region_held3 (fun w' => w'.cell? ⟨w.heap.size, 0, none⟩ = some (.int .u64 (i : Int)) ∧ w'.cell? ⟨w.heap.size, 1, none⟩ = some (.int .u64 (t : Int)) ∧ w'.cell? ⟨w.heap.size, 2, none⟩ = some (.slice A n c))
    (first | exact ⟨q0, q1, q2⟩ | with_reducible exact K1.out | with_reducible exact K2.out | fail)
    (first
      | (go_at_call 12; go_loud (have T := CJ.out _ hbz.drew); go_loud (with_reducible refine Calls.mono T ?_); go_loud (clear T); go_loud (rintro e w2 ⟨⟨A2, c2, l2, rfl, ho2, hv2⟩, hb2⟩); go_loud (have hb5 := (show Below w1.heap.size w1 w2 from hbz.drew.trans (hb2.mono hbz.drew.size))); go_loud (have HB5 := Lib.hid hb5); go_loud (have K1 := Lib.hid (HQ.out _ hb5)); go_loud (have HO := Lib.hid (show OwnM w2 w1.heap.size A2 N c2 l2 from ho2)); go_loud (have HV := Lib.hid hv2); go_loud (have M2 := Lib.hid (HL1.out.below hb5 HL1.out.lt)); go_loud (have M0 := HL0.out.below hb5 HL0.out.lt); go_loud (have K2 := Lib.hid (far33 M0 (show w.heap.size ≠ w.heap.size + 1 by omega) (.int .u64 (i : Int)) (.int .u64 (t : Int)) (.slice A2 N c2))); go_loud (clear M0); go_loud (have r0 := M2.out.cell 0); go_loud (have r1 := M2.out.cell 1); go_loud (have r2 := M2.out.cell 2); go_loud (have f0 := M2.out.frozen 0); go_loud (have f1 := M2.out.frozen 1); go_loud (have f2 := M2.out.frozen 2); go_loud (simp only [lgC, List.getElem?_cons_zero, List.getElem?_cons_succ] at r0 r1 r2); go_loud (clear hb2 hb5 ho2 hv2))
      | fail)
  go_wp2_with fail
  have R := res3 (w1 := w1) M2.out (HB1.out.trans (HB5.out.mono HB1.out.size)) (Nat.le_succ _) i t A2 N c2
  refine bodyPost_ret (results_log rfl _ _ _ i t A2 N c2 rfl R.1) rfl ⟨⟨A2, c2, l2, rfl, ?_, HV.out⟩, R.2⟩
  exact (((HO.out.far1 (p := ⟨w.heap.size + 1, 0, none⟩) HL1.out.lt _).far1 (p := ⟨w.heap.size + 1, 1, none⟩) HL1.out.lt _).far1 (p := ⟨w.heap.size + 1, 2, none⟩) HL1.out.lt _).base_ HB1.out.size
/-- The chapter's log. -/
def firstE : List Ev := [⟨1, 1, []⟩, ⟨1, 2, [7]⟩, ⟨2, 3, []⟩]
set_option maxRecDepth 100000 in
set_option maxHeartbeats 2000000 in
theorem first_any (w : World) : Calls Try.prog 38 #[] w fun e w' => (∃ A c l, e = .returned (lgV 0 0 A 3 c) ∧ SqE w' w'.heap.size A 3 c l ∧ vsE l = firstE) ∧ Below w.heap.size w w' := by
  go_enter Try.func38, Try.ntmps38
  go_wp2_with fail
  obtain ⟨w1, hw1⟩ : ∃ w1, w.alloc (.cells #[.int .u64 0, .int .u64 0, .slice (some ⟨w.heap.size + 1 + 1, 0, none⟩) 3 3] 27) = w1 := ⟨_, rfl⟩
  have z1 : w1.heap.size = w.heap.size + 1 := by rw [← hw1]; simp
  obtain ⟨w2, hw2⟩ : ∃ w2, w1.alloc (.cells #[.int .u8 7] 5) = w2 := ⟨_, rfl⟩
  have z2 : w2.heap.size = w.heap.size + 1 + 1 := by rw [← hw2]; simp [z1]
  obtain ⟨l, hl⟩ : ∃ l : List En, l = [⟨1, 1, ⟨none, 0, 0⟩, []⟩, ⟨1, 2, ⟨some ⟨w.heap.size + 1, 0, none⟩, 1, 1⟩, [7]⟩, ⟨2, 3, ⟨none, 0, 0⟩, []⟩] := ⟨_, rfl⟩
  obtain ⟨w3, hw3⟩ : ∃ w3, w2.alloc (.cells (l.flatMap En.cells).toArray 44) = w3 := ⟨_, rfl⟩
  have L1 : Bl w3 w.heap.size 27 (lgC 0 0 (some ⟨w.heap.size + 1 + 1, 0, none⟩) 3 3) := by
    rw [← hw3, ← hw2, ← hw1]
    exact ((Bl.new w 27 (lgC 0 0 (some ⟨w.heap.size + 1 + 1, 0, none⟩) 3 3)).alloc _).alloc _
  have L2 : Bl w3 (w.heap.size + 1) 5 (bvs [7]) := by
    rw [← hw3, ← hw2, ← z1]
    exact (Bl.new w1 5 (bvs [7])).alloc _
  have L3 : Lies w3 (w.heap.size + 1 + 1) 9 (l.flatMap En.cells) := by
    rw [← hw3, ← z2]
    have := Lies.new w2 (l.flatMap En.cells) 44
    rwa [show (l.flatMap En.cells).length = 9 by rw [flat_len en_sz, hl]; rfl] at this
  have B3 : Below w.heap.size w w3 := by rw [← hw3, ← hw2, ← hw1]; exact (((Below.refl _ _).alloc (Nat.le_refl _) _).alloc (by simp) _).alloc (by simp; omega) _
  have z3 : w3.heap.size = w.heap.size + 1 + 1 + 1 := by rw [← hw3]; simp [z2]
  have e3 : ((w.alloc (.cells #[.int .u64 0, .int .u64 0, .slice (some ⟨w.heap.size + 1 + 1, 0, none⟩) 3 3] 27)).alloc (.cells #[.int .u8 7] 5)).alloc (.cells #[.int .u64 1, .int .i64 1, .slice none 0 0, .int .u64 1, .int .i64 2, .slice (some ⟨w.heap.size + 1, 0, none⟩) 1 1, .int .u64 2, .int .i64 3, .slice none 0 0] 44) = w3 := by
    rw [hw1, hw2, ← hw3, hl]
    rfl
  rw [e3]
  refine bodyPost_ret (results_log rfl _ _ _ 0 0 (some ⟨w.heap.size + 1 + 1, 0, none⟩) 3 3 rfl L1) rfl ⟨⟨_, 3, l, rfl, ⟨⟨by rw [hl]; rfl, Nat.le_refl _, by unfold maxLen; omega, (fun e => by cases e), en_sz, fun _ => ⟨_, 0, rfl, by omega, L3.rg⟩⟩, fun x hx => ?_⟩, by rw [hl]; rfl⟩, B3⟩
  rw [hl] at hx
  rcases List.mem_cons.1 hx with rfl | hx
  · exact ⟨SlB.nil_, by decide, by decide⟩
  rcases List.mem_cons.1 hx with rfl | hx
  · exact ⟨L2.sl (by omega) (by unfold maxLen; decide), (show (1 : Nat) < 18446744073709551616 by omega), (show (-9223372036854775808 : Int) ≤ 2 ∧ (2 : Int) ≤ 9223372036854775807 by omega)⟩
  rcases List.mem_cons.1 hx with rfl | hx
  · exact ⟨SlB.nil_, by decide, by decide⟩
  · cases hx
end Go.Proofs.Ytgdcahakefmakaa
