/-
  OBJECTS: whether an Id is among others.
-/
import Derived.Test.YtcofkhmgmemkmaaGreatDoorK16
namespace Go.Proofs.YtcofkhmgmemkmaaGreatDoor
set_option linter.unusedVariables false
set_option linter.unusedSimpArgs false
open Go.RowKit Go.WideShapes Go.ChangeShapes Go.Deep Go.Shelf
attribute [local irreducible] wpQuiet

def hasI (l : List Idv) (x : Idv) : Bool := l.any fun y => x.b == y.b
theorem hasI_no {l : List Idv} {x : Idv} (h : ∀ j (hj : j < l.length), (x.b == l[j].b) = false) : hasI l x = false := by
  unfold hasI
  rw [List.any_eq_false]
  intro y hy
  obtain ⟨j, hj, rfl⟩ := List.getElem_of_mem hy
  rw [h j hj]
  simp
theorem hasI_yes {l : List Idv} {x : Idv} {j : Nat} (hj : j < l.length) (h : (x.b == l[j].b) = true) : hasI l x = true := by
  unfold hasI
  rw [List.any_eq_true]
  exact ⟨l[j], List.getElem_mem hj, h⟩
set_option maxRecDepth 100000 in
set_option maxHeartbeats 2000000 in
theorem index_any {w : World} {A : Option Addr} {n c : Nat} {l : List Idv} (h : SqI w w.heap.size A n c l) (x : Idv) (hn : n ≤ 1000000) :
    Calls Tryz.prog 94 #[.slice A n c, idV x] w fun e w' => (∃ j : Int, e = .returned (.int .i64 j) ∧ (decide (0 ≤ j)) = hasI l x) ∧ Below w.heap.size w w' := by
  obtain ⟨w1, hw1⟩ : ∃ w1, w.alloc (.cells x.cells.toArray 27) = w1 := ⟨_, rfl⟩
  have B1 : Hid (Below w.heap.size w w1) := Lib.hid (by rw [← hw1]; exact (Below.refl _ _).alloc (Nat.le_refl _) _)
  have Z1 : Hid (w1.heap.size = w.heap.size + 1) := Lib.hid (by rw [← hw1]; simp)
  have X1 : Hid (Lies w1 w.heap.size 32 x.cells) := Lib.hid (by
    rw [← hw1]
    have := Lies.new w x.cells 27
    rwa [id_sz] at this)
  have HW1 := Lib.hid hw1
  have HS := Lib.hid h
  have hl := h.len
  clear h hw1
  obtain ⟨sq, hsq⟩ : ∃ sq, hasI l x = sq := ⟨_, rfl⟩
  have HSQ := Lib.hid hsq
  rw [hsq]
  clear hsq
  go_enter Tryz.func94, Tryz.ntmps94
  go_upto_region 1 with fail
  rw [show w.alloc (.cells (S3.bvs x.b).toArray 27) = w1 from HW1.out]
  go_wp2_with fail
  go_loopw [8] (fun i wr => ∃ k : Nat, k ≤ n ∧ i = .int .i64 (k : Int) ∧ Hid (∀ j (hk : j < k) (hj : j < l.length), (x.b == l[j].b) = false) ∧ Hid (Below w1.heap.size w1 wr)) (fun i _ => n - (intOf i).toNat)
  case atStart => exact ⟨0, Nat.zero_le _, rfl, Lib.hid (fun j hj => absurd hj (by omega)), Lib.hid (Below.refl _ _)⟩
  case round =>
    obtain ⟨k, hk, rfl, hg, hb1⟩ := hrel
    have hb : Hid (Below w.heap.size w wr) := Lib.hid (B1.out.trans (hb1.out.mono B1.out.size))
    by_cases hlt : k < n
    · have hd : decide ((k : Int) < (n : Int)) = true := by simp; omega
      have hk0 : (0 : Int) ≤ (k : Int) := Int.natCast_nonneg _
      have hk1 : (k : Int) < (n : Int) := by omega
      obtain ⟨b, o, rfl, hbl, hrg⟩ := (HS.out.below hb.out).at_ hlt
      obtain ⟨r, hr⟩ : ∃ r, l[k]'(by omega) = r := ⟨_, rfl⟩
      rw [hr] at hrg
      have hx0 : wr.rangeAt w.heap.size 0 x.cells := (X1.out.below hb1.out (by rw [Z1.out]; omega)).rg
      have hne := fun w => eq_id x r w
      have hgd := id_guard
      obtain ⟨q, hq⟩ : ∃ q, (x.b == r.b) = q := ⟨_, rfl⟩
      rw [hq] at hne
      have YES : Hid (q = false → ∀ j (hk : j < k + 1) (hj : j < l.length), (x.b == l[j].b) = false) := Lib.hid (fun h1 j hjk hj => by
        by_cases e : j = k
        · subst e; rw [hr, hq]; exact h1
        · exact hg.out j (by omega) hj)
      have NO : Hid (q = true → sq = true) := Lib.hid (fun h1 => by
        rw [← HSQ.out]
        exact hasI_yes (j := k) (by omega) (by rw [hr, hq]; exact h1))
      clear hr hq
      go_upto_region 4 with fail
      refine wp_region_noPanic ?_
      refine wp_region_held_drew (S := (fun w' => w'.rangeAt w.heap.size 0 x.cells ∧ w'.rangeAt b (o + k * 32) r.cells ∧ w'.heap.size = wr.heap.size ∧ Below w.heap.size w w')) (by kernel_rfl) ⟨hx0, hrg, rfl, hb.out.drew⟩ (fun _ => ?_)
      refine wpAnyH_take (i := 0) rfl (by kernel_rfl) (by kernel_rfl) (by kernel_rfl) (fun _ _ _ h => h) (yieldsIf_load_mid rfl 27 _ rfl (w.heap.size) (0) rfl (x.cells) _ (fun w' hw' => hw'.1) Tryz.underlying27 rfl (by rw [id_sz]; exact size_idv)) ⟨hx0, hrg, rfl, hb.out.drew⟩ ?_
      simp only [List.getElem_toArray, List.getElem_cons_zero, List.getElem_cons_succ, Act.put, List.setIfInBounds_toArray, List.set_cons_succ, List.set_cons_zero]
      refine wpAnyH_take (i := 1) rfl (by kernel_rfl) (by kernel_rfl) (by kernel_rfl) (fun _ _ _ h => h) (.inl ⟨rfl, fun w' hw' => (by clear hw'; go_simp; (try rfl))⟩) ⟨hx0, hrg, rfl, hb.out.drew⟩ ?_
      simp only [List.getElem_toArray, List.getElem_cons_zero, List.getElem_cons_succ, Act.put, List.setIfInBounds_toArray, List.set_cons_succ, List.set_cons_zero]
      refine wpAnyH_take (i := 2) rfl (by kernel_rfl) (by kernel_rfl) (by kernel_rfl) (fun _ _ _ h => h) (.inl ⟨rfl, fun w' hw' => (by clear hw'; go_simp; (try rfl))⟩) ⟨hx0, hrg, rfl, hb.out.drew⟩ ?_
      simp only [List.getElem_toArray, List.getElem_cons_zero, List.getElem_cons_succ, Act.put, List.setIfInBounds_toArray, List.set_cons_succ, List.set_cons_zero]
      refine wpAnyH_take (i := 3) rfl (by kernel_rfl) (by kernel_rfl) (by kernel_rfl) (fun _ _ _ h => h) (.inl ⟨rfl, fun w' hw' => (by clear hw'; go_simp; (try rfl))⟩) ⟨hx0, hrg, rfl, hb.out.drew⟩ ?_
      simp only [List.getElem_toArray, List.getElem_cons_zero, List.getElem_cons_succ, Act.put, List.setIfInBounds_toArray, List.set_cons_succ, List.set_cons_zero]
      refine wpAnyH_take (i := 4) rfl (by kernel_rfl) (by kernel_rfl) (by kernel_rfl) (fun _ _ _ h => h) (yieldsIf_load_mid rfl 27 _ rfl (b) ((o + k * 32)) rfl (r.cells) _ (fun w' hw' => hw'.2.1) Tryz.underlying27 rfl (by rw [id_sz]; exact size_idv)) ⟨hx0, hrg, rfl, hb.out.drew⟩ ?_
      simp only [List.getElem_toArray, List.getElem_cons_zero, List.getElem_cons_succ, Act.put, List.setIfInBounds_toArray, List.set_cons_succ, List.set_cons_zero]
      refine wpAnyH_take (i := 5) rfl (by kernel_rfl) (by kernel_rfl) (by kernel_rfl) (fun _ _ _ h => h) (.inl ⟨rfl, fun w' hw' => (by clear hw'; have e := hne w'; go_simp; (try rfl))⟩) ⟨hx0, hrg, rfl, hb.out.drew⟩ ?_
      simp only [List.getElem_toArray, List.getElem_cons_zero, List.getElem_cons_succ, Act.put, List.setIfInBounds_toArray, List.set_cons_succ, List.set_cons_zero]
      refine wpAnyH_done (by kernel_rfl) ?_ _
      refine NoPanic.normal ?_
      have GE := Lib.hid (show Below w1.heap.size w1 wr.drew from hb1.out.drew)
      have GF := Lib.hid (show Below w.heap.size w wr.drew from hb.out.drew)
      clear hrg hx0
      cases q
      · go_wp2_with fail
        go_roundw
        case rel => exact ⟨k + 1, by omega, by go_num, Lib.hid (YES.out rfl), GE⟩
        case measure => simp [intOf]; omega
      · have e := NO.out rfl
        subst e
        go_wp2_with fail
        go_ret
        exact ⟨⟨_, rfl, by simp⟩, GF.out⟩
    · have hd : decide ((k : Int) < (n : Int)) = false := by simp; omega
      obtain rfl : k = n := by omega
      go_wp2_with fail
      go_ret
      exact ⟨⟨_, rfl, by rw [← HSQ.out, hasI_no (fun j hj => hg.out j (by omega) hj)]; rfl⟩, hb.out⟩
set_option maxRecDepth 100000 in
theorem contains_any {w : World} {A : Option Addr} {n c : Nat} {l : List Idv} (h : SqI w w.heap.size A n c l) (x : Idv) (hn : n ≤ 1000000) :
    Calls Tryz.prog 80 #[.slice A n c, idV x] w fun e w' => e = .returned (.bool (hasI l x)) ∧ Below w.heap.size w w' := by
  obtain ⟨w1, hw1⟩ : ∃ w1, w.alloc (.cells x.cells.toArray 27) = w1 := ⟨_, rfl⟩
  have B1 : Hid (Below w.heap.size w w1) := Lib.hid (by rw [← hw1]; exact (Below.refl _ _).alloc (Nat.le_refl _) _)
  have X1 : Hid (Lies w1 w.heap.size 32 x.cells) := Lib.hid (by
    rw [← hw1]
    have := Lies.new w x.cells 27
    rwa [id_sz] at this)
  have HC := Lib.hid (index_any ((h.below B1.out).more B1.out.size) x hn)
  have HW1 := Lib.hid hw1
  clear h hw1
  go_enter Tryz.func80, Tryz.ntmps80
  go_upto_region 1 with fail
  rw [show w.alloc (.cells (S3.bvs x.b).toArray 27) = w1 from HW1.out]
  go_wp2_with (first
    | ((with_reducible refine ldi (.tmp 3) ?_ ?_ w.heap.size 0 x ?_ X1.out.rg ?_); rfl; rfl; rfl)
    | fail)
  refine HC.out.mono ?_
  rintro e w9 ⟨⟨j, rfl, hj⟩, hb9⟩
  have HJ := Lib.hid hj
  have HB9 := Lib.hid (B1.out.trans (hb9.mono B1.out.size))
  clear hb9 hj
  go_wp2_with fail
  go_ret
  exact ⟨by rw [← HJ.out]; rfl, HB9.out⟩
end Go.Proofs.YtcofkhmgmemkmaaGreatDoor
