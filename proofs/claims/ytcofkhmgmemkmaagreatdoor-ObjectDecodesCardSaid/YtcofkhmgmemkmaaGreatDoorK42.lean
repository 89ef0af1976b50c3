/-
  WHAT LEADS FROM ONE MAP TO ANOTHER: pure.
  STAGE 5's REFERENCE: which texts are paths.
  STAGE 5's REFERENCE: which maps may be.
  STAGE 5's REFERENCE: which edits may be.
-/
import Derived.Test.YtcofkhmgmemkmaaGreatDoorK14
import Derived.Test.YtcofkhmgmemkmaaGreatDoorK13
import Derived.Test.YtcofkhmgmemkmaaGreatDoorK10
namespace Go.Proofs.YtcofkhmgmemkmaaGreatDoor
set_option linter.unusedVariables false
set_option linter.unusedSimpArgs false
open Go.RowKit Go.WideShapes Go.ChangeShapes Go.Deep

theorem lt_irrefl' (a : ByteArray) : lt a a = false := less_irrefl _
theorem lt_trans' {a b c : ByteArray} (h : lt a b = true) (k : lt b c = true) : lt a c = true := less_trans h k
theorem bytes_ext {a b : ByteArray} (h : a.toList = b.toList) : a = b := by
  rw [ByteArray.toList_eq, ByteArray.toList_eq] at h
  cases a
  cases b
  simpa [Array.toList_inj] using h
theorem lt_eq {a b : ByteArray} (h : lt a b = false) (k : lt b a = false) : a = b := bytes_ext (less_total h k)
theorem lt_asymm' {a b : ByteArray} (h : lt a b = true) : lt b a = false := by
  cases hb : lt b a with
  | false => rfl
  | true => have := lt_trans' h hb; rw [lt_irrefl'] at this; cases this
theorem le_lt {a b : ByteArray} : le a b = !lt b a := by
  cases h : lt b a with
  | true => rw [lt_not_le h]; rfl
  | false =>
    unfold le
    cases h2 : lt a b with
    | true => rfl
    | false => rw [lt_eq h2 h]; simp

/-- Both lists at once, by their heads. -/
def mergeL {α β : Type} (fa : α → ByteArray) (fb : β → ByteArray) : List α → List β → List (Option α × Option β)
  | [], [] => []
  | a :: la, [] => (some a, none) :: mergeL fa fb la []
  | [], b :: lb => (none, some b) :: mergeL fa fb [] lb
  | a :: la, b :: lb => if lt (fa a) (fb b) then (some a, none) :: mergeL fa fb la (b :: lb) else if lt (fb b) (fa a) then (none, some b) :: mergeL fa fb (a :: la) lb else (some a, some b) :: mergeL fa fb la lb
  termination_by la lb => la.length + lb.length

section
variable {α β : Type} (fa : α → ByteArray) (fb : β → ByteArray) (la : List α) (lb : List β)
def val (x : Mi la.length lb.length) : Option α × Option β := (x.i.map fun i => la[i], x.k.map fun k => lb[k])
theorem run_merge : ∀ (f i k : Nat), i ≤ la.length → k ≤ lb.length → la.length + lb.length ≤ f + i + k → (runW fa fb la lb f i k).map (val la lb) = mergeL fa fb (la.drop i) (lb.drop k)
  | 0, i, k, hi, hk, hf => by
    rw [List.drop_of_length_le (by omega), List.drop_of_length_le (by omega)]
    simp [runW, mergeL]
  | f + 1, i, k, hi, hk, hf => by
    by_cases h1 : i < la.length
    · rw [List.drop_eq_getElem_cons h1]
      by_cases h2 : k < lb.length
      · rw [List.drop_eq_getElem_cons h2]
        obtain ⟨ha, hb⟩ := nx_le fa fb la lb h1 h2 (h := .inl h1)
        rw [le_lt] at ha hb
        rw [mergeL]
        cases c1 : lt (fa la[i]) (fb lb[k]) with
        | true =>
          have c2 := lt_asymm' c1
          rw [c2] at ha
          rw [c1] at hb
          have ih := run_merge f (i + 1) k (by omega) hk (by omega)
          rw [List.drop_eq_getElem_cons h2] at ih
          rw [run_step fa fb la lb (.inl h1) (nx_t fa fb la lb ha hb (h := .inl h1)) ha hb (i' := i + 1) (k' := k) (by simp) (by simp), List.map_cons, ih]
          simp [val]
        | false =>
          rw [c1] at hb
          cases c2 : lt (fb lb[k]) (fa la[i]) with
          | true =>
            rw [c2] at ha
            have ih := run_merge f i (k + 1) hi (by omega) (by omega)
            rw [List.drop_eq_getElem_cons h1] at ih
            rw [run_step fa fb la lb (.inl h1) (nx_t fa fb la lb ha hb (h := .inl h1)) ha hb (i' := i) (k' := k + 1) (by simp) (by simp), List.map_cons, ih]
            simp [val]
          | false =>
            rw [c2] at ha
            have ih := run_merge f (i + 1) (k + 1) (by omega) (by omega) (by omega)
            rw [run_step fa fb la lb (.inl h1) (nx_t fa fb la lb ha hb (h := .inl h1)) ha hb (i' := i + 1) (k' := k + 1) (by simp) (by simp), List.map_cons, ih]
            simp [val]
      · rw [List.drop_of_length_le (show lb.length ≤ k by omega), runW, dif_pos (.inl h1)]
        obtain ⟨hx, ha, hb⟩ := nx_a fa fb la lb h1 (show lb.length ≤ k by omega) (h := .inl h1)
        rw [List.map_cons, hx, ha, hb, mergeL]
        have ih := run_merge f (i + 1) k (by omega) hk (by omega)
        rw [List.drop_of_length_le (show lb.length ≤ k by omega)] at ih
        simpa [val] using ih
    · rw [List.drop_of_length_le (show la.length ≤ i by omega)]
      by_cases h2 : k < lb.length
      · rw [List.drop_eq_getElem_cons h2, runW, dif_pos (.inr h2)]
        obtain ⟨hx, ha, hb⟩ := nx_b fa fb la lb (show la.length ≤ i by omega) h2 (h := .inr h2)
        rw [List.map_cons, hx, ha, hb, mergeL]
        have ih := run_merge f i (k + 1) hi (by omega) (by omega)
        rw [List.drop_of_length_le (show la.length ≤ i by omega)] at ih
        simpa [val] using ih
      · rw [List.drop_of_length_le (show lb.length ≤ k by omega), runW, dif_neg (by omega)]
        simp [mergeL]
theorem all_merge : (allW fa fb la lb).map (val la lb) = mergeL fa fb la lb := by
  have := run_merge fa fb la lb (la.length + lb.length) 0 0 (Nat.zero_le _) (Nat.zero_le _) (by omega)
  simpa [allW] using this
end

def pA : Option Rw × Option Ch → List Rw
  | (_, some c) => if c.is then [⟨c.p, c.t⟩] else []
  | (some a, none) => [a]
  | (none, none) => []
def pD : Option Rw × Option Rw → List Ch
  | (none, some b) => [⟨b.p, true, b.t⟩]
  | (some a, some b) => if a.t.toList == b.t.toList then [] else [⟨b.p, true, b.t⟩]
  | (some a, none) => [⟨a.p, false, ⟨#[]⟩⟩]
  | (none, none) => []
end Go.Proofs.YtcofkhmgmemkmaaGreatDoor
namespace Go.Proofs.YtcofkhmgmemkmaaGreatDoor
set_option linter.unusedVariables false
set_option linter.unusedSimpArgs false
open Go.RowKit Go.WideShapes Go.ChangeShapes Go.Deep

def pathW (s : ByteArray) : Bool := decide (0 < (s.size : Int)) && decide ((s.size : Int) ≤ 48) && visW s
set_option maxHeartbeats 1600000 in
theorem refPath_any (s : ByteArray) (hs : s.size ≤ 1000000) (w : World) : Calls Tryz.prog 79 #[.string s] w fun e w' => e = .returned (.bool (pathW s)) ∧ w = w' := by
  have hsz : s.data.toList.length = s.size := by simp
  go_enter Tryz.func79, Tryz.ntmps79
  go_wp2
  go_loopw [3] (fun i wr => ∃ k : Nat, k ≤ s.size ∧ i = .int .i64 (k : Int) ∧ Hid ((s.data.toList.take k).all goodB = true) ∧ Hid (w = wr)) (fun i _ => s.size - (intOf i).toNat)
  case atStart => exact ⟨0, Nat.zero_le _, rfl, Lib.hid (by simp), Lib.hid rfl⟩
  case round =>
    obtain ⟨k, hk, rfl, hg, hb⟩ := hrel
    by_cases hlt : k < s.size
    · have hd : decide ((k : Int) < (s.size : Int)) = true := by simp; omega
      have hk0 : (0 : Int) ≤ (k : Int) := Int.natCast_nonneg _
      have hk1 : (k : Int) < (s.size : Int) := by omega
      have hat := all_take (s := s.data.toList) (k := k) (by omega)
      have hgk : s.data.toList[k]'(by omega) = s[k] := rfl
      rw [hgk] at hat
      have hno : goodB s[k] = false → visW s = false := fun h => by
        rw [visW, List.all_eq_false]
        exact ⟨s[k], by rw [← hgk]; exact List.getElem_mem _, by simp [h]⟩
      have HNO := Lib.hid (fun h => show pathW s = false by unfold pathW; rw [hno h]; simp)
      have HAT := Lib.hid hat
      clear hat hno hgk
      by_cases h1 : (s[k].toNat : Int) < 33
      · have d1 : decide ((s[k].toNat : Int) < 33) = true := by simpa using h1
        go_wp2
        go_ret
        exact ⟨by rw [HNO.out (by unfold goodB; simp; omega)]; rfl, hb.out⟩
      · have d1 : decide ((s[k].toNat : Int) < 33) = false := by simpa using h1
        by_cases h2 : 126 < (s[k].toNat : Int)
        · have d2 : decide (126 < (s[k].toNat : Int)) = true := by simpa using h2
          go_wp2
          go_ret
          exact ⟨by rw [HNO.out (by unfold goodB; simp; omega)]; rfl, hb.out⟩
        · have d2 : decide (126 < (s[k].toNat : Int)) = false := by simpa using h2
          go_wp2
          go_roundw
          case rel => exact ⟨k + 1, by omega, by go_num, Lib.hid (by rw [HAT.out, hg.out]; unfold goodB; simp; omega), hb⟩
          case measure => simp [intOf]; omega
    · have hd : decide ((k : Int) < (s.size : Int)) = false := by simp; omega
      obtain rfl : k = s.size := by omega
      have hv : visW s = true := by rw [visW, ← hg.out, List.take_of_length_le (by omega)]
      have HV := Lib.hid (show pathW s = (decide (0 < (s.size : Int)) && decide ((s.size : Int) ≤ 48)) by unfold pathW; rw [hv, Bool.and_true])
      clear hv
      by_cases h1 : 0 < (s.size : Int)
      · have d1 : decide (0 < (s.size : Int)) = true := by simpa using h1
        go_wp2
        go_ret
        exact ⟨by rw [HV.out, d1]; simp, hb.out⟩
      · have d1 : decide (0 < (s.size : Int)) = false := by simpa using h1
        go_wp2
        go_ret
        exact ⟨by rw [HV.out, d1]; simp, hb.out⟩
end Go.Proofs.YtcofkhmgmemkmaaGreatDoor
namespace Go.Proofs.YtcofkhmgmemkmaaGreatDoor
set_option linter.unusedVariables false
set_option linter.unusedSimpArgs false
open Go.RowKit Go.WideShapes Go.ChangeShapes Go.Deep
attribute [local irreducible] wpQuiet

theorem quiet_eq {P : Program} {f : FuncId} {args : Array Value} {w : World} {n : Nat} {v : Value} (h : Calls P f args (w.drewN n) fun e w' => e = .returned v ∧ w.drewN n = w') : Calls P f args (w.drewN n) fun e w'' => e = .returned v ∧ ∃ m, w'' = w.drewN m :=
  h.mono fun _ _ hh => ⟨hh.1, n, hh.2.symm⟩
theorem leq_lt (a b : ByteArray) : lt b a = !(Op.bytesLess a.toList b.toList || a.toList == b.toList) := by
  have h := le_lt (a := a) (b := b)
  unfold le at h
  rw [show Op.bytesLess a.toList b.toList = lt a b from rfl]
  simp_all
theorem fitP_path (p t : ByteArray) : fitP p t = (pathW p && decide ((t.size : Int) ≤ 256)) := by
  unfold fitP pathW
  have h1 : (!p.toList.isEmpty) = decide (0 < (p.size : Int)) := by
    rw [ByteArray.toList_eq]
    rcases h : p.data.toList with _ | ⟨x, y⟩
    · have : p.size = 0 := by rw [← ByteArray.size_data, ← Array.length_toList, h]; rfl
      rw [this]; rfl
    · have : 0 < p.size := by rw [← ByteArray.size_data, ← Array.length_toList, h]; simp
      rw [decide_eq_true (by omega)]; rfl
  have h2 : decide (p.size ≤ 48) = decide ((p.size : Int) ≤ 48) := decide_eq_decide.2 (by omega)
  have h3 : decide (t.size ≤ 256) = decide ((t.size : Int) ≤ 256) := decide_eq_decide.2 (by omega)
  rw [h1, h2, h3]
  cases decide (0 < (p.size : Int)) <;> cases decide ((p.size : Int) ≤ 48) <;> cases decide ((t.size : Int) ≤ 256) <;> cases visW p <;> rfl
theorem rightR_iff (l : List Rw) : rightR l = true ↔ l.length ≤ 32 ∧ (∀ j (hj : j < l.length), fitP l[j].p l[j].t = true) ∧ ∀ j (hj : j + 1 < l.length), lt l[j].p l[j + 1].p = true := by
  unfold rightR fitW
  rw [Bool.and_eq_true, Bool.and_eq_true, List.all_eq_true, riseW_iff]
  constructor
  · rintro ⟨⟨h1, h2⟩, h3⟩
    exact ⟨by simpa using h1, fun j hj => h2 _ (List.getElem_mem _), fun j hj => by have := h3 j (by simpa using hj); rw [List.getElem_map, List.getElem_map] at this; exact this⟩
  · rintro ⟨h1, h2, h3⟩
    refine ⟨⟨by simpa using h1, fun x hx => ?_⟩, fun j hj => by rw [List.getElem_map, List.getElem_map]; exact h3 j (by simpa using hj)⟩
    obtain ⟨j, hj, rfl⟩ := List.getElem_of_mem hx
    exact h2 j hj


end Go.Proofs.YtcofkhmgmemkmaaGreatDoor
namespace Go.Proofs.YtcofkhmgmemkmaaGreatDoor
set_option linter.unusedVariables false
set_option linter.unusedSimpArgs false
open Go.RowKit Go.WideShapes Go.ChangeShapes Go.Deep
attribute [local irreducible] wpQuiet

theorem rightC_iff (l : List Ch) : rightC l = true ↔ l.length ≤ 32 ∧ (∀ j (hj : j < l.length), fitP l[j].p l[j].t = true ∧ mud l[j] = false) ∧ ∀ j (hj : j + 1 < l.length), lt l[j].p l[j + 1].p = true := by
  unfold rightC fitW mudW
  rw [Bool.and_eq_true, Bool.and_eq_true, Bool.and_eq_true, List.all_eq_true, riseW_iff, Bool.not_eq_true', List.any_eq_false]
  constructor
  · rintro ⟨⟨⟨h1, h2⟩, h3⟩, h4⟩
    exact ⟨by simpa using h1, fun j hj => ⟨h2 _ (List.getElem_mem _), by simpa using h4 _ (List.getElem_mem _)⟩, fun j hj => by have := h3 j (by simpa using hj); rw [List.getElem_map, List.getElem_map] at this; exact this⟩
  · rintro ⟨h1, h2, h3⟩
    refine ⟨⟨⟨by simpa using h1, fun x hx => ?_⟩, fun j hj => by rw [List.getElem_map, List.getElem_map]; exact h3 j (by simpa using hj)⟩, fun x hx => ?_⟩
    · obtain ⟨j, hj, rfl⟩ := List.getElem_of_mem hx
      exact (h2 j hj).1
    · obtain ⟨j, hj, rfl⟩ := List.getElem_of_mem hx
      rw [(h2 j hj).2]
      simp

set_option maxRecDepth 100000 in
set_option maxHeartbeats 4000000 in
theorem refRightE_any {w : World} {A : Option Addr} {n c : Nat} {l : List Ch} (h : SqC w w.heap.size A n c l) (hn : n ≤ 1000000) (hp : ∀ r ∈ l, r.p.size ≤ 1000000) :
    Calls Tryz.prog 61 #[.agg #[.slice A n c]] w fun e w' => e = .returned (.bool (rightC l)) ∧ Below w.heap.size w w' := by
  obtain ⟨w1, hw1⟩ : ∃ w1, w.alloc (.cells #[.slice A n c] 31) = w1 := ⟨_, rfl⟩
  have B1 : Hid (Below w.heap.size w w1) := Lib.hid (by rw [← hw1]; exact (Below.refl _ _).alloc (Nat.le_refl _) _)
  have X0 : Hid (Lies w1 w.heap.size 1 [.slice A n c]) := Lib.hid (by rw [← hw1]; exact Lies.new w [.slice A n c] 31)
  have HS := Lib.hid (h.below B1.out)
  have hl := h.len
  have HW := Lib.hid hw1
  have HP0 := Lib.hid hp
  clear hw1 h hp
  go_enter Tryz.func61, Tryz.ntmps61
  go_upto_region 1 with fail
  rw [HW.out]
  clear HW
  go_wp2
  go_loopw [3] (fun i wr => ∃ k : Nat, k ≤ n ∧ i = .int .i64 (k : Int) ∧ Hid (k ≤ 32 ∧ (∀ j (hj : j < k) (hl : j < l.length), fitP l[j].p l[j].t = true ∧ mud l[j] = false) ∧ ∀ j (hj : j + 1 < k) (hl : j + 1 < l.length), lt l[j].p l[j + 1].p = true) ∧ Hid (Below w1.heap.size w1 wr)) (fun i _ => n - (intOf i).toNat)
  case atStart => exact ⟨0, Nat.zero_le _, rfl, Lib.hid ⟨by omega, fun j hj => absurd hj (by omega), fun j hj => absurd hj (by omega)⟩, Lib.hid (Below.refl _ _)⟩
  case round =>
    obtain ⟨k, hk, rfl, hg, hb⟩ := hrel
    have q0 := (X0.out.below hb.out X0.out.lt).cell (j := 0) rfl
    by_cases hlt : k < n
    · obtain ⟨b, o, rfl, hbl, hrg⟩ := (HS.out.below (hb.out.mono B1.out.size)).at_ hlt
      obtain ⟨r, hr⟩ : ∃ r, l[k]'(by omega) = r := ⟨_, rfl⟩
      rw [hr] at hrg
      obtain ⟨p, is, t⟩ := r
      obtain ⟨pq, hpq⟩ : ∃ pq, pathW p = pq := ⟨_, rfl⟩
      have HPQ := Lib.hid hpq
      have hfp := fitP_path p t
      rw [hpq] at hfp
      have HFP := Lib.hid hfp
      obtain ⟨te, hte⟩ : ∃ te, t.toList.isEmpty = te := ⟨_, rfl⟩
      have HMD : Hid (mud ⟨p, is, t⟩ = (!is && !te)) := Lib.hid (by unfold mud; rw [hte])
      clear hpq hfp
      have HLT : Hid (w.heap.size < w1.heap.size ∧ b < w1.heap.size) := Lib.hid ⟨X0.out.lt, Nat.lt_of_lt_of_le hbl B1.out.size⟩
      rcases Nat.eq_zero_or_pos k with hk0 | hk0
      · subst hk0
        have hd : decide ((0 : Int) < (n : Int)) = true := by simp; omega
        have hk1 : (0 : Int) < (n : Int) := by omega
        rw [show (((0 : Nat) : Int)) = 0 from rfl]
        have r0 : wr.cell? ⟨b, o, none⟩ = some (.string p) := hrg 0 _ rfl
        have r1 : wr.cell? ⟨b, o + 1, none⟩ = some (.bool is) := by have := hrg 1 _ rfl; rwa [show o + 0 * 3 + 1 = o + 1 by omega] at this
        have r2 : wr.cell? ⟨b, o + 2, none⟩ = some (.string t) := by have := hrg 2 _ rfl; rwa [show o + 0 * 3 + 2 = o + 2 by omega] at this
        obtain ⟨wk, hwk⟩ : ∃ wk, wr.alloc (.cells #[.string p, .bool is, .string t] 71) = wk := ⟨_, rfl⟩
        have HBK : Hid (Below w1.heap.size w1 wk) := Lib.hid (by rw [← hwk]; exact hb.out.alloc hb.out.size _)
        have XK : Hid (Lies wk wr.heap.size 3 [.string p, .bool is, .string t]) := Lib.hid (by rw [← hwk]; exact Lies.new wr [.string p, .bool is, .string t] 71)
        have HWK := Lib.hid hwk
        have HP : Hid (∀ j, Calls Tryz.prog 79 #[.string p] (wk.drewN j) fun e w' => e = .returned (.bool (pathW p)) ∧ ∃ m, w' = wk.drewN m) := Lib.hid fun j => quiet_eq (refPath_any p (by have := HP0.out l[0] (List.getElem_mem _); rwa [hr] at this) _)
        rw [HPQ.out] at HP
        clear hwk

        have NO : Hid ((False ∨ pq = false ∨ 256 < (t.size : Int) ∨ (is = false ∧ te = false) ∨ False) → rightC l = false) := Lib.hid (fun hx => by
          rw [Bool.eq_false_iff]
          intro hR
          obtain ⟨h2, h4⟩ := ((rightC_iff l).1 hR).2.1 0 (by omega)
          rw [hr] at h2 h4
          rw [HFP.out, Bool.and_eq_true] at h2
          rw [HMD.out] at h4
          rcases hx with hx | hx | hx | hx | hx
          · exact hx
          · rw [hx] at h2; simp at h2
          · have := h2.2; simp at this; omega
          · rw [hx.1, hx.2] at h4; cases h4
          · exact hx)
        have YES : Hid (pq = true → ¬ 256 < (t.size : Int) → (is = true ∨ te = true) → (1 ≤ 32 ∧ (∀ j (hj : j < 1) (hl : j < l.length), fitP l[j].p l[j].t = true ∧ mud l[j] = false) ∧ ∀ j (hj : j + 1 < 1) (hl : j + 1 < l.length), lt l[j].p l[j + 1].p = true)) := Lib.hid (fun h1 h2 h3 => ⟨by omega, fun j hj hl => by
          obtain rfl : j = 0 := by omega
          rw [hr]
          refine ⟨by rw [HFP.out, h1, decide_eq_true (by omega)]; rfl, ?_⟩
          rw [HMD.out]
          rcases h3 with h3 | h3 <;> rw [h3] <;> simp, fun j hj => absurd hj (by omega)⟩)
        clear hrg hr hg
        go_upto_region 5 with fail
        rw [HWK.out]
        clear HWK r0 r1 r2 q0
        have x0 := XK.out.cell (j := 0) rfl
        have x1 := XK.out.cell (j := 1) rfl
        have x2 := XK.out.cell (j := 2) rfl
        have q0 := (X0.out.below HBK.out X0.out.lt).cell (j := 0) rfl

        cases pq
        · have NO1 := Lib.hid (NO.out (.inr (.inl rfl)))
          clear NO YES
          go_wp2
          go_quiet (first | (go_at_call 79; exact HP.out _) | fail)
          (try clear hwr)
          go_wp2
          go_ret
          exact ⟨by rw [NO1.out]; rfl, B1.out.trans (Below.mono (below_drewN HBK.out _) B1.out.size)⟩
        by_cases h256 : 256 < (t.size : Int)
        case pos =>
          have d256 : decide (256 < (t.size : Int)) = true := by simpa using h256
          · have NO1 := Lib.hid (NO.out (.inr (.inr (.inl h256))))
            clear NO YES
            go_wp2
            go_quiet (first | (go_at_call 79; exact HP.out _) | fail)
            (try clear hwr)
            go_wp2
            go_ret
            exact ⟨by rw [NO1.out]; rfl, B1.out.trans (Below.mono (below_drewN HBK.out _) B1.out.size)⟩
        have d256 : decide (256 < (t.size : Int)) = false := by simpa using h256
        cases is
        · cases te
          · have NO1 := Lib.hid (NO.out (.inr (.inr (.inr (.inl ⟨rfl, rfl⟩)))))
            clear NO YES
            go_wp2
            go_quiet (first | (go_at_call 79; exact HP.out _) | fail)
            (try clear hwr)
            go_wp2
            go_ret
            exact ⟨by rw [NO1.out]; rfl, B1.out.trans (Below.mono (below_drewN HBK.out _) B1.out.size)⟩
          · have Y1 := Lib.hid (YES.out rfl (by omega) (.inr rfl))
            clear NO YES
            go_wp2
            go_quiet (first | (go_at_call 79; exact HP.out _) | fail)
            (try clear hwr)
            go_wp2
            go_roundw
            case rel => exact ⟨1, by omega, rfl, Y1, Lib.hid (below_drewN HBK.out _)⟩
            case measure => simp [intOf]; omega
        · have Y1 := Lib.hid (YES.out rfl (by omega) (.inl rfl))
          clear NO YES
          go_wp2
          go_quiet (first | (go_at_call 79; exact HP.out _) | fail)
          (try clear hwr)
          go_wp2
          go_roundw
          case rel => exact ⟨1, by omega, rfl, Y1, Lib.hid (below_drewN HBK.out _)⟩
          case measure => simp [intOf]; omega

      · obtain ⟨m, rfl⟩ : ∃ m, k = m + 1 := ⟨k - 1, by omega⟩
        clear hk0
        obtain ⟨r', hr'⟩ : ∃ r', l[m]'(by omega) = r' := ⟨_, rfl⟩
        obtain ⟨p0, is0, t0⟩ := r'
        obtain ⟨b', o', hbo, hbl', hrg'⟩ := (HS.out.below (hb.out.mono B1.out.size)).at_ (show m < n by omega)
        rw [hr'] at hrg'
        injection hbo with hbo
        injection hbo with hbo hoo
        subst hbo hoo
        have hd : decide ((m : Int) + 1 < (n : Int)) = true := by simp; omega
        have hm0 : (0 : Int) ≤ (m : Int) := Int.natCast_nonneg _
        have hm2 : (m : Int) < (n : Int) := by omega
        have hm3 : (0 : Int) ≤ (m : Int) + 1 := by omega
        have hm1 : (m : Int) + 1 < (n : Int) := by omega
        have hgt : decide (0 < (m : Int) + 1) = true := by simp [hm0] <;> omega
        rw [show (((m + 1 : Nat) : Int)) = (m : Int) + 1 from rfl]
        have r0 : wr.cell? ⟨b, o + (m + 1) * 3, none⟩ = some (.string p) := hrg 0 _ rfl
        have r1 : wr.cell? ⟨b, o + (m + 1) * 3 + 1, none⟩ = some (.bool is) := hrg 1 _ rfl
        have r2 : wr.cell? ⟨b, o + (m + 1) * 3 + 2, none⟩ = some (.string t) := hrg 2 _ rfl
        have R3 : Hid (wr.cell? ⟨b, o + m * 3, none⟩ = some (.string p0)) := Lib.hid (hrg' 0 _ rfl)
        obtain ⟨wk, hwk⟩ : ∃ wk, wr.alloc (.cells #[.string p, .bool is, .string t] 71) = wk := ⟨_, rfl⟩
        have HBK : Hid (Below w1.heap.size w1 wk) := Lib.hid (by rw [← hwk]; exact hb.out.alloc hb.out.size _)
        have XK : Hid (Lies wk wr.heap.size 3 [.string p, .bool is, .string t]) := Lib.hid (by rw [← hwk]; exact Lies.new wr [.string p, .bool is, .string t] 71)
        have HWK := Lib.hid hwk
        have HP : Hid (∀ j, Calls Tryz.prog 79 #[.string p] (wk.drewN j) fun e w' => e = .returned (.bool (pathW p)) ∧ ∃ m, w' = wk.drewN m) := Lib.hid fun j => quiet_eq (refPath_any p (by have := HP0.out l[m + 1] (List.getElem_mem _); rwa [hr] at this) _)
        rw [HPQ.out] at HP
        clear hwk

        have R4 : Hid (wk.cell? ⟨b, o + m * 3, none⟩ = some (.string p0)) := Lib.hid ((HBK.out.cell (p := ⟨b, o + m * 3, none⟩) HLT.out.2).trans ((hb.out.cell (p := ⟨b, o + m * 3, none⟩) HLT.out.2).symm.trans R3.out))
        have NO : Hid (((m : Int) + 1 = 32 ∨ pq = false ∨ 256 < (t.size : Int) ∨ (is = false ∧ te = false) ∨ lt p0 p = false) → rightC l = false) := Lib.hid (fun hx => by
          rw [Bool.eq_false_iff]
          intro hR
          obtain ⟨h1, h2, h3⟩ := (rightC_iff l).1 hR
          obtain ⟨h2, h4⟩ := h2 (m + 1) (by omega)
          have h3 := h3 m (by omega)
          rw [hr] at h2 h3 h4
          rw [hr'] at h3
          rw [HFP.out, Bool.and_eq_true] at h2
          rw [HMD.out] at h4
          rcases hx with hx | hx | hx | hx | hx
          · omega
          · rw [hx] at h2; simp at h2
          · have := h2.2; simp at this; omega
          · rw [hx.1, hx.2] at h4; cases h4
          · rw [hx] at h3; cases h3)
        have YES : Hid (pq = true → ¬ 256 < (t.size : Int) → ¬ ((m : Int) + 1 = 32) → (is = true ∨ te = true) → lt p0 p = true → (m + 1 + 1 ≤ 32 ∧ (∀ j (hj : j < m + 1 + 1) (hl : j < l.length), fitP l[j].p l[j].t = true ∧ mud l[j] = false) ∧ ∀ j (hj : j + 1 < m + 1 + 1) (hl : j + 1 < l.length), lt l[j].p l[j + 1].p = true)) := Lib.hid (fun h1 h2 h4 h5 h3 => ⟨by have := hg.out.1; omega, fun j hj hl => by
          by_cases e : j = m + 1
          · subst e
            rw [hr]
            refine ⟨by rw [HFP.out, h1, decide_eq_true (by omega)]; rfl, ?_⟩
            rw [HMD.out]
            rcases h5 with h5 | h5 <;> rw [h5] <;> simp
          · exact hg.out.2.1 j (by omega) hl, fun j hj hl => by
          by_cases e : j = m
          · subst e
            rw [hr, hr']
            exact h3
          · exact hg.out.2.2 j (by omega) hl⟩)
        clear hrg hr hrg' hr' hg
        go_upto_region 5 with fail
        rw [HWK.out]
        clear HWK r0 r1 r2 q0
        have x0 := XK.out.cell (j := 0) rfl
        have x1 := XK.out.cell (j := 1) rfl
        have x2 := XK.out.cell (j := 2) rfl
        have q0 := (X0.out.below HBK.out X0.out.lt).cell (j := 0) rfl

        have r3 := R4.out
        have hwr : IntKind.i64.wrap (m : Int) = (m : Int) := IntWalk.i64_in _ (by omega)
        by_cases h32 : ((m : Int) + 1) = 32
        case pos =>
          have d32 : (((m : Int) + 1 : Int) == 32) = true := by simpa using h32
          · have NO1 := Lib.hid (NO.out (.inl (by omega)))
            clear NO YES
            go_wp2
            go_quiet (fail)
            (try clear hwr)
            go_wp2
            go_ret
            exact ⟨by rw [NO1.out]; rfl, B1.out.trans (Below.mono (below_drewN HBK.out _) B1.out.size)⟩
        have d32 : (((m : Int) + 1 : Int) == 32) = false := by simpa using h32
        cases pq
        · have NO1 := Lib.hid (NO.out (.inr (.inl rfl)))
          clear NO YES
          go_wp2
          go_quiet (first | (go_at_call 79; exact HP.out _) | fail)
          (try clear hwr)
          go_wp2
          go_ret
          exact ⟨by rw [NO1.out]; rfl, B1.out.trans (Below.mono (below_drewN HBK.out _) B1.out.size)⟩
        by_cases h256 : 256 < (t.size : Int)
        case pos =>
          have d256 : decide (256 < (t.size : Int)) = true := by simpa using h256
          · have NO1 := Lib.hid (NO.out (.inr (.inr (.inl h256))))
            clear NO YES
            go_wp2
            go_quiet (first | (go_at_call 79; exact HP.out _) | fail)
            (try clear hwr)
            go_wp2
            go_ret
            exact ⟨by rw [NO1.out]; rfl, B1.out.trans (Below.mono (below_drewN HBK.out _) B1.out.size)⟩
        have d256 : decide (256 < (t.size : Int)) = false := by simpa using h256
        cases is
        · cases te
          · have NO1 := Lib.hid (NO.out (.inr (.inr (.inr (.inl ⟨rfl, rfl⟩)))))
            clear NO YES
            go_wp2
            go_quiet (first | (go_at_call 79; exact HP.out _) | fail)
            (try clear hwr)
            go_wp2
            go_ret
            exact ⟨by rw [NO1.out]; rfl, B1.out.trans (Below.mono (below_drewN HBK.out _) B1.out.size)⟩
          · obtain ⟨bq, hbq⟩ : ∃ bq, (Op.bytesLess p.toList p0.toList || p.toList == p0.toList) = bq := ⟨_, rfl⟩
            have HBQ := Lib.hid (show lt p0 p = !bq by rw [← hbq]; exact leq_lt p p0)
            cases bq
            · have Y1 := Lib.hid (YES.out rfl (by omega) (by omega) (.inr rfl) HBQ.out)
              clear NO YES
              go_wp2
              go_quiet (first | (go_at_call 79; exact HP.out _) | fail)
              (try clear hwr hbq)
              go_wp2
              go_roundw
              case rel => exact ⟨m + 1 + 1, by omega, by go_num, Y1, Lib.hid (below_drewN HBK.out _)⟩
              case measure => simp [intOf]; omega
            · have NO1 := Lib.hid (NO.out (.inr (.inr (.inr (.inr HBQ.out)))))
              clear NO YES
              go_wp2
              go_quiet (first | (go_at_call 79; exact HP.out _) | fail)
              (try clear hwr hbq)
              go_wp2
              go_ret
              exact ⟨by rw [NO1.out]; rfl, B1.out.trans (Below.mono (below_drewN HBK.out _) B1.out.size)⟩
        · obtain ⟨bq, hbq⟩ : ∃ bq, (Op.bytesLess p.toList p0.toList || p.toList == p0.toList) = bq := ⟨_, rfl⟩
          have HBQ := Lib.hid (show lt p0 p = !bq by rw [← hbq]; exact leq_lt p p0)
          cases bq
          · have Y1 := Lib.hid (YES.out rfl (by omega) (by omega) (.inl rfl) HBQ.out)
            clear NO YES
            go_wp2
            go_quiet (first | (go_at_call 79; exact HP.out _) | fail)
            (try clear hwr hbq)
            go_wp2
            go_roundw
            case rel => exact ⟨m + 1 + 1, by omega, by go_num, Y1, Lib.hid (below_drewN HBK.out _)⟩
            case measure => simp [intOf]; omega
          · have NO1 := Lib.hid (NO.out (.inr (.inr (.inr (.inr HBQ.out)))))
            clear NO YES
            go_wp2
            go_quiet (first | (go_at_call 79; exact HP.out _) | fail)
            (try clear hwr hbq)
            go_wp2
            go_ret
            exact ⟨by rw [NO1.out]; rfl, B1.out.trans (Below.mono (below_drewN HBK.out _) B1.out.size)⟩

    · obtain rfl : k = n := by omega
      have hd : decide ((k : Int) < (k : Int)) = false := by simp
      have HV : Hid (rightC l = true) := Lib.hid ((rightC_iff l).2 ⟨by have := hg.out.1; omega, fun j hj => hg.out.2.1 j (by omega) hj, fun j hj => hg.out.2.2 j (by omega) hj⟩)
      clear hg
      go_wp2
      go_ret
      exact ⟨by rw [HV.out]; rfl, B1.out.trans (hb.out.mono B1.out.size)⟩
end Go.Proofs.YtcofkhmgmemkmaaGreatDoor
