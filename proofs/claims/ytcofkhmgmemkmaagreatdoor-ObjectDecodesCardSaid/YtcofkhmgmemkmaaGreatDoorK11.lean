/-
  PATHMAP: whether paths rise; whether rows fit.
-/
import Derived.Test.YtcofkhmgmemkmaaGreatDoorK10
namespace Go.Proofs.YtcofkhmgmemkmaaGreatDoor
set_option linter.unusedVariables false
set_option linter.unusedSimpArgs false
open Go.RowKit Go.WideShapes Go.ChangeShapes Go.Deep

theorem riseW_no {l : List ByteArray} {i : Nat} (h : i + 1 < l.length) (hn : lt l[i] l[i + 1] = false) : riseW l = false := by
  cases hr : riseW l with
  | false => rfl
  | true =>
    have := (riseW_iff l).1 hr i h
    rw [hn] at this
    cases this

set_option maxRecDepth 100000 in
set_option maxHeartbeats 1600000 in
theorem texts_rise {w : World} {A : Option Addr} {n c : Nat} {l : List Rw} (h : SqR w w.heap.size A n c l) (hn : n ≤ 1000000) :
    Calls Tryz.prog 50 #[tbR A n c] w fun e w' => e = .returned (.bool (riseW (l.map (·.p)))) ∧ Below w.heap.size w w' := by
  have B0 : Below w.heap.size w (w.alloc (.cells #[.slice A n c, .func (.func 67) #[] #[]] 101)) := (Below.refl _ _).alloc (Nat.le_refl _) _
  have HB0 := Lib.hid B0
  have L0 := Lib.hid (Lies.new w (tbLR A n c) 101)
  have h0 : SqR (w.alloc (.cells #[.slice A n c, .func (.func 67) #[] #[]] 101)) (w.alloc (.cells #[.slice A n c, .func (.func 67) #[] #[]] 101)).heap.size A n c l := (h.below B0).more B0.size
  have HX := Lib.hid (fun (W : World) (hW : Below (w.alloc (.cells #[.slice A n c, .func (.func 67) #[] #[]] 101)).heap.size (w.alloc (.cells #[.slice A n c, .func (.func 67) #[] #[]] 101)) W) (i : Nat) (hi : i < n) => texts_path ((h0.below hW).more hW.size) hn i hi)
  have hlen := h.len
  have hq : ∀ W : World, Below (w.alloc (.cells #[.slice A n c, .func (.func 67) #[] #[]] 101)).heap.size (w.alloc (.cells #[.slice A n c, .func (.func 67) #[] #[]] 101)) W → W.cell? ⟨w.heap.size, 0, none⟩ = some (.slice A n c) ∧ W.cell? ⟨w.heap.size, 1, none⟩ = some (.func (.func 67) #[] #[]) := fun W hW =>
    ⟨(hW.cell (p := ⟨w.heap.size, 0, none⟩) (by simp)).trans (L0.out.cell (j := 0) rfl), (hW.cell (p := ⟨w.heap.size, 1, none⟩) (by simp)).trans (L0.out.cell (j := 1) rfl)⟩
  have HQ := Lib.hid hq
  clear hq B0
  go_enter Tryz.func50, Tryz.ntmps50
  go_wp2
  go_loopw [3] (fun i wr => ∃ m : Nat, (m + 1 ≤ n ∨ m = 0) ∧ i = .int .i64 ((m : Int) + 1) ∧ Hid (∀ j (hj : j + 1 < m + 1) (hl : j + 1 < l.length), lt l[j].p l[j + 1].p = true) ∧ Hid (Below (w.alloc (.cells #[.slice A n c, .func (.func 67) #[] #[]] 101)).heap.size (w.alloc (.cells #[.slice A n c, .func (.func 67) #[] #[]] 101)) wr)) (fun i _ => n + 1 - (intOf i).toNat)
  case atStart => exact ⟨0, .inr rfl, rfl, Lib.hid (fun j hj => absurd hj (by omega)), Lib.hid (Below.refl _ _)⟩
  case round =>
    obtain ⟨m, hm, rfl, hg, hb⟩ := hrel
    obtain ⟨q0, q1⟩ := HQ.out _ hb.out
    by_cases hlt : m + 1 < n
    · have hd : decide ((m : Int) + 1 < (n : Int)) = true := by simp; omega
      have hm0 : (0 : Int) ≤ (m : Int) := Int.natCast_nonneg _
      have hm1 : (m : Int) + 1 < 1000001 := by omega
      have hst : Hid (lt (l[m]'(by omega)).p (l[m + 1]'(by omega)).p = true → ∀ j (hj : j + 1 < m + 1 + 1) (hl : j + 1 < l.length), lt l[j].p l[j + 1].p = true) := Lib.hid (fun h1 j hj hl => by
        by_cases e : j = m
        · subst e; exact h1
        · exact hg.out j (by omega) hl)
      have hno : Hid (lt (l[m]'(by omega)).p (l[m + 1]'(by omega)).p = false → riseW (l.map (·.p)) = false) := Lib.hid (fun h1 => riseW_no (i := m) (by simp; omega) (by simpa using h1))
      obtain ⟨p1, hp1⟩ : ∃ p, (l[m]'(by omega)).p = p := ⟨_, rfl⟩
      obtain ⟨p2, hp2⟩ : ∃ p, (l[m + 1]'(by omega)).p = p := ⟨_, rfl⟩
      have Y1 : Hid (∀ W, Below (w.alloc (.cells #[.slice A n c, .func (.func 67) #[] #[]] 101)).heap.size (w.alloc (.cells #[.slice A n c, .func (.func 67) #[] #[]] 101)) W → Calls Tryz.prog 70 #[tbR A n c, .int .i64 (m : Int)] W fun e w' => e = .returned (.string p1) ∧ Below W.heap.size W w') := Lib.hid fun W hW => by rw [← hp1]; exact HX.out W hW m (by omega)
      have Y2 : Hid (∀ W, Below (w.alloc (.cells #[.slice A n c, .func (.func 67) #[] #[]] 101)).heap.size (w.alloc (.cells #[.slice A n c, .func (.func 67) #[] #[]] 101)) W → Calls Tryz.prog 70 #[tbR A n c, .int .i64 ((m : Int) + 1)] W fun e w' => e = .returned (.string p2) ∧ Below W.heap.size W w') := Lib.hid fun W hW => by rw [← hp2]; exact HX.out W hW (m + 1) hlt
      rw [hp1, hp2] at hst hno
      clear hp1 hp2
      obtain ⟨bq, hbq⟩ : ∃ bq, Op.bytesLess p1.toList p2.toList = bq := ⟨_, rfl⟩
      have HBQ := Lib.hid (show lt p1 p2 = bq from hbq)
      have hwr : IntKind.i64.wrap (m : Int) = (m : Int) := IntWalk.i64_in _ (by omega)
      go_wp2
      go_region_held3 (fun w' => w'.cell? ⟨w.heap.size, 0, none⟩ = some (.slice A n c) ∧ w'.cell? ⟨w.heap.size, 1, none⟩ = some (.func (.func 67) #[] #[]) ∧ Below (w.alloc (.cells #[.slice A n c, .func (.func 67) #[] #[]] 101)).heap.size (w.alloc (.cells #[.slice A n c, .func (.func 67) #[] #[]] 101)) w') (first | (exact ⟨q0, q1, hb.out.drew⟩) | (with_reducible exact K6.out) | (with_reducible exact K5.out) | fail)
        (first
          | (go_at_call 70; have T := Y1.out _ hb.out.drew; with_reducible refine Calls.mono T ?_; clear T; rintro e w5 ⟨rfl, hb5⟩; have hb6 := (show Below (w.alloc (.cells #[.slice A n c, .func (.func 67) #[] #[]] 101)).heap.size (w.alloc (.cells #[.slice A n c, .func (.func 67) #[] #[]] 101)) w5 from hb.out.drew.trans (hb5.mono hb.out.drew.size)); have K5 := Lib.hid (show w5.cell? ⟨w.heap.size, 0, none⟩ = some (.slice A n c) ∧ w5.cell? ⟨w.heap.size, 1, none⟩ = some (.func (.func 67) #[] #[]) ∧ Below (w.alloc (.cells #[.slice A n c, .func (.func 67) #[] #[]] 101)).heap.size (w.alloc (.cells #[.slice A n c, .func (.func 67) #[] #[]] 101)) w5 from ⟨(HQ.out _ hb6).1, (HQ.out _ hb6).2, hb6⟩); clear hb5 hb6)
          | (go_at_call 70; have T := Y2.out _ K5.out.2.2; with_reducible refine Calls.mono T ?_; clear T; rintro e w6 ⟨rfl, hb5⟩; have hb6 := (show Below (w.alloc (.cells #[.slice A n c, .func (.func 67) #[] #[]] 101)).heap.size (w.alloc (.cells #[.slice A n c, .func (.func 67) #[] #[]] 101)) w6 from K5.out.2.2.trans (hb5.mono K5.out.2.2.size)); have K6 := Lib.hid (show w6.cell? ⟨w.heap.size, 0, none⟩ = some (.slice A n c) ∧ w6.cell? ⟨w.heap.size, 1, none⟩ = some (.func (.func 67) #[] #[]) ∧ Below (w.alloc (.cells #[.slice A n c, .func (.func 67) #[] #[]] 101)).heap.size (w.alloc (.cells #[.slice A n c, .func (.func 67) #[] #[]] 101)) w6 from ⟨(HQ.out _ hb6).1, (HQ.out _ hb6).2, hb6⟩); clear hb5 hb6)
          | fail)
      clear hwr hbq
      cases bq
      · simp only [Bool.not_false]
        go_wp2
        go_ret
        exact ⟨by rw [hno.out HBQ.out]; rfl, HB0.out.trans (K6.out.2.2.mono (by simp))⟩
      · simp only [Bool.not_true]
        go_wp2
        go_roundw
        case rel => exact ⟨m + 1, by omega, by go_num, Lib.hid (hst.out HBQ.out), Lib.hid K6.out.2.2⟩
        case measure => simp [intOf]; omega
    · have hd : decide ((m : Int) + 1 < (n : Int)) = false := by simp; omega
      have HV : Hid (riseW (l.map (·.p)) = true) := Lib.hid ((riseW_iff _).2 fun j hj => by
        have := hg.out j (by simp at hj; omega) (by simpa using hj)
        simpa using this)
      go_wp2
      go_ret
      exact ⟨by rw [HV.out]; rfl, HB0.out.trans (hb.out.mono (by simp))⟩

set_option maxRecDepth 100000 in
set_option maxHeartbeats 1600000 in
theorem changes_rise {w : World} {A : Option Addr} {n c : Nat} {l : List Ch} (h : SqC w w.heap.size A n c l) (hn : n ≤ 1000000) :
    Calls Tryz.prog 97 #[tbC A n c] w fun e w' => e = .returned (.bool (riseW (l.map (·.p)))) ∧ Below w.heap.size w w' := by
  have B0 : Below w.heap.size w (w.alloc (.cells #[.slice A n c, .func (.func 102) #[] #[]] 142)) := (Below.refl _ _).alloc (Nat.le_refl _) _
  have HB0 := Lib.hid B0
  have L0 := Lib.hid (Lies.new w (tbLC A n c) 142)
  have h0 : SqC (w.alloc (.cells #[.slice A n c, .func (.func 102) #[] #[]] 142)) (w.alloc (.cells #[.slice A n c, .func (.func 102) #[] #[]] 142)).heap.size A n c l := (h.below B0).more B0.size
  have HX := Lib.hid (fun (W : World) (hW : Below (w.alloc (.cells #[.slice A n c, .func (.func 102) #[] #[]] 142)).heap.size (w.alloc (.cells #[.slice A n c, .func (.func 102) #[] #[]] 142)) W) (i : Nat) (hi : i < n) => changes_path ((h0.below hW).more hW.size) hn i hi)
  have hlen := h.len
  have hq : ∀ W : World, Below (w.alloc (.cells #[.slice A n c, .func (.func 102) #[] #[]] 142)).heap.size (w.alloc (.cells #[.slice A n c, .func (.func 102) #[] #[]] 142)) W → W.cell? ⟨w.heap.size, 0, none⟩ = some (.slice A n c) ∧ W.cell? ⟨w.heap.size, 1, none⟩ = some (.func (.func 102) #[] #[]) := fun W hW =>
    ⟨(hW.cell (p := ⟨w.heap.size, 0, none⟩) (by simp)).trans (L0.out.cell (j := 0) rfl), (hW.cell (p := ⟨w.heap.size, 1, none⟩) (by simp)).trans (L0.out.cell (j := 1) rfl)⟩
  have HQ := Lib.hid hq
  clear hq B0
  go_enter Tryz.func97, Tryz.ntmps97
  go_wp2
  go_loopw [3] (fun i wr => ∃ m : Nat, (m + 1 ≤ n ∨ m = 0) ∧ i = .int .i64 ((m : Int) + 1) ∧ Hid (∀ j (hj : j + 1 < m + 1) (hl : j + 1 < l.length), lt l[j].p l[j + 1].p = true) ∧ Hid (Below (w.alloc (.cells #[.slice A n c, .func (.func 102) #[] #[]] 142)).heap.size (w.alloc (.cells #[.slice A n c, .func (.func 102) #[] #[]] 142)) wr)) (fun i _ => n + 1 - (intOf i).toNat)
  case atStart => exact ⟨0, .inr rfl, rfl, Lib.hid (fun j hj => absurd hj (by omega)), Lib.hid (Below.refl _ _)⟩
  case round =>
    obtain ⟨m, hm, rfl, hg, hb⟩ := hrel
    obtain ⟨q0, q1⟩ := HQ.out _ hb.out
    by_cases hlt : m + 1 < n
    · have hd : decide ((m : Int) + 1 < (n : Int)) = true := by simp; omega
      have hm0 : (0 : Int) ≤ (m : Int) := Int.natCast_nonneg _
      have hm1 : (m : Int) + 1 < 1000001 := by omega
      have hst : Hid (lt (l[m]'(by omega)).p (l[m + 1]'(by omega)).p = true → ∀ j (hj : j + 1 < m + 1 + 1) (hl : j + 1 < l.length), lt l[j].p l[j + 1].p = true) := Lib.hid (fun h1 j hj hl => by
        by_cases e : j = m
        · subst e; exact h1
        · exact hg.out j (by omega) hl)
      have hno : Hid (lt (l[m]'(by omega)).p (l[m + 1]'(by omega)).p = false → riseW (l.map (·.p)) = false) := Lib.hid (fun h1 => riseW_no (i := m) (by simp; omega) (by simpa using h1))
      obtain ⟨p1, hp1⟩ : ∃ p, (l[m]'(by omega)).p = p := ⟨_, rfl⟩
      obtain ⟨p2, hp2⟩ : ∃ p, (l[m + 1]'(by omega)).p = p := ⟨_, rfl⟩
      have Y1 : Hid (∀ W, Below (w.alloc (.cells #[.slice A n c, .func (.func 102) #[] #[]] 142)).heap.size (w.alloc (.cells #[.slice A n c, .func (.func 102) #[] #[]] 142)) W → Calls Tryz.prog 103 #[tbC A n c, .int .i64 (m : Int)] W fun e w' => e = .returned (.string p1) ∧ Below W.heap.size W w') := Lib.hid fun W hW => by rw [← hp1]; exact HX.out W hW m (by omega)
      have Y2 : Hid (∀ W, Below (w.alloc (.cells #[.slice A n c, .func (.func 102) #[] #[]] 142)).heap.size (w.alloc (.cells #[.slice A n c, .func (.func 102) #[] #[]] 142)) W → Calls Tryz.prog 103 #[tbC A n c, .int .i64 ((m : Int) + 1)] W fun e w' => e = .returned (.string p2) ∧ Below W.heap.size W w') := Lib.hid fun W hW => by rw [← hp2]; exact HX.out W hW (m + 1) hlt
      rw [hp1, hp2] at hst hno
      clear hp1 hp2
      obtain ⟨bq, hbq⟩ : ∃ bq, Op.bytesLess p1.toList p2.toList = bq := ⟨_, rfl⟩
      have HBQ := Lib.hid (show lt p1 p2 = bq from hbq)
      have hwr : IntKind.i64.wrap (m : Int) = (m : Int) := IntWalk.i64_in _ (by omega)
      go_wp2
      go_region_held3 (fun w' => w'.cell? ⟨w.heap.size, 0, none⟩ = some (.slice A n c) ∧ w'.cell? ⟨w.heap.size, 1, none⟩ = some (.func (.func 102) #[] #[]) ∧ Below (w.alloc (.cells #[.slice A n c, .func (.func 102) #[] #[]] 142)).heap.size (w.alloc (.cells #[.slice A n c, .func (.func 102) #[] #[]] 142)) w') (first | (exact ⟨q0, q1, hb.out.drew⟩) | (with_reducible exact K6.out) | (with_reducible exact K5.out) | fail)
        (first
          | (go_at_call 103; have T := Y1.out _ hb.out.drew; with_reducible refine Calls.mono T ?_; clear T; rintro e w5 ⟨rfl, hb5⟩; have hb6 := (show Below (w.alloc (.cells #[.slice A n c, .func (.func 102) #[] #[]] 142)).heap.size (w.alloc (.cells #[.slice A n c, .func (.func 102) #[] #[]] 142)) w5 from hb.out.drew.trans (hb5.mono hb.out.drew.size)); have K5 := Lib.hid (show w5.cell? ⟨w.heap.size, 0, none⟩ = some (.slice A n c) ∧ w5.cell? ⟨w.heap.size, 1, none⟩ = some (.func (.func 102) #[] #[]) ∧ Below (w.alloc (.cells #[.slice A n c, .func (.func 102) #[] #[]] 142)).heap.size (w.alloc (.cells #[.slice A n c, .func (.func 102) #[] #[]] 142)) w5 from ⟨(HQ.out _ hb6).1, (HQ.out _ hb6).2, hb6⟩); clear hb5 hb6)
          | (go_at_call 103; have T := Y2.out _ K5.out.2.2; with_reducible refine Calls.mono T ?_; clear T; rintro e w6 ⟨rfl, hb5⟩; have hb6 := (show Below (w.alloc (.cells #[.slice A n c, .func (.func 102) #[] #[]] 142)).heap.size (w.alloc (.cells #[.slice A n c, .func (.func 102) #[] #[]] 142)) w6 from K5.out.2.2.trans (hb5.mono K5.out.2.2.size)); have K6 := Lib.hid (show w6.cell? ⟨w.heap.size, 0, none⟩ = some (.slice A n c) ∧ w6.cell? ⟨w.heap.size, 1, none⟩ = some (.func (.func 102) #[] #[]) ∧ Below (w.alloc (.cells #[.slice A n c, .func (.func 102) #[] #[]] 142)).heap.size (w.alloc (.cells #[.slice A n c, .func (.func 102) #[] #[]] 142)) w6 from ⟨(HQ.out _ hb6).1, (HQ.out _ hb6).2, hb6⟩); clear hb5 hb6)
          | fail)
      clear hwr hbq
      cases bq
      · simp only [Bool.not_false]
        go_wp2
        go_ret
        exact ⟨by rw [hno.out HBQ.out]; rfl, HB0.out.trans (K6.out.2.2.mono (by simp))⟩
      · simp only [Bool.not_true]
        go_wp2
        go_roundw
        case rel => exact ⟨m + 1, by omega, by go_num, Lib.hid (hst.out HBQ.out), Lib.hid K6.out.2.2⟩
        case measure => simp [intOf]; omega
    · have hd : decide ((m : Int) + 1 < (n : Int)) = false := by simp; omega
      have HV : Hid (riseW (l.map (·.p)) = true) := Lib.hid ((riseW_iff _).2 fun j hj => by
        have := hg.out j (by simp at hj; omega) (by simpa using hj)
        simpa using this)
      go_wp2
      go_ret
      exact ⟨by rw [HV.out]; rfl, HB0.out.trans (hb.out.mono (by simp))⟩
end Go.Proofs.YtcofkhmgmemkmaaGreatDoor
