/-
  PATHMAP: whether rows fit.
-/
import Derived.Test.YtcofkhmgmemkmaaGreatDoorK11
namespace Go.Proofs.YtcofkhmgmemkmaaGreatDoor
set_option linter.unusedVariables false
set_option linter.unusedSimpArgs false
open Go.RowKit Go.WideShapes Go.ChangeShapes Go.Deep

theorem fitW_long {α : Type} {p t : α → ByteArray} {l : List α} (h : 32 < l.length) : fitW p t l = false := by
  unfold fitW
  rw [decide_eq_false (by omega)]
  rfl
theorem fitW_no {α : Type} {p t : α → ByteArray} {l : List α} {i : Nat} (h : i < l.length) (hf : fitP (p l[i]) (t l[i]) = false) : fitW p t l = false := by
  unfold fitW
  rw [Bool.and_eq_false_iff]
  exact .inr (List.all_eq_false.2 ⟨l[i], List.getElem_mem _, by simp [hf]⟩)

abbrev fwR (w : World) (A : Option Addr) (n c : Nat) : World := (((w.alloc (.cells #[.slice A n c, .func (.func 67) #[] #[]] 101)).alloc (.cells #[.int .i64 32] 3)).alloc (.cells #[.int .i64 48] 3)).alloc (.cells #[.int .i64 256] 3)
theorem fwR_at (w : World) (A : Option Addr) (n c : Nat) (W : World) (h : Below (fwR w A n c).heap.size (fwR w A n c) W) : W.cell? ⟨w.heap.size, 0, none⟩ = some (.slice A n c) ∧ W.cell? ⟨w.heap.size, 1, none⟩ = some (.func (.func 67) #[] #[]) ∧
    W.cell? ⟨w.heap.size + 1, 0, none⟩ = some (.int .i64 32) ∧ W.cell? ⟨w.heap.size + 1 + 1, 0, none⟩ = some (.int .i64 48) ∧ W.cell? ⟨w.heap.size + 1 + 1 + 1, 0, none⟩ = some (.int .i64 256) := by
  have l0 := (((Lies.new w (tbLR A n c) 101).alloc (.cells #[.int .i64 32] 3)).alloc (.cells #[.int .i64 48] 3)).alloc (.cells #[.int .i64 256] 3)
  have l1 := ((Lies.new (w.alloc (.cells #[.slice A n c, .func (.func 67) #[] #[]] 101)) [.int .i64 32] 3).alloc (.cells #[.int .i64 48] 3)).alloc (.cells #[.int .i64 256] 3)
  have l2 := (Lies.new ((w.alloc (.cells #[.slice A n c, .func (.func 67) #[] #[]] 101)).alloc (.cells #[.int .i64 32] 3)) [.int .i64 48] 3).alloc (.cells #[.int .i64 256] 3)
  have l3 := Lies.new (((w.alloc (.cells #[.slice A n c, .func (.func 67) #[] #[]] 101)).alloc (.cells #[.int .i64 32] 3)).alloc (.cells #[.int .i64 48] 3)) [.int .i64 256] 3
  simp only [World.size_alloc] at l1 l2 l3
  exact ⟨(h.cell (p := ⟨w.heap.size, 0, none⟩) (by simp; omega)).trans (l0.cell (j := 0) rfl), (h.cell (p := ⟨w.heap.size, 1, none⟩) (by simp; omega)).trans (l0.cell (j := 1) rfl), (h.cell (p := ⟨w.heap.size + 1, 0, none⟩) (by simp)).trans (l1.cell (j := 0) rfl), (h.cell (p := ⟨w.heap.size + 1 + 1, 0, none⟩) (by simp)).trans (l2.cell (j := 0) rfl), (h.cell (p := ⟨w.heap.size + 1 + 1 + 1, 0, none⟩) (by simp)).trans (l3.cell (j := 0) rfl)⟩
theorem fwR_below (w : World) (A : Option Addr) (n c : Nat) : Below w.heap.size w (fwR w A n c) :=
  ((((Below.refl _ _).alloc (Nat.le_refl _) _).alloc (by simp) _).alloc (by simp; omega) _).alloc (by simp; omega) _
set_option maxRecDepth 100000 in
set_option maxHeartbeats 1600000 in
theorem texts_fit {w : World} {A : Option Addr} {n c : Nat} {l : List Rw} (h : SqR w w.heap.size A n c l) (hn : n ≤ 1000000) :
    Calls Tryz.prog 49 #[tbR A n c] w fun e w' => e = .returned (.bool (fitW (·.p) (·.t) l)) ∧ Below w.heap.size w w' := by
  have HB0 := Lib.hid (fwR_below w A n c)
  have h0 : SqR (fwR w A n c) w.heap.size A n c l := h.below HB0.out
  have HQ := Lib.hid (fwR_at w A n c)
  have hlen := h.len
  obtain ⟨-, -, c1, -, -⟩ := HQ.out _ (Below.refl _ _)
  have C1 := Lib.hid c1
  clear c1
  have HL := Lib.hid (fun h : 32 < l.length => fitW_long (p := (·.p)) (t := (·.t)) h)
  go_enter Tryz.func49, Tryz.ntmps49
  by_cases h32 : 32 < (n : Int)
  · have d32 : decide (32 < (n : Int)) = true := by simpa using h32
    go_wp2_with (first | (go_at_call 68; refine (over_any _ _).mono ?_; rintro e w' ⟨rfl, rfl⟩) | (go_at_call 84; have T := over1_any (n : Int) 32 (w.heap.size + 1) (fwR w A n c) C1.out; with_reducible refine Calls.mono T ?_; clear T; rintro e w' ⟨rfl, rfl⟩) | fail)
    go_ret
    exact ⟨by rw [HL.out (by omega)]; rfl, HB0.out⟩
  · have d32 : decide (32 < (n : Int)) = false := by simpa using h32
    go_wp2_with (first | (go_at_call 68; refine (over_any _ _).mono ?_; rintro e w' ⟨rfl, rfl⟩) | (go_at_call 84; have T := over1_any (n : Int) 32 (w.heap.size + 1) (fwR w A n c) C1.out; with_reducible refine Calls.mono T ?_; clear T; rintro e w' ⟨rfl, rfl⟩) | fail)
    go_loopw [21] (fun i wr => ∃ k : Nat, k ≤ n ∧ i = .int .i64 (k : Int) ∧ Hid (∀ j (hj : j < k) (hl : j < l.length), fitP l[j].p l[j].t = true) ∧ Hid (Below (fwR w A n c).heap.size (fwR w A n c) wr)) (fun i _ => n - (intOf i).toNat)
    case atStart => exact ⟨0, Nat.zero_le _, rfl, Lib.hid (fun j hj => absurd hj (by omega)), Lib.hid (Below.refl _ _)⟩
    case round =>
      obtain ⟨k, hk, rfl, hg, hb⟩ := hrel
      obtain ⟨q0, q1, q2, q3, q4⟩ := HQ.out _ hb.out
      by_cases hlt : k < n
      · have hd : decide ((k : Int) < (n : Int)) = true := by simp; omega
        have hk0 : (0 : Int) ≤ (k : Int) := Int.natCast_nonneg _
        have hk1 : (k : Int) < (n : Int) := by omega
        obtain ⟨b, o, rfl, hbl, hrg⟩ := (h0.below (hb.out.mono HB0.out.size)).at_ hlt
        obtain ⟨r, hr⟩ : ∃ r, l[k]'(by omega) = r := ⟨_, rfl⟩
        rw [hr] at hrg
        have NO := Lib.hid (fun hf : fitP r.p r.t = false => fitW_no (p := (·.p)) (t := (·.t)) (l := l) (i := k) (by omega) (by rw [hr]; exact hf))
        have ST : Hid (fitP r.p r.t = true → ∀ j (hj : j < k + 1) (hl : j < l.length), fitP l[j].p l[j].t = true) := Lib.hid (fun h1 j hj hl => by
          by_cases e : j = k
          · subst e; rw [hr]; exact h1
          · exact hg.out j (by omega) hl)
        clear hr
        have r0 : wr.cell? ⟨b, o + k * 2, none⟩ = some (.string r.p) := hrg 0 _ rfl
        have r1 : wr.cell? ⟨b, o + k * 2 + 1, none⟩ = some (.string r.t) := hrg 1 _ rfl
        have hba := hb.out.alloc hb.out.size (.cells #[.string r.p, .string r.t] 48)
        obtain ⟨s0, s1, s2, s3, s4⟩ := HQ.out _ hba
        clear hrg hba
        by_cases he : r.p.toList.isEmpty = true
        · have NO1 := Lib.hid (NO.out (by unfold fitP; rw [he]; rfl))
          clear NO ST
          go_wp2_with (first | (go_at_call 67; have T := texts1_any r (wr.alloc (.cells #[.string r.p, .string r.t] 48)); with_reducible refine Calls.mono T ?_; clear T; rintro e w5 ⟨rfl, hb5⟩; have hb6 := hb.out.trans ((Below.refl _ wr).alloc hb.out.size (.cells #[.string r.p, .string r.t] 48)) |>.trans (hb5.mono (by have := hb.out.size; simp at this ⊢; omega)); have G5 := Lib.hid hb6; clear hb5 hb6) | (go_at_call 84; have T := over1_any (r.p.size : Int) 48 (w.heap.size + 1 + 1) w5 (HQ.out _ G5.out).2.2.2.1; with_reducible refine Calls.mono T ?_; clear T; rintro e w' ⟨rfl, hw'⟩; subst w') | (go_at_call 84; have T := over1_any (r.t.size : Int) 256 (w.heap.size + 1 + 1 + 1) w5 (HQ.out _ G5.out).2.2.2.2; with_reducible refine Calls.mono T ?_; clear T; rintro e w' ⟨rfl, hw'⟩; subst w') | (go_at_call 69; have T := visible_any r.p HV.out w5; with_reducible refine Calls.mono T ?_; clear T; rintro e w7 ⟨rfl, hb7⟩; have G7 := Lib.hid (G5.out.trans (hb7.mono G5.out.size)); clear hb7) | fail)
          go_ret
          exact ⟨by rw [NO1.out]; rfl, HB0.out.trans (G5.out.mono HB0.out.size)⟩
        · have he : r.p.toList.isEmpty = false := by simpa using he
          by_cases h48 : 48 < (r.p.size : Int)
          · have d48 : decide (48 < (r.p.size : Int)) = true := by simpa using h48
            have NO1 := Lib.hid (NO.out (by unfold fitP; rw [decide_eq_false (show ¬ r.p.size ≤ 48 by omega)]; simp))
            clear NO ST
            go_wp2_with (first | (go_at_call 67; have T := texts1_any r (wr.alloc (.cells #[.string r.p, .string r.t] 48)); with_reducible refine Calls.mono T ?_; clear T; rintro e w5 ⟨rfl, hb5⟩; have hb6 := hb.out.trans ((Below.refl _ wr).alloc hb.out.size (.cells #[.string r.p, .string r.t] 48)) |>.trans (hb5.mono (by have := hb.out.size; simp at this ⊢; omega)); have G5 := Lib.hid hb6; clear hb5 hb6) | (go_at_call 84; have T := over1_any (r.p.size : Int) 48 (w.heap.size + 1 + 1) w5 (HQ.out _ G5.out).2.2.2.1; with_reducible refine Calls.mono T ?_; clear T; rintro e w' ⟨rfl, hw'⟩; subst w') | (go_at_call 84; have T := over1_any (r.t.size : Int) 256 (w.heap.size + 1 + 1 + 1) w5 (HQ.out _ G5.out).2.2.2.2; with_reducible refine Calls.mono T ?_; clear T; rintro e w' ⟨rfl, hw'⟩; subst w') | (go_at_call 69; have T := visible_any r.p HV.out w5; with_reducible refine Calls.mono T ?_; clear T; rintro e w7 ⟨rfl, hb7⟩; have G7 := Lib.hid (G5.out.trans (hb7.mono G5.out.size)); clear hb7) | fail)
            go_ret
            exact ⟨by rw [NO1.out]; rfl, HB0.out.trans (G5.out.mono HB0.out.size)⟩
          · have d48 : decide (48 < (r.p.size : Int)) = false := by simpa using h48
            by_cases h256 : 256 < (r.t.size : Int)
            · have d256 : decide (256 < (r.t.size : Int)) = true := by simpa using h256
              have NO1 := Lib.hid (NO.out (by unfold fitP; rw [decide_eq_false (show ¬ r.t.size ≤ 256 by omega)]; simp))
              clear NO ST
              go_wp2_with (first | (go_at_call 67; have T := texts1_any r (wr.alloc (.cells #[.string r.p, .string r.t] 48)); with_reducible refine Calls.mono T ?_; clear T; rintro e w5 ⟨rfl, hb5⟩; have hb6 := hb.out.trans ((Below.refl _ wr).alloc hb.out.size (.cells #[.string r.p, .string r.t] 48)) |>.trans (hb5.mono (by have := hb.out.size; simp at this ⊢; omega)); have G5 := Lib.hid hb6; clear hb5 hb6) | (go_at_call 84; have T := over1_any (r.p.size : Int) 48 (w.heap.size + 1 + 1) w5 (HQ.out _ G5.out).2.2.2.1; with_reducible refine Calls.mono T ?_; clear T; rintro e w' ⟨rfl, hw'⟩; subst w') | (go_at_call 84; have T := over1_any (r.t.size : Int) 256 (w.heap.size + 1 + 1 + 1) w5 (HQ.out _ G5.out).2.2.2.2; with_reducible refine Calls.mono T ?_; clear T; rintro e w' ⟨rfl, hw'⟩; subst w') | (go_at_call 69; have T := visible_any r.p HV.out w5; with_reducible refine Calls.mono T ?_; clear T; rintro e w7 ⟨rfl, hb7⟩; have G7 := Lib.hid (G5.out.trans (hb7.mono G5.out.size)); clear hb7) | fail)
              go_ret
              exact ⟨by rw [NO1.out]; rfl, HB0.out.trans (G5.out.mono HB0.out.size)⟩
            · have d256 : decide (256 < (r.t.size : Int)) = false := by simpa using h256
              have HV := Lib.hid (show r.p.size ≤ 1000000 by omega)
              obtain ⟨vq, hvq⟩ : ∃ vq, visW r.p = vq := ⟨_, rfl⟩
              have hfp : fitP r.p r.t = vq := by unfold fitP; rw [he, decide_eq_true (show r.p.size ≤ 48 by omega), decide_eq_true (show r.t.size ≤ 256 by omega), hvq]; simp
              cases vq
              · have NO1 := Lib.hid (NO.out hfp)
                clear NO ST hfp
                go_wp2_with (first | (go_at_call 67; have T := texts1_any r (wr.alloc (.cells #[.string r.p, .string r.t] 48)); with_reducible refine Calls.mono T ?_; clear T; rintro e w5 ⟨rfl, hb5⟩; have hb6 := hb.out.trans ((Below.refl _ wr).alloc hb.out.size (.cells #[.string r.p, .string r.t] 48)) |>.trans (hb5.mono (by have := hb.out.size; simp at this ⊢; omega)); have G5 := Lib.hid hb6; clear hb5 hb6) | (go_at_call 84; have T := over1_any (r.p.size : Int) 48 (w.heap.size + 1 + 1) w5 (HQ.out _ G5.out).2.2.2.1; with_reducible refine Calls.mono T ?_; clear T; rintro e w' ⟨rfl, hw'⟩; subst w') | (go_at_call 84; have T := over1_any (r.t.size : Int) 256 (w.heap.size + 1 + 1 + 1) w5 (HQ.out _ G5.out).2.2.2.2; with_reducible refine Calls.mono T ?_; clear T; rintro e w' ⟨rfl, hw'⟩; subst w') | (go_at_call 69; have T := visible_any r.p HV.out w5; with_reducible refine Calls.mono T ?_; clear T; rintro e w7 ⟨rfl, hb7⟩; have G7 := Lib.hid (G5.out.trans (hb7.mono G5.out.size)); clear hb7) | fail)
                go_ret
                exact ⟨by rw [NO1.out]; rfl, HB0.out.trans (G7.out.mono HB0.out.size)⟩
              · have ST1 := Lib.hid (ST.out hfp)
                clear NO ST hfp
                go_wp2_with (first | (go_at_call 67; have T := texts1_any r (wr.alloc (.cells #[.string r.p, .string r.t] 48)); with_reducible refine Calls.mono T ?_; clear T; rintro e w5 ⟨rfl, hb5⟩; have hb6 := hb.out.trans ((Below.refl _ wr).alloc hb.out.size (.cells #[.string r.p, .string r.t] 48)) |>.trans (hb5.mono (by have := hb.out.size; simp at this ⊢; omega)); have G5 := Lib.hid hb6; clear hb5 hb6) | (go_at_call 84; have T := over1_any (r.p.size : Int) 48 (w.heap.size + 1 + 1) w5 (HQ.out _ G5.out).2.2.2.1; with_reducible refine Calls.mono T ?_; clear T; rintro e w' ⟨rfl, hw'⟩; subst w') | (go_at_call 84; have T := over1_any (r.t.size : Int) 256 (w.heap.size + 1 + 1 + 1) w5 (HQ.out _ G5.out).2.2.2.2; with_reducible refine Calls.mono T ?_; clear T; rintro e w' ⟨rfl, hw'⟩; subst w') | (go_at_call 69; have T := visible_any r.p HV.out w5; with_reducible refine Calls.mono T ?_; clear T; rintro e w7 ⟨rfl, hb7⟩; have G7 := Lib.hid (G5.out.trans (hb7.mono G5.out.size)); clear hb7) | fail)
                go_roundw
                case rel => exact ⟨k + 1, by omega, by go_num, ST1, G7⟩
                case measure => simp [intOf]; omega
      · have hd : decide ((k : Int) < (n : Int)) = false := by simp; omega
        obtain rfl : k = n := by omega
        have HV : Hid (fitW (·.p) (·.t) l = true) := Lib.hid (by
          unfold fitW
          rw [decide_eq_true (show l.length ≤ 32 by omega), Bool.true_and, List.all_eq_true]
          intro x hx
          obtain ⟨j, hj, rfl⟩ := List.getElem_of_mem hx
          exact hg.out j (by omega) hj)
        go_wp2
        go_ret
        exact ⟨by rw [HV.out]; rfl, HB0.out.trans (hb.out.mono HB0.out.size)⟩

abbrev fwC (w : World) (A : Option Addr) (n c : Nat) : World := (((w.alloc (.cells #[.slice A n c, .func (.func 102) #[] #[]] 142)).alloc (.cells #[.int .i64 32] 3)).alloc (.cells #[.int .i64 48] 3)).alloc (.cells #[.int .i64 256] 3)
theorem fwC_at (w : World) (A : Option Addr) (n c : Nat) (W : World) (h : Below (fwC w A n c).heap.size (fwC w A n c) W) : W.cell? ⟨w.heap.size, 0, none⟩ = some (.slice A n c) ∧ W.cell? ⟨w.heap.size, 1, none⟩ = some (.func (.func 102) #[] #[]) ∧
    W.cell? ⟨w.heap.size + 1, 0, none⟩ = some (.int .i64 32) ∧ W.cell? ⟨w.heap.size + 1 + 1, 0, none⟩ = some (.int .i64 48) ∧ W.cell? ⟨w.heap.size + 1 + 1 + 1, 0, none⟩ = some (.int .i64 256) := by
  have l0 := (((Lies.new w (tbLC A n c) 142).alloc (.cells #[.int .i64 32] 3)).alloc (.cells #[.int .i64 48] 3)).alloc (.cells #[.int .i64 256] 3)
  have l1 := ((Lies.new (w.alloc (.cells #[.slice A n c, .func (.func 102) #[] #[]] 142)) [.int .i64 32] 3).alloc (.cells #[.int .i64 48] 3)).alloc (.cells #[.int .i64 256] 3)
  have l2 := (Lies.new ((w.alloc (.cells #[.slice A n c, .func (.func 102) #[] #[]] 142)).alloc (.cells #[.int .i64 32] 3)) [.int .i64 48] 3).alloc (.cells #[.int .i64 256] 3)
  have l3 := Lies.new (((w.alloc (.cells #[.slice A n c, .func (.func 102) #[] #[]] 142)).alloc (.cells #[.int .i64 32] 3)).alloc (.cells #[.int .i64 48] 3)) [.int .i64 256] 3
  simp only [World.size_alloc] at l1 l2 l3
  exact ⟨(h.cell (p := ⟨w.heap.size, 0, none⟩) (by simp; omega)).trans (l0.cell (j := 0) rfl), (h.cell (p := ⟨w.heap.size, 1, none⟩) (by simp; omega)).trans (l0.cell (j := 1) rfl), (h.cell (p := ⟨w.heap.size + 1, 0, none⟩) (by simp)).trans (l1.cell (j := 0) rfl), (h.cell (p := ⟨w.heap.size + 1 + 1, 0, none⟩) (by simp)).trans (l2.cell (j := 0) rfl), (h.cell (p := ⟨w.heap.size + 1 + 1 + 1, 0, none⟩) (by simp)).trans (l3.cell (j := 0) rfl)⟩
theorem fwC_below (w : World) (A : Option Addr) (n c : Nat) : Below w.heap.size w (fwC w A n c) :=
  ((((Below.refl _ _).alloc (Nat.le_refl _) _).alloc (by simp) _).alloc (by simp; omega) _).alloc (by simp; omega) _
set_option maxRecDepth 100000 in
set_option maxHeartbeats 1600000 in
theorem changes_fit {w : World} {A : Option Addr} {n c : Nat} {l : List Ch} (h : SqC w w.heap.size A n c l) (hn : n ≤ 1000000) :
    Calls Tryz.prog 96 #[tbC A n c] w fun e w' => e = .returned (.bool (fitW (·.p) (·.t) l)) ∧ Below w.heap.size w w' := by
  have HB0 := Lib.hid (fwC_below w A n c)
  have h0 : SqC (fwC w A n c) w.heap.size A n c l := h.below HB0.out
  have HQ := Lib.hid (fwC_at w A n c)
  have hlen := h.len
  obtain ⟨-, -, c1, -, -⟩ := HQ.out _ (Below.refl _ _)
  have C1 := Lib.hid c1
  clear c1
  have HL := Lib.hid (fun h : 32 < l.length => fitW_long (p := (·.p)) (t := (·.t)) h)
  go_enter Tryz.func96, Tryz.ntmps96
  by_cases h32 : 32 < (n : Int)
  · have d32 : decide (32 < (n : Int)) = true := by simpa using h32
    go_wp2_with (first | (go_at_call 68; refine (over_any _ _).mono ?_; rintro e w' ⟨rfl, rfl⟩) | (go_at_call 84; have T := over1_any (n : Int) 32 (w.heap.size + 1) (fwC w A n c) C1.out; with_reducible refine Calls.mono T ?_; clear T; rintro e w' ⟨rfl, rfl⟩) | fail)
    go_ret
    exact ⟨by rw [HL.out (by omega)]; rfl, HB0.out⟩
  · have d32 : decide (32 < (n : Int)) = false := by simpa using h32
    go_wp2_with (first | (go_at_call 68; refine (over_any _ _).mono ?_; rintro e w' ⟨rfl, rfl⟩) | (go_at_call 84; have T := over1_any (n : Int) 32 (w.heap.size + 1) (fwC w A n c) C1.out; with_reducible refine Calls.mono T ?_; clear T; rintro e w' ⟨rfl, rfl⟩) | fail)
    go_loopw [21] (fun i wr => ∃ k : Nat, k ≤ n ∧ i = .int .i64 (k : Int) ∧ Hid (∀ j (hj : j < k) (hl : j < l.length), fitP l[j].p l[j].t = true) ∧ Hid (Below (fwC w A n c).heap.size (fwC w A n c) wr)) (fun i _ => n - (intOf i).toNat)
    case atStart => exact ⟨0, Nat.zero_le _, rfl, Lib.hid (fun j hj => absurd hj (by omega)), Lib.hid (Below.refl _ _)⟩
    case round =>
      obtain ⟨k, hk, rfl, hg, hb⟩ := hrel
      obtain ⟨q0, q1, q2, q3, q4⟩ := HQ.out _ hb.out
      by_cases hlt : k < n
      · have hd : decide ((k : Int) < (n : Int)) = true := by simp; omega
        have hk0 : (0 : Int) ≤ (k : Int) := Int.natCast_nonneg _
        have hk1 : (k : Int) < (n : Int) := by omega
        obtain ⟨b, o, rfl, hbl, hrg⟩ := (h0.below (hb.out.mono HB0.out.size)).at_ hlt
        obtain ⟨r, hr⟩ : ∃ r, l[k]'(by omega) = r := ⟨_, rfl⟩
        rw [hr] at hrg
        have NO := Lib.hid (fun hf : fitP r.p r.t = false => fitW_no (p := (·.p)) (t := (·.t)) (l := l) (i := k) (by omega) (by rw [hr]; exact hf))
        have ST : Hid (fitP r.p r.t = true → ∀ j (hj : j < k + 1) (hl : j < l.length), fitP l[j].p l[j].t = true) := Lib.hid (fun h1 j hj hl => by
          by_cases e : j = k
          · subst e; rw [hr]; exact h1
          · exact hg.out j (by omega) hl)
        clear hr
        have r0 : wr.cell? ⟨b, o + k * 3, none⟩ = some (.string r.p) := hrg 0 _ rfl
        have r1 : wr.cell? ⟨b, o + k * 3 + 1, none⟩ = some (.bool r.is) := hrg 1 _ rfl
        have r2 : wr.cell? ⟨b, o + k * 3 + 2, none⟩ = some (.string r.t) := hrg 2 _ rfl
        have hba := hb.out.alloc hb.out.size (.cells #[.string r.p, .bool r.is, .string r.t] 71)
        obtain ⟨s0, s1, s2, s3, s4⟩ := HQ.out _ hba
        clear hrg hba
        by_cases he : r.p.toList.isEmpty = true
        · have NO1 := Lib.hid (NO.out (by unfold fitP; rw [he]; rfl))
          clear NO ST
          go_wp2_with (first | (go_at_call 102; have T := changes1_any r (wr.alloc (.cells #[.string r.p, .bool r.is, .string r.t] 71)); with_reducible refine Calls.mono T ?_; clear T; rintro e w5 ⟨rfl, hb5⟩; have hb6 := hb.out.trans ((Below.refl _ wr).alloc hb.out.size (.cells #[.string r.p, .bool r.is, .string r.t] 71)) |>.trans (hb5.mono (by have := hb.out.size; simp at this ⊢; omega)); have G5 := Lib.hid hb6; clear hb5 hb6) | (go_at_call 84; have T := over1_any (r.p.size : Int) 48 (w.heap.size + 1 + 1) w5 (HQ.out _ G5.out).2.2.2.1; with_reducible refine Calls.mono T ?_; clear T; rintro e w' ⟨rfl, hw'⟩; subst w') | (go_at_call 84; have T := over1_any (r.t.size : Int) 256 (w.heap.size + 1 + 1 + 1) w5 (HQ.out _ G5.out).2.2.2.2; with_reducible refine Calls.mono T ?_; clear T; rintro e w' ⟨rfl, hw'⟩; subst w') | (go_at_call 69; have T := visible_any r.p HV.out w5; with_reducible refine Calls.mono T ?_; clear T; rintro e w7 ⟨rfl, hb7⟩; have G7 := Lib.hid (G5.out.trans (hb7.mono G5.out.size)); clear hb7) | fail)
          go_ret
          exact ⟨by rw [NO1.out]; rfl, HB0.out.trans (G5.out.mono HB0.out.size)⟩
        · have he : r.p.toList.isEmpty = false := by simpa using he
          by_cases h48 : 48 < (r.p.size : Int)
          · have d48 : decide (48 < (r.p.size : Int)) = true := by simpa using h48
            have NO1 := Lib.hid (NO.out (by unfold fitP; rw [decide_eq_false (show ¬ r.p.size ≤ 48 by omega)]; simp))
            clear NO ST
            go_wp2_with (first | (go_at_call 102; have T := changes1_any r (wr.alloc (.cells #[.string r.p, .bool r.is, .string r.t] 71)); with_reducible refine Calls.mono T ?_; clear T; rintro e w5 ⟨rfl, hb5⟩; have hb6 := hb.out.trans ((Below.refl _ wr).alloc hb.out.size (.cells #[.string r.p, .bool r.is, .string r.t] 71)) |>.trans (hb5.mono (by have := hb.out.size; simp at this ⊢; omega)); have G5 := Lib.hid hb6; clear hb5 hb6) | (go_at_call 84; have T := over1_any (r.p.size : Int) 48 (w.heap.size + 1 + 1) w5 (HQ.out _ G5.out).2.2.2.1; with_reducible refine Calls.mono T ?_; clear T; rintro e w' ⟨rfl, hw'⟩; subst w') | (go_at_call 84; have T := over1_any (r.t.size : Int) 256 (w.heap.size + 1 + 1 + 1) w5 (HQ.out _ G5.out).2.2.2.2; with_reducible refine Calls.mono T ?_; clear T; rintro e w' ⟨rfl, hw'⟩; subst w') | (go_at_call 69; have T := visible_any r.p HV.out w5; with_reducible refine Calls.mono T ?_; clear T; rintro e w7 ⟨rfl, hb7⟩; have G7 := Lib.hid (G5.out.trans (hb7.mono G5.out.size)); clear hb7) | fail)
            go_ret
            exact ⟨by rw [NO1.out]; rfl, HB0.out.trans (G5.out.mono HB0.out.size)⟩
          · have d48 : decide (48 < (r.p.size : Int)) = false := by simpa using h48
            by_cases h256 : 256 < (r.t.size : Int)
            · have d256 : decide (256 < (r.t.size : Int)) = true := by simpa using h256
              have NO1 := Lib.hid (NO.out (by unfold fitP; rw [decide_eq_false (show ¬ r.t.size ≤ 256 by omega)]; simp))
              clear NO ST
              go_wp2_with (first | (go_at_call 102; have T := changes1_any r (wr.alloc (.cells #[.string r.p, .bool r.is, .string r.t] 71)); with_reducible refine Calls.mono T ?_; clear T; rintro e w5 ⟨rfl, hb5⟩; have hb6 := hb.out.trans ((Below.refl _ wr).alloc hb.out.size (.cells #[.string r.p, .bool r.is, .string r.t] 71)) |>.trans (hb5.mono (by have := hb.out.size; simp at this ⊢; omega)); have G5 := Lib.hid hb6; clear hb5 hb6) | (go_at_call 84; have T := over1_any (r.p.size : Int) 48 (w.heap.size + 1 + 1) w5 (HQ.out _ G5.out).2.2.2.1; with_reducible refine Calls.mono T ?_; clear T; rintro e w' ⟨rfl, hw'⟩; subst w') | (go_at_call 84; have T := over1_any (r.t.size : Int) 256 (w.heap.size + 1 + 1 + 1) w5 (HQ.out _ G5.out).2.2.2.2; with_reducible refine Calls.mono T ?_; clear T; rintro e w' ⟨rfl, hw'⟩; subst w') | (go_at_call 69; have T := visible_any r.p HV.out w5; with_reducible refine Calls.mono T ?_; clear T; rintro e w7 ⟨rfl, hb7⟩; have G7 := Lib.hid (G5.out.trans (hb7.mono G5.out.size)); clear hb7) | fail)
              go_ret
              exact ⟨by rw [NO1.out]; rfl, HB0.out.trans (G5.out.mono HB0.out.size)⟩
            · have d256 : decide (256 < (r.t.size : Int)) = false := by simpa using h256
              have HV := Lib.hid (show r.p.size ≤ 1000000 by omega)
              obtain ⟨vq, hvq⟩ : ∃ vq, visW r.p = vq := ⟨_, rfl⟩
              have hfp : fitP r.p r.t = vq := by unfold fitP; rw [he, decide_eq_true (show r.p.size ≤ 48 by omega), decide_eq_true (show r.t.size ≤ 256 by omega), hvq]; simp
              cases vq
              · have NO1 := Lib.hid (NO.out hfp)
                clear NO ST hfp
                go_wp2_with (first | (go_at_call 102; have T := changes1_any r (wr.alloc (.cells #[.string r.p, .bool r.is, .string r.t] 71)); with_reducible refine Calls.mono T ?_; clear T; rintro e w5 ⟨rfl, hb5⟩; have hb6 := hb.out.trans ((Below.refl _ wr).alloc hb.out.size (.cells #[.string r.p, .bool r.is, .string r.t] 71)) |>.trans (hb5.mono (by have := hb.out.size; simp at this ⊢; omega)); have G5 := Lib.hid hb6; clear hb5 hb6) | (go_at_call 84; have T := over1_any (r.p.size : Int) 48 (w.heap.size + 1 + 1) w5 (HQ.out _ G5.out).2.2.2.1; with_reducible refine Calls.mono T ?_; clear T; rintro e w' ⟨rfl, hw'⟩; subst w') | (go_at_call 84; have T := over1_any (r.t.size : Int) 256 (w.heap.size + 1 + 1 + 1) w5 (HQ.out _ G5.out).2.2.2.2; with_reducible refine Calls.mono T ?_; clear T; rintro e w' ⟨rfl, hw'⟩; subst w') | (go_at_call 69; have T := visible_any r.p HV.out w5; with_reducible refine Calls.mono T ?_; clear T; rintro e w7 ⟨rfl, hb7⟩; have G7 := Lib.hid (G5.out.trans (hb7.mono G5.out.size)); clear hb7) | fail)
                go_ret
                exact ⟨by rw [NO1.out]; rfl, HB0.out.trans (G7.out.mono HB0.out.size)⟩
              · have ST1 := Lib.hid (ST.out hfp)
                clear NO ST hfp
                go_wp2_with (first | (go_at_call 102; have T := changes1_any r (wr.alloc (.cells #[.string r.p, .bool r.is, .string r.t] 71)); with_reducible refine Calls.mono T ?_; clear T; rintro e w5 ⟨rfl, hb5⟩; have hb6 := hb.out.trans ((Below.refl _ wr).alloc hb.out.size (.cells #[.string r.p, .bool r.is, .string r.t] 71)) |>.trans (hb5.mono (by have := hb.out.size; simp at this ⊢; omega)); have G5 := Lib.hid hb6; clear hb5 hb6) | (go_at_call 84; have T := over1_any (r.p.size : Int) 48 (w.heap.size + 1 + 1) w5 (HQ.out _ G5.out).2.2.2.1; with_reducible refine Calls.mono T ?_; clear T; rintro e w' ⟨rfl, hw'⟩; subst w') | (go_at_call 84; have T := over1_any (r.t.size : Int) 256 (w.heap.size + 1 + 1 + 1) w5 (HQ.out _ G5.out).2.2.2.2; with_reducible refine Calls.mono T ?_; clear T; rintro e w' ⟨rfl, hw'⟩; subst w') | (go_at_call 69; have T := visible_any r.p HV.out w5; with_reducible refine Calls.mono T ?_; clear T; rintro e w7 ⟨rfl, hb7⟩; have G7 := Lib.hid (G5.out.trans (hb7.mono G5.out.size)); clear hb7) | fail)
                go_roundw
                case rel => exact ⟨k + 1, by omega, by go_num, ST1, G7⟩
                case measure => simp [intOf]; omega
      · have hd : decide ((k : Int) < (n : Int)) = false := by simp; omega
        obtain rfl : k = n := by omega
        have HV : Hid (fitW (·.p) (·.t) l = true) := Lib.hid (by
          unfold fitW
          rw [decide_eq_true (show l.length ≤ 32 by omega), Bool.true_and, List.all_eq_true]
          intro x hx
          obtain ⟨j, hj, rfl⟩ := List.getElem_of_mem hx
          exact hg.out j (by omega) hj)
        go_wp2
        go_ret
        exact ⟨by rw [HV.out]; rfl, HB0.out.trans (hb.out.mono HB0.out.size)⟩
end Go.Proofs.YtcofkhmgmemkmaaGreatDoor
