/-
  STAGE 5's STATEMENTS: whether a map or an edit is more than is gone through.
-/
import Derived.Test.YtjcegafidiifkaaPe
namespace Go.Proofs.Ytjcegafidiifkaa
set_option linter.unusedVariables false
set_option linter.unusedSimpArgs false
open Go.RowKit Go.WideShapes Go.ChangeShapes Go.Deep

set_option maxRecDepth 100000 in
set_option maxHeartbeats 4000000 in
theorem larges_any {w : World} {A : Option Addr} {n c : Nat} {l : List Rw} (h : SqR w w.heap.size A n c l) {A' : Option Addr} {n' c' : Nat} {l' : List Ch} (h' : SqC w w.heap.size A' n' c' l') :
    Calls Try.prog 10 #[.agg #[.slice A n c], .agg #[.slice A' n' c']] w fun e w' => (e = .returned (.bool true) ∨ (e = .returned (.bool false) ∧ n ≤ 100 ∧ n' ≤ 100 ∧ (∀ r ∈ l, r.p.size ≤ 500) ∧ ∀ r ∈ l', r.p.size ≤ 500)) ∧ Below w.heap.size w w' := by
  have hn0 : (0 : Int) ≤ (n : Int) := Int.natCast_nonneg _
  have hn1 : (0 : Int) ≤ (n' : Int) := Int.natCast_nonneg _
  obtain ⟨w2, hw2⟩ : ∃ w2, (w.alloc (.cells #[.slice A n c] 24)).alloc (.cells #[.slice A' n' c'] 27) = w2 := ⟨_, rfl⟩
  have B2 : Hid (Below w.heap.size w w2) := Lib.hid (by rw [← hw2]; exact ((Below.refl _ _).alloc (Nat.le_refl _) _).alloc (by simp) _)
  have X0 : Hid (Lies w2 w.heap.size 1 [.slice A n c]) := Lib.hid (by rw [← hw2]; exact (Lies.new w [.slice A n c] 24).alloc _)
  have X1 : Hid (Lies w2 (w.heap.size + 1) 1 [.slice A' n' c']) := Lib.hid (by
    rw [← hw2]
    have := Lies.new (w.alloc (.cells #[.slice A n c] 24)) [.slice A' n' c'] 27
    rwa [World.size_alloc] at this)
  have HS := Lib.hid (h.below B2.out)
  have HS' := Lib.hid (h'.below B2.out)
  have hl := h.len
  have hl' := h'.len
  have HW := Lib.hid hw2
  clear hw2 h h'
  go_enter Try.func10, Try.ntmps10
  go_upto_region 1 with fail
  rw [HW.out]
  clear HW
  have q0 := X0.out.cell (j := 0) rfl
  have q1 := X1.out.cell (j := 0) rfl
  by_cases h1 : 100 < (n : Int)
  · have d1 : decide (100 < (n : Int)) = true := by simpa using h1
    go_wp2
    go_ret
    exact ⟨.inl rfl, B2.out⟩
  have d1 : decide (100 < (n : Int)) = false := by simpa using h1
  by_cases h2 : 100 < (n' : Int)
  · have d2 : decide (100 < (n' : Int)) = true := by simpa using h2
    go_wp2
    go_ret
    exact ⟨.inl rfl, B2.out⟩
  have d2 : decide (100 < (n' : Int)) = false := by simpa using h2
  have HN := Lib.hid (show n ≤ 100 ∧ n' ≤ 100 by omega)
  go_wp2
  go_loopw [22] (fun i wr => ∃ k : Nat, k ≤ n ∧ i = .int .i64 (k : Int) ∧ Hid ((∀ j (hj : j < k) (hl : j < l.length), l[j].p.size ≤ 500) ∧ Below w2.heap.size w2 wr)) (fun i _ => n - (intOf i).toNat)
  case atStart => exact ⟨0, Nat.zero_le _, rfl, Lib.hid ⟨fun j hj => absurd hj (by omega), Below.refl _ _⟩⟩
  case round =>
    obtain ⟨k, hk, rfl, hb⟩ := hrel
    by_cases hlt : k < n
    · have hd : decide ((k : Int) < (n : Int)) = true := by simp; omega
      have hk0 : (0 : Int) ≤ (k : Int) := Int.natCast_nonneg _
      have hk1 : (k : Int) < (n : Int) := by omega
      obtain ⟨b, o, rfl, hbl, hrg⟩ := ((HS.out.more B2.out.size).below hb.out.2).at_ hlt
      obtain ⟨r, hr⟩ : ∃ r, l[k]'(by omega) = r := ⟨_, rfl⟩
      rw [hr] at hrg
      have r0 : wr.cell? ⟨b, o + k * 2, none⟩ = some (.string r.p) := hrg 0 _ rfl
      have r1 : wr.cell? ⟨b, o + k * 2 + 1, none⟩ = some (.string r.t) := hrg 1 _ rfl
      have HB1 := Lib.hid (hb.out.2.alloc hb.out.2.size (.cells #[.string r.p, .string r.t] 56))
      clear hrg
      by_cases h5 : 500 < (r.p.size : Int)
      · have d5 : decide (500 < (r.p.size : Int)) = true := by simpa using h5
        go_wp2
        go_ret
        exact ⟨.inl rfl, B2.out.trans (HB1.out.mono B2.out.size)⟩
      · have d5 : decide (500 < (r.p.size : Int)) = false := by simpa using h5
        by_cases h6 : 5000 < (r.t.size : Int)
        · have d6 : decide (5000 < (r.t.size : Int)) = true := by simpa using h6
          go_wp2
          go_ret
          exact ⟨.inl rfl, B2.out.trans (HB1.out.mono B2.out.size)⟩
        · have d6 : decide (5000 < (r.t.size : Int)) = false := by simpa using h6
          go_wp2
          go_roundw
          case rel => exact ⟨k + 1, by omega, by go_num, Lib.hid ⟨fun j hj hl => by
            by_cases e : j = k
            · subst e; rw [hr]; omega
            · exact hb.out.1 j (by omega) hl, HB1.out⟩⟩
          case measure => simp [intOf]; omega
    · have hd : decide ((k : Int) < (n : Int)) = false := by simp; omega
      have q1 := (X1.out.below hb.out.2 X1.out.lt).cell (j := 0) rfl
      go_wp2
      obtain ⟨wo, hwo⟩ : ∃ wo : World, wo = wr := ⟨_, rfl⟩
      have HL1 : Hid (∀ r ∈ l, r.p.size ≤ 500) := Lib.hid (fun r hr => by
        obtain ⟨j, hj, rfl⟩ := List.getElem_of_mem hr
        exact hb.out.1 j (by omega) hj)
      have HB0 : Hid (Below w2.heap.size w2 wo) := Lib.hid (by rw [hwo]; exact hb.out.2)
      rw [← hwo] at q1 ⊢
      clear hwo hb
      go_loopw [40] (fun i wr => ∃ k : Nat, k ≤ n' ∧ i = .int .i64 (k : Int) ∧ Hid ((∀ j (hj : j < k) (hl : j < l'.length), l'[j].p.size ≤ 500) ∧ Below w2.heap.size w2 wr)) (fun i _ => n' - (intOf i).toNat)
      case atStart => exact ⟨0, Nat.zero_le _, rfl, Lib.hid ⟨fun j hj => absurd hj (by omega), HB0.out⟩⟩
      case round =>
        obtain ⟨k', hk', rfl, hb⟩ := hrel
        by_cases hlt' : k' < n'
        · have hd : decide ((k' : Int) < (n' : Int)) = true := by simp; omega
          have hk0 : (0 : Int) ≤ (k' : Int) := Int.natCast_nonneg _
          have hk1 : (k' : Int) < (n' : Int) := by omega
          obtain ⟨b, o, rfl, hbl, hrg⟩ := ((HS'.out.more B2.out.size).below hb.out.2).at_ hlt'
          obtain ⟨r, hr⟩ : ∃ r, l'[k']'(by omega) = r := ⟨_, rfl⟩
          rw [hr] at hrg
          have r0 : wr.cell? ⟨b, o + k' * 3, none⟩ = some (.string r.p) := hrg 0 _ rfl
          have r1 : wr.cell? ⟨b, o + k' * 3 + 1, none⟩ = some (.bool r.is) := hrg 1 _ rfl
          have r2 : wr.cell? ⟨b, o + k' * 3 + 2, none⟩ = some (.string r.t) := hrg 2 _ rfl
          have HB1 := Lib.hid (hb.out.2.alloc hb.out.2.size (.cells #[.string r.p, .bool r.is, .string r.t] 38))
          clear hrg
          by_cases h5 : 500 < (r.p.size : Int)
          · have d5 : decide (500 < (r.p.size : Int)) = true := by simpa using h5
            go_wp2
            go_ret
            exact ⟨.inl rfl, B2.out.trans (HB1.out.mono B2.out.size)⟩
          · have d5 : decide (500 < (r.p.size : Int)) = false := by simpa using h5
            by_cases h6 : 5000 < (r.t.size : Int)
            · have d6 : decide (5000 < (r.t.size : Int)) = true := by simpa using h6
              go_wp2
              go_ret
              exact ⟨.inl rfl, B2.out.trans (HB1.out.mono B2.out.size)⟩
            · have d6 : decide (5000 < (r.t.size : Int)) = false := by simpa using h6
              go_wp2
              go_roundw
              case rel => exact ⟨k' + 1, by omega, by go_num, Lib.hid ⟨fun j hj hl => by
                by_cases e : j = k'
                · subst e; rw [hr]; omega
                · exact hb.out.1 j (by omega) hl, HB1.out⟩⟩
              case measure => simp [intOf]; omega
        · have hd : decide ((k' : Int) < (n' : Int)) = false := by simp; omega
          go_wp2
          go_ret
          exact ⟨.inr ⟨rfl, HN.out.1, HN.out.2, HL1.out, fun r hr => by
            obtain ⟨j, hj, rfl⟩ := List.getElem_of_mem hr
            exact hb.out.1 j (by omega) hj⟩, B2.out.trans (hb.out.2.mono B2.out.size)⟩
end Go.Proofs.Ytjcegafidiifkaa
