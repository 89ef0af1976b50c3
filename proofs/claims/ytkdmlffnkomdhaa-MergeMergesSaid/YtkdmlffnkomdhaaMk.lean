/-
  STAGE 7's STATEMENTS: whether maps or an edit are more than is gone through.
-/
import Derived.Test.YtkdmlffnkomdhaaPe
import Derived.Test.YtkdmlffnkomdhaaPp
namespace Go.Proofs.Ytkdmlffnkomdhaa
set_option linter.unusedVariables false
set_option linter.unusedSimpArgs false
open Go.RowKit Go.WideShapes Go.ChangeShapes Go.Deep

set_option maxRecDepth 100000 in
set_option maxHeartbeats 4000000 in
theorem largeE_any {w : World} {A' : Option Addr} {n' c' : Nat} {l' : List Ch} (h' : SqC w w.heap.size A' n' c' l') :
    Calls Try.prog 18 #[.agg #[.slice A' n' c']] w fun e w' => (e = .returned (.bool true) ∨ (e = .returned (.bool false) ∧ n' ≤ 100 ∧ ∀ r ∈ l', r.p.size ≤ 500)) ∧ Below w.heap.size w w' := by
  have hn1 : (0 : Int) ≤ (n' : Int) := Int.natCast_nonneg _
  obtain ⟨w2, hw2⟩ : ∃ w2, w.alloc (.cells #[.slice A' n' c'] 36) = w2 := ⟨_, rfl⟩
  have B2 : Hid (Below w.heap.size w w2) := Lib.hid (by rw [← hw2]; exact (Below.refl _ _).alloc (Nat.le_refl _) _)
  have X0 : Hid (Lies w2 w.heap.size 1 [.slice A' n' c']) := Lib.hid (by rw [← hw2]; exact Lies.new w [.slice A' n' c'] 36)
  have HS' := Lib.hid (h'.below B2.out)
  have hl' := h'.len
  have HW := Lib.hid hw2
  clear hw2 h'
  go_enter Try.func18, Try.ntmps18
  go_upto_region 1 with fail
  rw [HW.out]
  clear HW
  have q0 := X0.out.cell (j := 0) rfl
  by_cases h2 : 100 < (n' : Int)
  · have d2 : decide (100 < (n' : Int)) = true := by simpa using h2
    go_wp2
    go_ret
    exact ⟨.inl rfl, B2.out⟩
  have d2 : decide (100 < (n' : Int)) = false := by simpa using h2
  have HN := Lib.hid (show n' ≤ 100 by omega)
  go_wp2
  go_loopw [12] (fun i wr => ∃ k : Nat, k ≤ n' ∧ i = .int .i64 (k : Int) ∧ Hid ((∀ j (hj : j < k) (hl : j < l'.length), l'[j].p.size ≤ 500) ∧ Below w2.heap.size w2 wr)) (fun i _ => n' - (intOf i).toNat)
  case atStart => exact ⟨0, Nat.zero_le _, rfl, Lib.hid ⟨fun j hj => absurd hj (by omega), Below.refl _ _⟩⟩
  case round =>
    obtain ⟨k', hk', rfl, hb⟩ := hrel
    by_cases hlt' : k' < n'
    · have hd : decide ((k' : Int) < (n' : Int)) = true := by simp; omega
      have hk0 : (0 : Int) ≤ (k' : Int) := Int.natCast_nonneg _
      have hk1 : (k' : Int) < (n' : Int) := by omega
      obtain ⟨b, o, rfl, hbl, hrg⟩ := ((HS'.out.more B2.out.size).below hb.out.2).at_ hlt'
      obtain ⟨r, hr⟩ : ∃ r, l'[k']'(by omega) = r := ⟨_, rfl⟩
      rw [hr] at hrg
      have r0 : wr.cell? ⟨b, o + k' * 3, none⟩ = some (.string r.p) := hrg 0 _ rfl
      have r1 : wr.cell? ⟨b, o + k' * 3 + 1, none⟩ = some (.bool r.is) := hrg 1 _ rfl
      have r2 : wr.cell? ⟨b, o + k' * 3 + 2, none⟩ = some (.string r.t) := hrg 2 _ rfl
      have HB1 := Lib.hid (hb.out.2.alloc hb.out.2.size (.cells #[.string r.p, .bool r.is, .string r.t] 81))
      clear hrg
      by_cases h5 : 500 < (r.p.size : Int)
      · have d5 : decide (500 < (r.p.size : Int)) = true := by simpa using h5
        go_wp2
        go_ret
        exact ⟨.inl rfl, B2.out.trans (HB1.out.mono B2.out.size)⟩
      · have d5 : decide (500 < (r.p.size : Int)) = false := by simpa using h5
        by_cases h6 : 5000 < (r.t.size : Int)
        · have d6 : decide (5000 < (r.t.size : Int)) = true := by simpa using h6
          go_wp2
          go_ret
          exact ⟨.inl rfl, B2.out.trans (HB1.out.mono B2.out.size)⟩
        · have d6 : decide (5000 < (r.t.size : Int)) = false := by simpa using h6
          go_wp2
          go_roundw
          case rel => exact ⟨k' + 1, by omega, by go_num, Lib.hid ⟨fun j hj hl => by
                by_cases e : j = k'
                · subst e; rw [hr]; omega
                · exact hb.out.1 j (by omega) hl, HB1.out⟩⟩
          case measure => simp [intOf]; omega
    · have hd : decide ((k' : Int) < (n' : Int)) = false := by simp; omega
      go_wp2
      go_ret
      exact ⟨.inr ⟨rfl, HN.out, fun r hr => by
            obtain ⟨j, hj, rfl⟩ := List.getElem_of_mem hr
            exact hb.out.1 j (by omega) hj⟩, B2.out.trans (hb.out.2.mono B2.out.size)⟩

set_option maxRecDepth 100000 in
set_option maxHeartbeats 4000000 in
theorem larges_any {w : World} {A : Option Addr} {n c : Nat} {ms : List Mp} (h : Sq Mp.cells 1 w w.heap.size A n c ms) (hm : ∀ m ∈ ms, SqR w w.heap.size m.a m.n m.c m.l) (hn : n ≤ 100) :
    Calls Try.prog 10 #[.slice A n c] w fun e w' => (e = .returned (.bool true) ∨ (e = .returned (.bool false) ∧ ∀ m ∈ ms, m.n ≤ 100 ∧ ∀ r ∈ m.l, r.p.size ≤ 500)) ∧ Below w.heap.size w w' := by
  have hn1 : (0 : Int) ≤ (n : Int) := Int.natCast_nonneg _
  have hl := h.len
  have HS := Lib.hid h
  have HM := Lib.hid hm
  clear h hm
  go_enter Try.func10, Try.ntmps10
  go_wp2
  go_loopw [9] (fun i wr => ∃ k : Nat, k ≤ n ∧ i = .int .i64 (k : Int) ∧ Hid ((∀ j (hj : j < k) (hl : j < ms.length), ms[j].n ≤ 100 ∧ ∀ r ∈ ms[j].l, r.p.size ≤ 500) ∧ Below w.heap.size w wr)) (fun i _ => n - (intOf i).toNat)
  case atStart => exact ⟨0, Nat.zero_le _, rfl, Lib.hid ⟨fun j hj => absurd hj (by omega), Below.refl _ _⟩⟩
  case round =>
    obtain ⟨k, hk, rfl, hb⟩ := hrel
    by_cases hlt : k < n
    · have hd : decide ((k : Int) < (n : Int)) = true := by simp; omega
      have hk0 : (0 : Int) ≤ (k : Int) := Int.natCast_nonneg _
      have hk1 : (k : Int) < (n : Int) := by omega
      obtain ⟨b, o, rfl, hbl, hrg⟩ := (HS.out.below hb.out.2).at_ hlt
      obtain ⟨m, hr⟩ : ∃ m, ms[k]'(by omega) = m := ⟨_, rfl⟩
      have HMM : Hid (∀ W, Below w.heap.size w W → SqR W W.heap.size m.a m.n m.c m.l) := Lib.hid fun W hW => (HM.out m (by rw [← hr]; exact List.getElem_mem _) |>.below hW).more hW.size
      rw [hr] at hrg
      have r0 : wr.cell? ⟨b, o + k, none⟩ = some (.slice m.a m.n m.c) := by have := hrg 0 _ rfl; simpa using this
      obtain ⟨wi, hwi⟩ : ∃ wi, wr.alloc (.cells #[.slice m.a m.n m.c] 24) = wi := ⟨_, rfl⟩
      have BI : Hid (Below w.heap.size w wi) := Lib.hid (by rw [← hwi]; exact hb.out.2.alloc hb.out.2.size _)
      have LI : Hid (Lies wi wr.heap.size 1 [.slice m.a m.n m.c]) := Lib.hid (by rw [← hwi]; exact Lies.new wr [.slice m.a m.n m.c] 24)
      have NX : Hid (m.n ≤ 100 → (∀ r ∈ m.l, r.p.size ≤ 500) → ∀ j (hj : j < k + 1) (hl : j < ms.length), ms[j].n ≤ 100 ∧ ∀ r ∈ ms[j].l, r.p.size ≤ 500) := Lib.hid (fun a1 a2 j hj hl => by
        by_cases e : j = k
        · subst e; rw [hr]; exact ⟨a1, a2⟩
        · exact hb.out.1 j (by omega) hl)
      have HWI := Lib.hid hwi
      clear hrg hwi hr
      go_upto_region 4 with fail
      rw [HWI.out]
      clear HWI r0
      have q0 := LI.out.cell (j := 0) rfl
      obtain ⟨A', n', c', l'⟩ := m
      have hm0 : (0 : Int) ≤ (n' : Int) := Int.natCast_nonneg _
      simp only [] at *
      by_cases h2 : 100 < (n' : Int)
      · have d2 : decide (100 < (n' : Int)) = true := by simpa using h2
        go_wp2
        go_ret
        exact ⟨.inl rfl, BI.out⟩
      have d2 : decide (100 < (n' : Int)) = false := by simpa using h2
      have HN := Lib.hid (show n' ≤ 100 by omega)
      go_wp2
      obtain ⟨wo, hwo⟩ : ∃ wo : World, wo = wi := ⟨_, rfl⟩
      rw [← hwo] at q0 BI LI ⊢
      clear hwo
      have hl' := (HMM.out wo BI.out).len
      go_loopw [20] (fun i wr => ∃ k : Nat, k ≤ n' ∧ i = .int .i64 (k : Int) ∧ Hid ((∀ j (hj : j < k) (hl : j < l'.length), l'[j].p.size ≤ 500) ∧ Below w.heap.size w wr)) (fun i _ => n' - (intOf i).toNat)
      case atStart => exact ⟨0, Nat.zero_le _, rfl, Lib.hid ⟨fun j hj => absurd hj (by omega), BI.out⟩⟩
      case round =>
        obtain ⟨k', hk', rfl, hb'⟩ := hrel
        by_cases hlt' : k' < n'
        · have hd' : decide ((k' : Int) < (n' : Int)) = true := by simp; omega
          have hk0' : (0 : Int) ≤ (k' : Int) := Int.natCast_nonneg _
          have hk1' : (k' : Int) < (n' : Int) := by omega
          obtain ⟨b2, o2, rfl, hbl2, hrg⟩ := (HMM.out _ hb'.out.2).at_ hlt'
          obtain ⟨r, hr⟩ : ∃ r, l'[k']'(by omega) = r := ⟨_, rfl⟩
          rw [hr] at hrg
          have r0 : wr.cell? ⟨b2, o2 + k' * 2, none⟩ = some (.string r.p) := hrg 0 _ rfl
          have r1 : wr.cell? ⟨b2, o2 + k' * 2 + 1, none⟩ = some (.string r.t) := hrg 1 _ rfl
          have HB1 := Lib.hid (hb'.out.2.alloc hb'.out.2.size (.cells #[.string r.p, .string r.t] 70))
          clear hrg
          by_cases h5 : 500 < (r.p.size : Int)
          · have d5 : decide (500 < (r.p.size : Int)) = true := by simpa using h5
            go_wp2
            go_ret
            exact ⟨.inl rfl, HB1.out⟩
          · have d5 : decide (500 < (r.p.size : Int)) = false := by simpa using h5
            by_cases h6 : 5000 < (r.t.size : Int)
            · have d6 : decide (5000 < (r.t.size : Int)) = true := by simpa using h6
              go_wp2
              go_ret
              exact ⟨.inl rfl, HB1.out⟩
            · have d6 : decide (5000 < (r.t.size : Int)) = false := by simpa using h6
              go_wp2
              go_roundw
              case rel => exact ⟨k' + 1, by omega, by go_num, Lib.hid ⟨fun j hj hl => by
                by_cases e : j = k'
                · subst e; rw [hr]; omega
                · exact hb'.out.1 j (by omega) hl, HB1.out⟩⟩
              case measure => simp [intOf]; omega
        · have hd' : decide ((k' : Int) < (n' : Int)) = false := by simp; omega
          have NX1 := Lib.hid (NX.out HN.out (fun r hr => by
            obtain ⟨j, hj, rfl⟩ := List.getElem_of_mem hr
            exact hb'.out.1 j (by omega) hj))
          go_wp2
          go_roundw
          case rel => exact ⟨k + 1, by omega, by go_num, Lib.hid ⟨NX1.out, hb'.out.2⟩⟩
          case measure => simp [intOf]; omega
    · have hd : decide ((k : Int) < (n : Int)) = false := by simp; omega
      go_wp2
      go_ret
      exact ⟨.inr ⟨rfl, fun m hm => by
            obtain ⟨j, hj, rfl⟩ := List.getElem_of_mem hm
            exact hb.out.1 j (by omega) hj⟩, hb.out.2⟩
end Go.Proofs.Ytkdmlffnkomdhaa
