/-
  PATHMAP: Get; STAGE 5's REFERENCE: Get and Said.
-/
import Derived.Test.YtkdmlffnkomdhaaPe
namespace Go.Proofs.Ytkdmlffnkomdhaa
set_option linter.unusedVariables false
set_option linter.unusedSimpArgs false
open Go.RowKit Go.WideShapes Go.ChangeShapes Go.Deep
attribute [local irreducible] wpQuiet

/-- The first row with a path. -/
def findW {α : Type} (p : α → ByteArray) (l : List α) (s : ByteArray) : Option α := l.find? fun r => (p r).toList == s.toList
theorem findW_some {α : Type} {p : α → ByteArray} {l : List α} {s : ByteArray} {k : Nat} (hk : k < l.length) (h : ((p l[k]).toList == s.toList) = true) (hn : ∀ j (hj : j < k) (hl : j < l.length), ((p l[j]).toList == s.toList) = false) : findW p l s = some l[k] := by
  unfold findW
  rw [List.find?_eq_some_iff_getElem]
  exact ⟨h, k, hk, rfl, fun j hj => by rw [hn j hj (by omega)]; rfl⟩
theorem findW_none {α : Type} {p : α → ByteArray} {l : List α} {s : ByteArray} (hn : ∀ j (hl : j < l.length), ((p l[j]).toList == s.toList) = false) : findW p l s = none := by
  unfold findW
  rw [List.find?_eq_none]
  intro x hx
  obtain ⟨j, hj, rfl⟩ := List.getElem_of_mem hx
  rw [hn j hj]
  simp
def textR (o : Option Rw) : ByteArray := match o with | some r => r.t | none => ⟨#[]⟩
def textC (o : Option Ch) : ByteArray := match o with | some r => r.t | none => ⟨#[]⟩
def isC (o : Option Ch) : Bool := match o with | some r => r.is | none => false

set_option maxRecDepth 100000 in
set_option maxHeartbeats 2000000 in
theorem refGet_any {w : World} {A : Option Addr} {n c : Nat} {l : List Rw} (h : SqR w w.heap.size A n c l) (hn : n ≤ 1000000) (s : ByteArray) :
    Calls Try.prog 50 #[.agg #[.slice A n c], .string s] w fun e w' => e = .returned (.tuple #[.string (textR (findW (·.p) l s)), .bool (findW (·.p) l s).isSome]) ∧ Below w.heap.size w w' := by
  obtain ⟨w1, hw1⟩ : ∃ w1, w.alloc (.cells #[.slice A n c] 24) = w1 := ⟨_, rfl⟩
  have B1 : Hid (Below w.heap.size w w1) := Lib.hid (by rw [← hw1]; exact (Below.refl _ _).alloc (Nat.le_refl _) _)
  have X0 : Hid (Lies w1 w.heap.size 1 [.slice A n c]) := Lib.hid (by rw [← hw1]; exact Lies.new w [.slice A n c] 24)
  have HS := Lib.hid ((h.below B1.out).more B1.out.size)
  have hl := h.len
  have hn0 : (0 : Int) ≤ (n : Int) := Int.natCast_nonneg _
  have HW := Lib.hid hw1
  clear hw1 h
  go_enter Try.func50, Try.ntmps50
  go_upto_region 1 with fail
  rw [HW.out]
  clear HW
  have q0 := X0.out.cell (j := 0) rfl
  go_wp2
  go_loopw [6] (fun i wr => ∃ k : Nat, k ≤ n ∧ i = .int .i64 (k : Int) ∧ Hid (∀ j (hj : j < k) (hl : j < l.length), (l[j].p.toList == s.toList) = false) ∧ Hid (Below w1.heap.size w1 wr)) (fun i _ => n - (intOf i).toNat)
  case atStart => exact ⟨0, Nat.zero_le _, rfl, Lib.hid (fun j hj => absurd hj (by omega)), Lib.hid (Below.refl _ _)⟩
  case round =>
    obtain ⟨k, hk, rfl, hg, hb⟩ := hrel
    have q0 := (X0.out.below hb.out X0.out.lt).cell (j := 0) rfl
    by_cases hlt : k < n
    · have hd : decide ((k : Int) < (n : Int)) = true := by simp; omega
      have hk0 : (0 : Int) ≤ (k : Int) := Int.natCast_nonneg _
      have hk1 : (k : Int) < (n : Int) := by omega
      obtain ⟨b, o, rfl, hbl, hrg⟩ := (HS.out.below hb.out).at_ hlt
      obtain ⟨r, hr⟩ : ∃ r, l[k]'(by omega) = r := ⟨_, rfl⟩
      rw [hr] at hrg
      have r0 : wr.cell? ⟨b, o + k * 2, none⟩ = some (.string r.p) := hrg 0 _ rfl
      have r1 : wr.cell? ⟨b, o + k * 2 + 1, none⟩ = some (.string r.t) := hrg 1 _ rfl
      have HB1 := hb
      obtain ⟨q, hq⟩ : ∃ q, (r.p.toList == s.toList) = q := ⟨_, rfl⟩
      have YES : Hid (q = true → findW (·.p) l s = some r) := Lib.hid (fun h1 => by
        have := findW_some (p := (·.p)) (l := l) (s := s) (k := k) (by omega) (by show (l[k].p.toList == s.toList) = true; rw [hr, hq]; exact h1) (fun j hj hl => hg.out j hj hl)
        rw [this, hr])
      have NO : Hid (q = false → ∀ j (hj : j < k + 1) (hl : j < l.length), (l[j].p.toList == s.toList) = false) := Lib.hid (fun h1 j hj hl => by
        by_cases e : j = k
        · subst e; rw [hr, hq]; exact h1
        · exact hg.out j (by omega) hl)
      clear hrg hr hg
      cases q
      · have NO1 := Lib.hid (NO.out rfl)
        clear NO YES
        go_wp2
        go_roundw
        case rel => exact ⟨k + 1, by omega, by go_num, NO1, HB1⟩
        case measure => simp [intOf]; omega
      · have Y1 := Lib.hid (YES.out rfl)
        clear NO YES
        go_wp2
        go_ret2
        exact ⟨by rw [Y1.out]; rfl, B1.out.trans (HB1.out.mono B1.out.size)⟩
    · have hd : decide ((k : Int) < (n : Int)) = false := by simp; omega
      have HN : Hid (findW (·.p) l s = none) := Lib.hid (findW_none (p := (·.p)) fun j hj => hg.out j (by omega) hj)
      clear hg
      go_wp2
      go_ret2
      exact ⟨by rw [HN.out]; rfl, B1.out.trans (hb.out.mono B1.out.size)⟩

set_option maxRecDepth 100000 in
set_option maxHeartbeats 2000000 in
theorem Get_any {w : World} {A : Option Addr} {n c : Nat} {l : List Rw} (h : SqR w w.heap.size A n c l) (hn : n ≤ 1000000) (s : ByteArray) :
    Calls Try.prog 32 #[.agg #[.slice A n c], .string s] w fun e w' => e = .returned (.tuple #[.string (textR (findW (·.p) l s)), .bool (findW (·.p) l s).isSome]) ∧ Below w.heap.size w w' := by
  obtain ⟨w1, hw1⟩ : ∃ w1, w.alloc (.cells #[.slice A n c] 24) = w1 := ⟨_, rfl⟩
  have B1 : Hid (Below w.heap.size w w1) := Lib.hid (by rw [← hw1]; exact (Below.refl _ _).alloc (Nat.le_refl _) _)
  have X0 : Hid (Lies w1 w.heap.size 1 [.slice A n c]) := Lib.hid (by rw [← hw1]; exact Lies.new w [.slice A n c] 24)
  have HS := Lib.hid ((h.below B1.out).more B1.out.size)
  have hl := h.len
  have hn0 : (0 : Int) ≤ (n : Int) := Int.natCast_nonneg _
  have HW := Lib.hid hw1
  clear hw1 h
  go_enter Try.func32, Try.ntmps32
  go_upto_region 1 with fail
  rw [HW.out]
  clear HW
  have q0 := X0.out.cell (j := 0) rfl
  go_wp2
  go_loopw [11] (fun i wr => ∃ k : Nat, k ≤ n ∧ i = .int .i64 (k : Int) ∧ Hid (∀ j (hj : j < k) (hl : j < l.length), (l[j].p.toList == s.toList) = false) ∧ Hid (Below w1.heap.size w1 wr)) (fun i _ => n - (intOf i).toNat)
  case atStart => exact ⟨0, Nat.zero_le _, rfl, Lib.hid (fun j hj => absurd hj (by omega)), Lib.hid (Below.refl _ _)⟩
  case round =>
    obtain ⟨k, hk, rfl, hg, hb⟩ := hrel
    have q0 := (X0.out.below hb.out X0.out.lt).cell (j := 0) rfl
    by_cases hlt : k < n
    · have hd : decide ((k : Int) < (n : Int)) = true := by simp; omega
      have hk0 : (0 : Int) ≤ (k : Int) := Int.natCast_nonneg _
      have hk1 : (k : Int) < (n : Int) := by omega
      obtain ⟨b, o, rfl, hbl, hrg⟩ := (HS.out.below hb.out).at_ hlt
      obtain ⟨r, hr⟩ : ∃ r, l[k]'(by omega) = r := ⟨_, rfl⟩
      rw [hr] at hrg
      have r0 : wr.cell? ⟨b, o + k * 2, none⟩ = some (.string r.p) := hrg 0 _ rfl
      have r1 : wr.cell? ⟨b, o + k * 2 + 1, none⟩ = some (.string r.t) := hrg 1 _ rfl
      have HB1 := Lib.hid (hb.out.alloc hb.out.size (.cells #[.string r.p, .string r.t] 70))
      obtain ⟨q, hq⟩ : ∃ q, (r.p.toList == s.toList) = q := ⟨_, rfl⟩
      have YES : Hid (q = true → findW (·.p) l s = some r) := Lib.hid (fun h1 => by
        have := findW_some (p := (·.p)) (l := l) (s := s) (k := k) (by omega) (by show (l[k].p.toList == s.toList) = true; rw [hr, hq]; exact h1) (fun j hj hl => hg.out j hj hl)
        rw [this, hr])
      have NO : Hid (q = false → ∀ j (hj : j < k + 1) (hl : j < l.length), (l[j].p.toList == s.toList) = false) := Lib.hid (fun h1 j hj hl => by
        by_cases e : j = k
        · subst e; rw [hr, hq]; exact h1
        · exact hg.out j (by omega) hl)
      clear hrg hr hg
      cases q
      · have NO1 := Lib.hid (NO.out rfl)
        clear NO YES
        go_wp2
        go_roundw
        case rel => exact ⟨k + 1, by omega, by go_num, NO1, HB1⟩
        case measure => simp [intOf]; omega
      · have Y1 := Lib.hid (YES.out rfl)
        clear NO YES
        go_wp2
        go_ret2
        exact ⟨by rw [Y1.out]; rfl, B1.out.trans (HB1.out.mono B1.out.size)⟩
    · have hd : decide ((k : Int) < (n : Int)) = false := by simp; omega
      have HN : Hid (findW (·.p) l s = none) := Lib.hid (findW_none (p := (·.p)) fun j hj => hg.out j (by omega) hj)
      clear hg
      go_wp2
      go_ret2
      exact ⟨by rw [HN.out]; rfl, B1.out.trans (hb.out.mono B1.out.size)⟩

set_option maxRecDepth 100000 in
set_option maxHeartbeats 2000000 in
theorem refSaid_any {w : World} {A : Option Addr} {n c : Nat} {l : List Ch} (h : SqC w w.heap.size A n c l) (hn : n ≤ 1000000) (s : ByteArray) :
    Calls Try.prog 47 #[.agg #[.slice A n c], .string s] w fun e w' => e = .returned (.tuple #[.bool (findW (·.p) l s).isSome, .bool (isC (findW (·.p) l s)), .string (textC (findW (·.p) l s))]) ∧ Below w.heap.size w w' := by
  obtain ⟨w1, hw1⟩ : ∃ w1, w.alloc (.cells #[.slice A n c] 36) = w1 := ⟨_, rfl⟩
  have B1 : Hid (Below w.heap.size w w1) := Lib.hid (by rw [← hw1]; exact (Below.refl _ _).alloc (Nat.le_refl _) _)
  have X0 : Hid (Lies w1 w.heap.size 1 [.slice A n c]) := Lib.hid (by rw [← hw1]; exact Lies.new w [.slice A n c] 36)
  have HS := Lib.hid ((h.below B1.out).more B1.out.size)
  have hl := h.len
  have hn0 : (0 : Int) ≤ (n : Int) := Int.natCast_nonneg _
  have HW := Lib.hid hw1
  clear hw1 h
  go_enter Try.func47, Try.ntmps47
  go_upto_region 1 with fail
  rw [HW.out]
  clear HW
  have q0 := X0.out.cell (j := 0) rfl
  go_wp2
  go_loopw [7] (fun i wr => ∃ k : Nat, k ≤ n ∧ i = .int .i64 (k : Int) ∧ Hid (∀ j (hj : j < k) (hl : j < l.length), (l[j].p.toList == s.toList) = false) ∧ Hid (Below w1.heap.size w1 wr)) (fun i _ => n - (intOf i).toNat)
  case atStart => exact ⟨0, Nat.zero_le _, rfl, Lib.hid (fun j hj => absurd hj (by omega)), Lib.hid (Below.refl _ _)⟩
  case round =>
    obtain ⟨k, hk, rfl, hg, hb⟩ := hrel
    have q0 := (X0.out.below hb.out X0.out.lt).cell (j := 0) rfl
    by_cases hlt : k < n
    · have hd : decide ((k : Int) < (n : Int)) = true := by simp; omega
      have hk0 : (0 : Int) ≤ (k : Int) := Int.natCast_nonneg _
      have hk1 : (k : Int) < (n : Int) := by omega
      obtain ⟨b, o, rfl, hbl, hrg⟩ := (HS.out.below hb.out).at_ hlt
      obtain ⟨r, hr⟩ : ∃ r, l[k]'(by omega) = r := ⟨_, rfl⟩
      rw [hr] at hrg
      have r0 : wr.cell? ⟨b, o + k * 3, none⟩ = some (.string r.p) := hrg 0 _ rfl
      have r1 : wr.cell? ⟨b, o + k * 3 + 1, none⟩ = some (.bool r.is) := hrg 1 _ rfl
      have r2 : wr.cell? ⟨b, o + k * 3 + 2, none⟩ = some (.string r.t) := hrg 2 _ rfl
      have HB1 := hb
      obtain ⟨q, hq⟩ : ∃ q, (r.p.toList == s.toList) = q := ⟨_, rfl⟩
      have YES : Hid (q = true → findW (·.p) l s = some r) := Lib.hid (fun h1 => by
        have := findW_some (p := (·.p)) (l := l) (s := s) (k := k) (by omega) (by show (l[k].p.toList == s.toList) = true; rw [hr, hq]; exact h1) (fun j hj hl => hg.out j hj hl)
        rw [this, hr])
      have NO : Hid (q = false → ∀ j (hj : j < k + 1) (hl : j < l.length), (l[j].p.toList == s.toList) = false) := Lib.hid (fun h1 j hj hl => by
        by_cases e : j = k
        · subst e; rw [hr, hq]; exact h1
        · exact hg.out j (by omega) hl)
      clear hrg hr hg
      cases q
      · have NO1 := Lib.hid (NO.out rfl)
        clear NO YES
        go_wp2
        go_roundw
        case rel => exact ⟨k + 1, by omega, by go_num, NO1, HB1⟩
        case measure => simp [intOf]; omega
      · have Y1 := Lib.hid (YES.out rfl)
        clear NO YES
        go_wp2
        go_quiet (fail)
        go_wp2
        go_ret3
        exact ⟨by rw [Y1.out]; rfl, B1.out.trans ((below_drewN HB1.out _).mono B1.out.size)⟩
    · have hd : decide ((k : Int) < (n : Int)) = false := by simp; omega
      have HN : Hid (findW (·.p) l s = none) := Lib.hid (findW_none (p := (·.p)) fun j hj => hg.out j (by omega) hj)
      clear hg
      go_wp2
      go_ret3
      exact ⟨by rw [HN.out]; rfl, B1.out.trans (hb.out.mono B1.out.size)⟩
end Go.Proofs.Ytkdmlffnkomdhaa
