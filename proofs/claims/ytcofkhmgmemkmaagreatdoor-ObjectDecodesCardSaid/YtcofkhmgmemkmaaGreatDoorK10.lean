/-
  PATHMAP'S SMALL FUNCTIONS: a table's parts; limits; the path at a place; the bytes of a path.
  PATHMAP: whether a path's bytes may be; whether a change is muddled; whether paths rise; whether rows fit.
-/
import Derived.Test.YtcofkhmgmemkmaaGreatDoorK07
namespace Go.Proofs.YtcofkhmgmemkmaaGreatDoor
set_option linter.unusedVariables false
set_option linter.unusedSimpArgs false
open Go.RowKit Go.WideShapes Go.ChangeShapes Go.Deep

set_option maxHeartbeats 1600000 in
theorem texts1_any (r : Rw) (w : World) : Calls Tryz.prog 67 #[rwV r] w fun e w' => e = .returned (.tuple #[.string r.p, .string r.t]) ∧ Below w.heap.size w w' := by
  have HB := Lib.hid (show Below w.heap.size w (w.alloc (.cells #[.string r.p, .string r.t] 48)) from (Below.refl _ _).alloc (Nat.le_refl _) _)
  go_enter Tryz.func67, Tryz.ntmps67
  go_wp2
  go_quiet (fail)
  go_wp2
  go_ret2
  exact ⟨rfl, below_drewN HB.out _⟩
set_option maxHeartbeats 1600000 in
theorem changes1_any (r : Ch) (w : World) : Calls Tryz.prog 102 #[chV r] w fun e w' => e = .returned (.tuple #[.string r.p, .string r.t]) ∧ Below w.heap.size w w' := by
  have HB := Lib.hid (show Below w.heap.size w (w.alloc (.cells #[.string r.p, .bool r.is, .string r.t] 71)) from (Below.refl _ _).alloc (Nat.le_refl _) _)
  go_enter Tryz.func102, Tryz.ntmps102
  go_wp2
  go_quiet (fail)
  go_wp2
  go_ret2
  exact ⟨rfl, below_drewN HB.out _⟩

set_option maxHeartbeats 1600000 in
theorem over_any (k : Int) (w : World) : Calls Tryz.prog 68 #[.int .i64 k] w fun e w' => e = .returned (.func (.func 84) #[] #[.pointer (some ⟨w.heap.size, 0, none⟩)]) ∧ w' = w.alloc (.cells #[.int .i64 k] 3) := by
  go_enter Tryz.func68, Tryz.ntmps68
  go_wp2
  go_ret
  exact ⟨rfl, rfl⟩
set_option maxHeartbeats 1600000 in
theorem over1_any (n k : Int) (b : Nat) (w : World) (hc : w.cell? ⟨b, 0, none⟩ = some (.int .i64 k)) : Calls Tryz.prog 84 #[.int .i64 n, .pointer (some ⟨b, 0, none⟩)] w fun e w' => e = .returned (.bool (decide (k < n))) ∧ w' = w := by
  go_enter Tryz.func84, Tryz.ntmps84
  go_wp2
  go_ret
  simp [gt_iff_lt]

theorem zero_tbr (w : World) : (zeroValue 101).run Tryz.prog w = .ok (.agg #[.slice none 0 0, Value.nilFunc]) w := by kernel_rfl
theorem zero_tbc (w : World) : (zeroValue 142).run Tryz.prog w = .ok (.agg #[.slice none 0 0, Value.nilFunc]) w := by kernel_rfl
theorem below_setCells {B : Nat} {a w : World} (h : Below B a w) {b : Nat} (hb : B ≤ b) (o : Nat) (vs : List Value) : Below B a (w.setCells b o vs) := by
  obtain ⟨h1, h2, h3, h4, h5⟩ := setCells_os b vs o w
  exact ⟨h1.trans h.os, h2.trans h.tape, h3.trans h.output, by rw [h4]; exact h.size, fun k hk => (h5 k (by omega)).trans (h.block k hk)⟩
section
variable {ops : Array Oper} {rest : List Oper} {op : Oper} {a : Act} {w : World} {Q : Exit → Act → World → Prop}
theorem ld_tbr (hgd : op.guard = none) (x : Operand) (ho : op.op = .load 101 x) (b o : Nat) (A : Option Addr) (n c : Nat) (hx : a.eval x = .pointer (some ⟨b, o, none⟩)) (hc : w.rangeAt b o (tbLR A n c))
    (h : wpList Tryz.prog ops Q rest (a.put op.dst (tbR A n c)) w) : wpList Tryz.prog ops Q (op :: rest) a w :=
  wpList_load_mid hgd _ x ho b o hx (tbLR A n c) _ hc Tryz.underlying101 rfl (size_tbr A n c) h
theorem ld_tbc (hgd : op.guard = none) (x : Operand) (ho : op.op = .load 142 x) (b o : Nat) (A : Option Addr) (n c : Nat) (hx : a.eval x = .pointer (some ⟨b, o, none⟩)) (hc : w.rangeAt b o (tbLC A n c))
    (h : wpList Tryz.prog ops Q rest (a.put op.dst (tbC A n c)) w) : wpList Tryz.prog ops Q (op :: rest) a w :=
  wpList_load_mid hgd _ x ho b o hx (tbLC A n c) _ hc Tryz.underlying142 rfl (size_tbc A n c) h
end
set_option maxHeartbeats 1600000 in
theorem texts_any (A : Option Addr) (n c : Nat) (w : World) : Calls Tryz.prog 48 #[.agg #[.slice A n c]] w fun e w' => e = .returned (tbR A n c) ∧ Below w.heap.size w w' := by
  go_enter Tryz.func48, Tryz.ntmps48
  go_wp2
  refine bodyPost_ret (results_cell_mid rfl _ _ (w.heap.size + 1) 0 (tbLR A n c) _ rfl ?_ Tryz.underlying101 rfl (size_tbr A n c)) rfl ⟨rfl, ?_⟩
  · have h := (Lies.new (w.alloc (.cells #[.slice A n c] 51)) (tbLR A n c) 101).rg
    rw [World.size_alloc] at h
    exact h
  · exact ((Below.refl _ _).alloc (Nat.le_refl _) _).alloc (by simp) _
set_option maxHeartbeats 1600000 in
/-- The path of the row at a place. -/
theorem texts_path {w : World} {A : Option Addr} {n c : Nat} {l : List Rw} (h : SqR w w.heap.size A n c l) (hn : n ≤ 1000000) (i : Nat) (hi : i < n) :
    Calls Tryz.prog 70 #[tbR A n c, .int .i64 (i : Int)] w fun e w' => e = .returned (.string (l[i]'(by rw [h.len]; exact hi)).p) ∧ Below w.heap.size w w' := by
  obtain ⟨b, o, rfl, hlt, hrg⟩ := h.at_ hi
  obtain ⟨r, hr⟩ : ∃ r, l[i]'(by rw [h.len]; exact hi) = r := ⟨_, rfl⟩
  rw [hr] at hrg ⊢
  have hk0 : (0 : Int) ≤ (i : Int) := Int.natCast_nonneg _
  have hk1 : (i : Int) < (n : Int) := by omega
  have B1 := (Below.refl w.heap.size w).alloc (Nat.le_refl _) (.cells #[.slice (some ⟨b, o, none⟩) n c, .func (.func 67) #[] #[]] 101)
  have HB := Lib.hid B1
  have HR := Lib.hid (rangeAt_keep hrg (B1.block b hlt))
  have HX := Lib.hid (fun w => texts1_any r w)
  have L1 := Lies.new w (tbLR (some ⟨b, o, none⟩) n c) 101
  have q0 := L1.cell (j := 0) rfl
  have q1 := L1.cell (j := 1) rfl
  have r0 := HR.out 0 _ rfl
  have r1 := HR.out 1 _ rfl
  clear hrg B1 hr h
  go_enter Tryz.func70, Tryz.ntmps70
  go_wp2
  go_region_held3 (fun w' => w'.cell? ⟨w.heap.size, 0, none⟩ = some (.slice (some ⟨b, o, none⟩) n c) ∧ w'.cell? ⟨w.heap.size, 1, none⟩ = some (.func (.func 67) #[] #[]) ∧ w'.cell? ⟨b, o + i * 2, none⟩ = some (.string r.p) ∧ w'.cell? ⟨b, o + i * 2 + 1, none⟩ = some (.string r.t) ∧ Below w.heap.size w w') (first | (exact ⟨q0, q1, r0, r1, HB.out.drew⟩) | (with_reducible exact K5.out)) (first | (go_at_call 67; refine (HX.out _).mono ?_; rintro e w5 ⟨rfl, hb5⟩; have hb6 := (show Below (w.alloc (.cells #[.slice (some ⟨b, o, none⟩) n c, .func (.func 67) #[] #[]] 101)).heap.size (w.alloc (.cells #[.slice (some ⟨b, o, none⟩) n c, .func (.func 67) #[] #[]] 101)) w5 from (Below.refl _ _).drew.trans hb5); have K5 := Lib.hid (show w5.cell? ⟨w.heap.size, 0, none⟩ = some (.slice (some ⟨b, o, none⟩) n c) ∧ w5.cell? ⟨w.heap.size, 1, none⟩ = some (.func (.func 67) #[] #[]) ∧ w5.cell? ⟨b, o + i * 2, none⟩ = some (.string r.p) ∧ w5.cell? ⟨b, o + i * 2 + 1, none⟩ = some (.string r.t) ∧ Below w.heap.size w w5 from ⟨(hb6.cell (p := ⟨w.heap.size, 0, none⟩) (by simp)).trans q0, (hb6.cell (p := ⟨w.heap.size, 1, none⟩) (by simp)).trans q1, (hb6.cell (p := ⟨b, o + i * 2 + 0, none⟩) (by simp; omega)).trans r0, (hb6.cell (p := ⟨b, o + i * 2 + 1, none⟩) (by simp; omega)).trans r1, HB.out.trans (hb6.mono (by simp))⟩); clear hb5 hb6))
  all_goals go_wp2
  all_goals go_ret
  exact ⟨rfl, K5.out.2.2.2.2⟩
set_option maxHeartbeats 1600000 in
theorem changes_any (A : Option Addr) (n c : Nat) (w : World) : Calls Tryz.prog 95 #[.agg #[.slice A n c]] w fun e w' => e = .returned (tbC A n c) ∧ Below w.heap.size w w' := by
  go_enter Tryz.func95, Tryz.ntmps95
  go_wp2
  refine bodyPost_ret (results_cell_mid rfl _ _ (w.heap.size + 1) 0 (tbLC A n c) _ rfl ?_ Tryz.underlying142 rfl (size_tbc A n c)) rfl ⟨rfl, ?_⟩
  · have h := (Lies.new (w.alloc (.cells #[.slice A n c] 31)) (tbLC A n c) 142).rg
    rw [World.size_alloc] at h
    exact h
  · exact ((Below.refl _ _).alloc (Nat.le_refl _) _).alloc (by simp) _
set_option maxHeartbeats 1600000 in
/-- The path of the row at a place. -/
theorem changes_path {w : World} {A : Option Addr} {n c : Nat} {l : List Ch} (h : SqC w w.heap.size A n c l) (hn : n ≤ 1000000) (i : Nat) (hi : i < n) :
    Calls Tryz.prog 103 #[tbC A n c, .int .i64 (i : Int)] w fun e w' => e = .returned (.string (l[i]'(by rw [h.len]; exact hi)).p) ∧ Below w.heap.size w w' := by
  obtain ⟨b, o, rfl, hlt, hrg⟩ := h.at_ hi
  obtain ⟨r, hr⟩ : ∃ r, l[i]'(by rw [h.len]; exact hi) = r := ⟨_, rfl⟩
  rw [hr] at hrg ⊢
  have hk0 : (0 : Int) ≤ (i : Int) := Int.natCast_nonneg _
  have hk1 : (i : Int) < (n : Int) := by omega
  have B1 := (Below.refl w.heap.size w).alloc (Nat.le_refl _) (.cells #[.slice (some ⟨b, o, none⟩) n c, .func (.func 102) #[] #[]] 142)
  have HB := Lib.hid B1
  have HR := Lib.hid (rangeAt_keep hrg (B1.block b hlt))
  have HX := Lib.hid (fun w => changes1_any r w)
  have L1 := Lies.new w (tbLC (some ⟨b, o, none⟩) n c) 142
  have q0 := L1.cell (j := 0) rfl
  have q1 := L1.cell (j := 1) rfl
  have r0 := HR.out 0 _ rfl
  have r1 := HR.out 1 _ rfl
  have r2 := HR.out 2 _ rfl
  clear hrg B1 hr h
  go_enter Tryz.func103, Tryz.ntmps103
  go_wp2
  go_region_held3 (fun w' => w'.cell? ⟨w.heap.size, 0, none⟩ = some (.slice (some ⟨b, o, none⟩) n c) ∧ w'.cell? ⟨w.heap.size, 1, none⟩ = some (.func (.func 102) #[] #[]) ∧ w'.cell? ⟨b, o + i * 3, none⟩ = some (.string r.p) ∧ w'.cell? ⟨b, o + i * 3 + 1, none⟩ = some (.bool r.is) ∧ w'.cell? ⟨b, o + i * 3 + 2, none⟩ = some (.string r.t) ∧ Below w.heap.size w w') (first | (exact ⟨q0, q1, r0, r1, r2, HB.out.drew⟩) | (with_reducible exact K5.out)) (first | (go_at_call 102; refine (HX.out _).mono ?_; rintro e w5 ⟨rfl, hb5⟩; have hb6 := (show Below (w.alloc (.cells #[.slice (some ⟨b, o, none⟩) n c, .func (.func 102) #[] #[]] 142)).heap.size (w.alloc (.cells #[.slice (some ⟨b, o, none⟩) n c, .func (.func 102) #[] #[]] 142)) w5 from (Below.refl _ _).drew.trans hb5); have K5 := Lib.hid (show w5.cell? ⟨w.heap.size, 0, none⟩ = some (.slice (some ⟨b, o, none⟩) n c) ∧ w5.cell? ⟨w.heap.size, 1, none⟩ = some (.func (.func 102) #[] #[]) ∧ w5.cell? ⟨b, o + i * 3, none⟩ = some (.string r.p) ∧ w5.cell? ⟨b, o + i * 3 + 1, none⟩ = some (.bool r.is) ∧ w5.cell? ⟨b, o + i * 3 + 2, none⟩ = some (.string r.t) ∧ Below w.heap.size w w5 from ⟨(hb6.cell (p := ⟨w.heap.size, 0, none⟩) (by simp)).trans q0, (hb6.cell (p := ⟨w.heap.size, 1, none⟩) (by simp)).trans q1, (hb6.cell (p := ⟨b, o + i * 3 + 0, none⟩) (by simp; omega)).trans r0, (hb6.cell (p := ⟨b, o + i * 3 + 1, none⟩) (by simp; omega)).trans r1, (hb6.cell (p := ⟨b, o + i * 3 + 2, none⟩) (by simp; omega)).trans r2, HB.out.trans (hb6.mono (by simp))⟩); clear hb5 hb6))
  all_goals go_wp2
  all_goals go_ret
  exact ⟨rfl, K5.out.2.2.2.2.2⟩
end Go.Proofs.YtcofkhmgmemkmaaGreatDoor
namespace Go.Proofs.YtcofkhmgmemkmaaGreatDoor
set_option linter.unusedVariables false
set_option linter.unusedSimpArgs false
open Go.RowKit Go.WideShapes Go.ChangeShapes Go.Deep

theorem all_take {s : List UInt8} {k : Nat} (hk : k < s.length) : (s.take (k + 1)).all goodB = ((s.take k).all goodB && goodB s[k]) := by
  rw [List.take_add_one, List.getElem?_eq_getElem hk, List.all_append]
  simp
set_option maxHeartbeats 1600000 in
theorem visible_any (s : ByteArray) (hs : s.size ≤ 1000000) (w : World) : Calls Tryz.prog 69 #[.string s] w fun e w' => e = .returned (.bool (visW s)) ∧ Below w.heap.size w w' := by
  have hsz : s.data.toList.length = s.size := by simp
  go_enter Tryz.func69, Tryz.ntmps69
  go_wp2
  go_loopw [6] (fun i wr => ∃ k : Nat, k ≤ s.size ∧ i = .int .i64 (k : Int) ∧ Hid ((s.data.toList.take k).all goodB = true) ∧ Hid (Below w.heap.size w wr)) (fun i _ => s.size - (intOf i).toNat)
  case atStart => exact ⟨0, Nat.zero_le _, rfl, Lib.hid (by simp), Lib.hid (Below.refl _ _)⟩
  case round =>
    obtain ⟨k, hk, rfl, hg, hb⟩ := hrel
    by_cases hlt : k < s.size
    · have hd : decide ((k : Int) < (s.size : Int)) = true := by simp; omega
      have hk0 : (0 : Int) ≤ (k : Int) := Int.natCast_nonneg _
      have hk1 : (k : Int) < (s.size : Int) := by omega
      have hat := all_take (s := s.data.toList) (k := k) (by omega)
      have hgk : s.data.toList[k]'(by omega) = s[k] := rfl
      rw [hgk] at hat
      have hno : goodB s[k] = false → visW s = false := fun h => by
        rw [visW, List.all_eq_false]
        exact ⟨s[k], by rw [← hgk]; exact List.getElem_mem _, by simp [h]⟩
      have HNO := Lib.hid hno
      have HAT := Lib.hid hat
      clear hat hno hgk
      by_cases h1 : (s[k].toNat : Int) < 33
      · have d1 : decide ((s[k].toNat : Int) < 33) = true := by simpa using h1
        go_wp2
        go_ret
        exact ⟨by rw [HNO.out (by unfold goodB; simp; omega)]; rfl, hb.out⟩
      · have d1 : decide ((s[k].toNat : Int) < 33) = false := by simpa using h1
        by_cases h2 : 126 < (s[k].toNat : Int)
        · have d2 : decide (126 < (s[k].toNat : Int)) = true := by simpa using h2
          go_wp2
          go_ret
          exact ⟨by rw [HNO.out (by unfold goodB; simp; omega)]; rfl, hb.out⟩
        · have d2 : decide (126 < (s[k].toNat : Int)) = false := by simpa using h2
          go_wp2
          go_roundw
          case rel => exact ⟨k + 1, by omega, by go_num, Lib.hid (by rw [HAT.out, hg.out]; unfold goodB; simp; omega), hb⟩
          case measure => simp [intOf]; omega
    · have hd : decide ((k : Int) < (s.size : Int)) = false := by simp; omega
      obtain rfl : k = s.size := by omega
      have hv : visW s = true := by rw [visW, ← hg.out, List.take_of_length_le (by omega)]
      have HV := Lib.hid hv
      clear hv
      go_wp2
      go_ret
      exact ⟨by rw [HV.out]; rfl, hb.out⟩
set_option maxHeartbeats 1600000 in
theorem muddled_any (r : Ch) (w : World) : Calls Tryz.prog 99 #[chV r] w fun e w' => e = .returned (.bool (!r.is && !r.t.toList.isEmpty)) ∧ Below w.heap.size w w' := by
  have HB := Lib.hid (show Below w.heap.size w (w.alloc (.cells #[.string r.p, .bool r.is, .string r.t] 71)) from (Below.refl _ _).alloc (Nat.le_refl _) _)
  obtain ⟨p, is, t⟩ := r
  simp only at HB ⊢
  cases is
  · go_enter Tryz.func99, Tryz.ntmps99
    go_wp2
    go_ret
    exact ⟨rfl, HB.out⟩
  · go_enter Tryz.func99, Tryz.ntmps99
    go_wp2
    go_ret
    exact ⟨rfl, HB.out⟩
end Go.Proofs.YtcofkhmgmemkmaaGreatDoor
