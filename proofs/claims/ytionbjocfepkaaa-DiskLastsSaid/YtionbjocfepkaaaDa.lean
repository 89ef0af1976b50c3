/-
  CONTRACTS OF PACKAGE disk's SMALL FUNCTIONS: what each call comes to, as plain Lean, and what becomes of memory.
-/
import Derived.Test.YtionbjocfepkaaaProg
import Derived.Test.YtionbjocfepkaaaMem
import Derived.WalkSpells
import Derived.Deep.QuietTactic
import Derived.BigQuiet
import Derived.RegionTactic
namespace Go.Proofs.Ytionbjocfepkaaa
set_option linter.unusedVariables false
open Go.RowKit Go.WideShapes Go.ChangeShapes

abbrev rp (g : Nat) : Value := .pointer (some ⟨g, 0, none⟩)
theorem ret_int {k : IntKind} {a b : Int} (h : a = b) : Ending.returned (.int k a) = .returned (.int k b) := by rw [h]

/-- Block g is a disk's struct. -/
def Db (w : World) (g : Nat) (s o : Value) (f a : Bool × Int) (dd : Bool) (ops : Int) : Prop :=
  Bl w g 68 [s, o, .bool f.1, .int .i64 f.2, .bool a.1, .int .i64 a.2, .bool dd, .int .i64 ops]
section
variable {w w' : World} {g : Nat} {s o : Value} {f a : Bool × Int} {dd : Bool} {ops : Int}
theorem Db.c0 (h : Db w g s o f a dd ops) : w.cell? ⟨g, 0, none⟩ = some s := Bl.cell h 0
theorem Db.c1 (h : Db w g s o f a dd ops) : w.cell? ⟨g, 1, none⟩ = some o := Bl.cell h 1
theorem Db.c2 (h : Db w g s o f a dd ops) : w.cell? ⟨g, 2, none⟩ = some (.bool f.1) := Bl.cell h 2
theorem Db.c3 (h : Db w g s o f a dd ops) : w.cell? ⟨g, 3, none⟩ = some (.int .i64 f.2) := Bl.cell h 3
theorem Db.c4 (h : Db w g s o f a dd ops) : w.cell? ⟨g, 4, none⟩ = some (.bool a.1) := Bl.cell h 4
theorem Db.c5 (h : Db w g s o f a dd ops) : w.cell? ⟨g, 5, none⟩ = some (.int .i64 a.2) := Bl.cell h 5
theorem Db.c6 (h : Db w g s o f a dd ops) : w.cell? ⟨g, 6, none⟩ = some (.bool dd) := Bl.cell h 6
theorem Db.c7 (h : Db w g s o f a dd ops) : w.cell? ⟨g, 7, none⟩ = some (.int .i64 ops) := Bl.cell h 7
theorem Db.fz (h : Db w g s o f a dd ops) (j : Nat) : w.frozen? ⟨g, j, none⟩ = false := Bl.frozen h j
theorem Db.lt (h : Db w g s o f a dd ops) : g < w.heap.size := Bl.lt h
theorem Db.keep (h : Db w g s o f a dd ops) (hk : w'.heap[g]? = w.heap[g]?) : Db w' g s o f a dd ops := hk.trans h
end

theorem len_any (A : Option Addr) (n c : Nat) {w : World} {g : Nat} (h0 : w.cell? ⟨g, 0, none⟩ = some (.slice A n c)) :
    Calls Try.prog 35 #[rp g] w fun e w' => e = .returned (.int .i64 n) ∧ w = w' := by
  go_enter Try.func35, Try.ntmps35
  go_wp2
  go_ret
  exact ⟨rfl, rfl⟩
theorem len_nil (w : World) :
    Calls Try.prog 35 #[.pointer none] w fun e w' => e = .returned (.int .i64 0) ∧ w = w' := by
  go_enter Try.func35, Try.ntmps35
  go_wp2
  go_ret
  exact ⟨rfl, rfl⟩
theorem ops_any {w : World} {g : Nat} (n : Int) (h0 : w.cell? ⟨g, 7, none⟩ = some (.int .i64 n)) :
    Calls Try.prog 36 #[rp g] w fun e w' => e = .returned (.int .i64 n) ∧ w = w' := by
  go_enter Try.func36, Try.ntmps36
  go_wp2
  go_ret
  exact ⟨rfl, rfl⟩
theorem ops_nil (w : World) :
    Calls Try.prog 36 #[.pointer none] w fun e w' => e = .returned (.int .i64 0) ∧ w = w' := by
  go_enter Try.func36, Try.ntmps36
  go_wp2
  go_ret
  exact ⟨rfl, rfl⟩
theorem dead_any {w : World} {g : Nat} (b : Bool) (h0 : w.cell? ⟨g, 6, none⟩ = some (.bool b)) :
    Calls Try.prog 25 #[rp g] w fun e w' => e = .returned (.bool b) ∧ w = w' := by
  go_enter Try.func25, Try.ntmps25
  go_wp2
  go_ret
  exact ⟨rfl, rfl⟩
theorem dead_nil (w : World) :
    Calls Try.prog 25 #[.pointer none] w fun e w' => e = .returned (.bool false) ∧ w = w' := by
  go_enter Try.func25, Try.ntmps25
  go_wp2
  go_ret
  exact ⟨rfl, rfl⟩

/-- Is there a sector i of n? -/
def hasB (n : Nat) (i : Int) : Bool := decide (0 ≤ i) && decide (i < n)
theorem has_any (A : Option Addr) (n c : Nat) (i : Int) {w : World} {g : Nat} (h0 : w.cell? ⟨g, 0, none⟩ = some (.slice A n c)) :
    Calls Try.prog 41 #[rp g, .int .i64 i] w fun e w' => e = .returned (.bool (hasB n i)) ∧ w = w' := by
  by_cases h : 0 ≤ i
  · by_cases h2 : i < n
    · have hb : hasB n i = true := by simp [hasB, h, h2]
      rw [hb]
      have hd1 : decide (0 ≤ i) = true := by simpa using h
      have hd2 : decide (i < n) = true := by simpa using h2
      go_enter Try.func41, Try.ntmps41
      go_wp2_with (go_at_call 35; refine (len_any A n c h0).mono ?_; rintro e w' ⟨rfl, rfl⟩)
      go_ret
      exact ⟨rfl, rfl⟩
    · have hb : hasB n i = false := by simp [hasB, h2]
      rw [hb]
      have hd1 : decide (0 ≤ i) = true := by simpa using h
      have hd2 : decide (i < n) = false := by simpa using h2
      go_enter Try.func41, Try.ntmps41
      go_wp2_with (go_at_call 35; refine (len_any A n c h0).mono ?_; rintro e w' ⟨rfl, rfl⟩)
      go_ret
      exact ⟨rfl, rfl⟩
  · have hb : hasB n i = false := by simp [hasB, h]
    rw [hb]
    have hd1 : decide (0 ≤ i) = false := by simpa using h
    go_enter Try.func41, Try.ntmps41
    go_wp2
    go_ret
    exact ⟨rfl, rfl⟩
theorem has_nil (i : Int) (w : World) :
    Calls Try.prog 41 #[.pointer none, .int .i64 i] w fun e w' => e = .returned (.bool (hasB 0 i)) ∧ w = w' := by
  by_cases h : 0 ≤ i
  · have hb : hasB 0 i = false := by simp only [hasB, Bool.and_eq_false_iff, decide_eq_false_iff_not]; omega
    rw [hb]
    have hd1 : decide (0 ≤ i) = true := by simpa using h
    have hd2 : decide (i < 0) = false := by simp; omega
    go_enter Try.func41, Try.ntmps41
    go_wp2_with (go_at_call 35; refine (len_nil w).mono ?_; rintro e w' ⟨rfl, rfl⟩)
    go_ret
    exact ⟨rfl, rfl⟩
  · have hb : hasB 0 i = false := by simp [hasB, h]
    rw [hb]
    have hd1 : decide (0 ≤ i) = false := by simpa using h
    go_enter Try.func41, Try.ntmps41
    go_wp2
    go_ret
    exact ⟨rfl, rfl⟩

/-- A countdown's turn. -/
def dueB (f : Bool × Int) : Bool := f.1 && f.2 == 0
theorem due_any (f : Bool × Int) (w : World) :
    Calls Try.prog 57 #[.agg #[.bool f.1, .int .i64 f.2]] w fun e w' => e = .returned (.bool (dueB f)) ∧ Below w.heap.size w w' := by
  obtain ⟨on, l⟩ := f
  cases on
  · go_enter Try.func57, Try.ntmps57
    go_wp2
    go_ret
    exact ⟨rfl, (Below.refl _ _).alloc (Nat.le_refl _) _⟩
  · cases hl : l == 0
    · have hb : dueB (true, l) = false := by simpa [dueB] using hl
      have H := Lib.hid hb
      clear hb
      go_enter Try.func57, Try.ntmps57
      go_wp2
      go_ret
      exact ⟨by rw [H.out]; rfl, (Below.refl _ _).alloc (Nat.le_refl _) _⟩
    · have hb : dueB (true, l) = true := by simpa [dueB] using hl
      have H := Lib.hid hb
      clear hb
      go_enter Try.func57, Try.ntmps57
      go_wp2
      go_ret
      exact ⟨by rw [H.out]; rfl, (Below.refl _ _).alloc (Nat.le_refl _) _⟩

/-- A countdown, one done. -/
def passed (f : Bool × Int) : Bool × Int := if f.1 then (f.1, f.2 - 1) else f
def passW (w : World) (g k : Nat) (f : Bool × Int) : World := if f.1 then w.setCell ⟨g, k + 1, none⟩ (.int .i64 (f.2 - 1)) else w
theorem pass_any (f : Bool × Int) (k : Nat) {w : World} {g : Nat} (h0 : w.cell? ⟨g, k, none⟩ = some (.bool f.1)) (h1 : w.cell? ⟨g, k + 1, none⟩ = some (.int .i64 f.2)) (h2 : w.frozen? ⟨g, k + 1, none⟩ = false)
    (hf : f.1 = true → -9223372036854775807 ≤ f.2 ∧ f.2 ≤ 9223372036854775807) :
    Calls Try.prog 58 #[.pointer (some ⟨g, k, none⟩)] w fun e w' => e = .returned (.tuple #[]) ∧ w' = passW w g k f := by
  obtain ⟨on, l⟩ := f
  cases on
  · clear hf
    go_enter Try.func58, Try.ntmps58
    go_wp2
    go_end0
    exact ⟨rfl, rfl⟩
  · obtain ⟨hl1, hl2⟩ := hf rfl
    simp only at h0 h1 h2 hl1 hl2
    go_enter Try.func58, Try.ntmps58
    go_wp2
    go_end0
    exact ⟨rfl, rfl⟩

theorem after_any (n : Int) (w : World) :
    Calls Try.prog 48 #[.int .i64 n] w fun e w' => e = .returned (.agg #[.bool (decide (0 ≤ n)), .int .i64 n]) ∧ Below w.heap.size w w' := by
  go_enter Try.func48, Try.ntmps48
  go_wp2
  exact bodyPost_ret (v := .agg #[.bool (decide (0 ≤ n)), .int .i64 n]) (by simp [results, Try.results48, go_sem]) rfl ⟨rfl, (Below.refl _ _).alloc (Nat.le_refl _) _⟩

theorem powered_nil (v : Value) (w : World) :
    Calls Try.prog 46 #[.pointer none, v] w fun e w' => e = .returned (.int .i64 1) ∧ w = w' := by
  go_enter Try.func46, Try.ntmps46
  go_wp2
  go_ret
  exact ⟨rfl, rfl⟩
theorem powered_dead (v : Value) {w : World} {g : Nat} (h0 : w.cell? ⟨g, 6, none⟩ = some (.bool true)) :
    Calls Try.prog 46 #[rp g, v] w fun e w' => e = .returned (.int .i64 9) ∧ w = w' := by
  go_enter Try.func46, Try.ntmps46
  go_wp2
  go_ret
  exact ⟨rfl, rfl⟩
theorem powered_do (k : Nat) (caps : Array Value) {w : World} {g : Nat} (Q : Int → World → Prop) (h0 : w.cell? ⟨g, 6, none⟩ = some (.bool false)) (hk : ∀ w : World, (callFunc k caps).run Try.prog w = .ok (.enter k caps) w) (hdo : Calls Try.prog k caps w fun e w' => ∃ x : Int, e = .returned (.int .i64 x) ∧ Q x w') :
    Calls Try.prog 46 #[rp g, .func (.func k) #[] caps] w fun e w' => ∃ x : Int, e = .returned (.int .i64 x) ∧ Q x w' := by
  have H := Lib.hid hdo
  clear hdo
  go_enter Try.func46, Try.ntmps46
  go_wp2_with ((with_reducible refine (H.out).mono ?_); rintro e w' ⟨x, rfl, hx⟩)
  go_ret
  exact ⟨x, rfl, hx⟩
theorem enters_rd (a b c : Value) (w : World) : (callFunc 44 #[a, b, c]).run Try.prog w = .ok (.enter 44 #[a, b, c]) w := by kernel_rfl
end Go.Proofs.Ytionbjocfepkaaa
