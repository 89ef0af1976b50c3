/-
  ROWS OF A MAP AND CHANGES OF AN EDIT IN MEMORY: slices of them; tables.
-/
import Derived.Test.YtgdcahakefmakaaMem
import Derived.Test.YtgdcahakefmakaaBk
import Derived.Test.YtgdcahakefmakaaChecked
import Derived.Laws.Cover1
import Derived.Laws.EntriesVeiled
import Derived.Deep.Grids
import Derived.Deep.SlicePairs
import Derived.Deep.MidRow
import Derived.Deep.QuietTactic
namespace Go.Proofs.Ytgdcahakefmakaa
set_option linter.unusedVariables false
set_option linter.unusedSimpArgs false
open Go.RowKit Go.WideShapes Go.ChangeShapes Go.Deep

/-- A block known whole, all storable. -/
structure Lies (W : World) (b k : Nat) (l : List Value) : Prop where
  rg : W.rangeAt b 0 l
  th : W.there b 0 k
  lt : b < W.heap.size
  len : l.length = k
section
variable {W W' : World} {b k : Nat} {l : List Value}
theorem there_keep {w w' : World} {b o n : Nat} (h : w.there b o n) (hk : w'.heap[b]? = w.heap[b]?) : w'.there b o n := fun j hj => by
  obtain ⟨h1, h2⟩ := h j hj
  refine ⟨by rw [World.cell?_of_block (a := ⟨b, o + j, none⟩) hk]; exact h1, ?_⟩
  rw [← h2]
  simp only [World.frozen?, hk]
theorem Lies.kp (h : Lies W b k l) (hk : W'.heap[b]? = W.heap[b]?) (hz : W.heap.size ≤ W'.heap.size) : Lies W' b k l :=
  ⟨rangeAt_keep h.rg hk, there_keep h.th hk, Nat.lt_of_lt_of_le h.lt hz, h.len⟩
theorem Lies.below (h : Lies W b k l) {B : Nat} (hb : Below B W W') (hB : b < B) : Lies W' b k l := h.kp (hb.block b hB) hb.size
theorem Lies.alloc (h : Lies W b k l) (o : Obj) : Lies (W.alloc o) b k l := h.below ((Below.refl W.heap.size W).alloc (Nat.le_refl _) o) h.lt
theorem Lies.new (w : World) (cs : List Value) (t : TypeId) : Lies (w.alloc (.cells cs.toArray t)) w.heap.size cs.length cs := by
  have hb := Bl.new w t cs
  refine ⟨fun j v hv => by rw [Nat.zero_add, hb.cell j]; exact hv, fun j hj => ⟨?_, hb.frozen _⟩, hb.lt, rfl⟩
  rw [Nat.zero_add, hb.cell j, List.getElem?_eq_getElem hj]
  rfl
theorem Lies.cell (h : Lies W b k l) {j : Nat} {v : Value} (hv : l[j]? = some v) : W.cell? ⟨b, j, none⟩ = some v := by
  have := h.rg j v hv
  rwa [Nat.zero_add] at this
theorem Lies.frozen (h : Lies W b k l) {j : Nat} (hj : j < k) : W.frozen? ⟨b, j, none⟩ = false := by
  have := (h.th j hj).2
  rwa [Nat.zero_add] at this
end

/-- A row of a map; a change. -/
structure Rw where
  p : ByteArray
  t : ByteArray
structure Ch where
  p : ByteArray
  is : Bool
  t : ByteArray
def Rw.cells (r : Rw) : List Value := [.string r.p, .string r.t]
def Ch.cells (r : Ch) : List Value := [.string r.p, .bool r.is, .string r.t]
abbrev rwV (r : Rw) : Value := .agg #[.string r.p, .string r.t]
abbrev chV (r : Ch) : Value := .agg #[.string r.p, .bool r.is, .string r.t]

/-- A slice that reads as l, each of k cells, in blocks below B. -/
structure Sq {α : Type} (f : α → List Value) (k : Nat) (w : World) (B : Nat) (A : Option Addr) (n c : Nat) (l : List α) : Prop where
  len : l.length = n
  cap : n ≤ c
  max : c ≤ maxLen
  non : A = none → c = 0
  sz : ∀ x, (f x).length = k
  pos : 0 < n → ∃ b o, A = some ⟨b, o, none⟩ ∧ b < B ∧ w.rangeAt b o (l.flatMap f)
section
variable {α : Type} {f : α → List Value} {k : Nat} {w w' : World} {B B' n c : Nat} {A : Option Addr} {l : List α}
theorem Sq.nil_ (hs : ∀ x, (f x).length = k) : Sq f k w B none 0 0 [] := ⟨rfl, Nat.le_refl _, Nat.zero_le _, fun _ => rfl, hs, fun h => absurd h (by omega)⟩
theorem Sq.below (h : Sq f k w B A n c l) (hb : Below B w w') : Sq f k w' B A n c l :=
  ⟨h.len, h.cap, h.max, h.non, h.sz, fun hn => by
    obtain ⟨b, o, e, hlt, hc⟩ := h.pos hn
    exact ⟨b, o, e, hlt, rangeAt_keep hc (hb.block b hlt)⟩⟩
theorem Sq.more (h : Sq f k w B A n c l) (hB : B ≤ B') : Sq f k w B' A n c l :=
  ⟨h.len, h.cap, h.max, h.non, h.sz, fun hn => by
    obtain ⟨b, o, e, hlt, hc⟩ := h.pos hn
    exact ⟨b, o, e, by omega, hc⟩⟩
theorem Sq.drew (h : Sq f k w B A n c l) : Sq f k w.drew B A n c l := ⟨h.len, h.cap, h.max, h.non, h.sz, h.pos⟩
theorem flat_len (hs : ∀ x, (f x).length = k) : ∀ l : List α, (l.flatMap f).length = l.length * k
  | [] => by simp
  | x :: r => by rw [List.flatMap_cons, List.length_append, hs, flat_len hs r, List.length_cons]; rw [Nat.add_mul, Nat.one_mul, Nat.add_comm]
theorem flat_part (hs : ∀ x, (f x).length = k) {b : Nat} : ∀ {l : List α} {o : Nat}, w.rangeAt b o (l.flatMap f) → ∀ (i : Nat) (hi : i < l.length), w.rangeAt b (o + i * k) (f l[i])
  | [], _, _, i, hi => by simp at hi
  | x :: r, o, h, i, hi => by
    rw [List.flatMap_cons, rangeAt_app, hs] at h
    rcases i with _ | i
    · simpa using h.1
    · have := flat_part hs (o := o + k) h.2 i (by simpa using hi)
      rw [show o + k + i * k = o + (i + 1) * k by rw [Nat.add_mul, Nat.one_mul]; omega] at this
      exact this
/-- What lies at place i. -/
theorem Sq.at_ (h : Sq f k w B A n c l) {i : Nat} (hi : i < n) : ∃ b o, A = some ⟨b, o, none⟩ ∧ b < B ∧ w.rangeAt b (o + i * k) (f (l[i]'(by rw [h.len]; exact hi))) := by
  obtain ⟨b, o, e, hlt, hc⟩ := h.pos (by omega)
  exact ⟨b, o, e, hlt, flat_part h.sz hc i _⟩
theorem Sq.le (h : Sq f k w B A n c l) : n ≤ maxLen := Nat.le_trans h.cap h.max
theorem Sq.tail_ (h : Sq f k w B A n c l) : Sq f k w B A n c l := h
end
theorem rw_sz (r : Rw) : r.cells.length = 2 := rfl
theorem ch_sz (r : Ch) : r.cells.length = 3 := rfl
abbrev SqR := Sq Rw.cells 2
abbrev SqC := Sq Ch.cells 3
theorem rw_one (l : List Rw) : ∀ v ∈ l.flatMap Rw.cells, v.oneCell' = true := by
  intro v hv
  simp only [List.mem_flatMap, Rw.cells, List.mem_cons, List.not_mem_nil, or_false] at hv
  obtain ⟨r, _, rfl | rfl⟩ := hv <;> rfl
theorem ch_one (l : List Ch) : ∀ v ∈ l.flatMap Ch.cells, v.oneCell' = true := by
  intro v hv
  simp only [List.mem_flatMap, Ch.cells, List.mem_cons, List.not_mem_nil, or_false] at hv
  obtain ⟨r, _, rfl | rfl | rfl⟩ := hv <;> rfl

section
variable {ops : Array Oper} {rest : List Oper} {op : Oper} {a : Act} {w : World} {Q : Exit → Act → World → Prop}
end

/-- Texts in their order. -/
def lt (a b : ByteArray) : Bool := Op.bytesLess a.toList b.toList
def goodB (b : UInt8) : Bool := decide (33 ≤ b.toNat) && decide (b.toNat ≤ 126)
def visW (s : ByteArray) : Bool := s.data.toList.all goodB
def fitP (p t : ByteArray) : Bool := !p.toList.isEmpty && decide (p.size ≤ 48) && decide (t.size ≤ 256) && visW p
def fitW {α : Type} (p t : α → ByteArray) (l : List α) : Bool := decide (l.length ≤ 32) && l.all fun x => fitP (p x) (t x)
/-- The paths rise. -/
def riseW : List ByteArray → Bool
  | [] => true
  | [_] => true
  | a :: b :: r => lt a b && riseW (b :: r)
theorem riseW_iff : ∀ (l : List ByteArray), riseW l = true ↔ ∀ i (h : i + 1 < l.length), lt l[i] l[i + 1] = true
  | [] => by simp [riseW]
  | [_] => by simp [riseW]
  | a :: b :: r => by
    rw [riseW, Bool.and_eq_true, riseW_iff (b :: r)]
    constructor
    · rintro ⟨h1, h2⟩ i hi
      rcases i with _ | i
      · exact h1
      · exact h2 i (by simpa using hi)
    · intro h
      exact ⟨h 0 (by simp), fun i hi => h (i + 1) (by simpa using hi)⟩
end Go.Proofs.Ytgdcahakefmakaa
