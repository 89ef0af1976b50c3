/-
  WHAT A DISK IS, as plain Lean, and in memory. sector.holds; Read.
-/
import Derived.Test.YtionbjocfepkaaaDd
namespace Go.Proofs.Ytionbjocfepkaaa
set_option linter.unusedVariables false
open Go.RowKit Go.WideShapes Go.ChangeShapes

theorem getD_of_lt {α : Type} {l : List α} {j : Nat} {d : α} (h : j < l.length) : l.getD j d = l[j] := by
  rw [List.getD_eq_getElem?_getD, List.getElem?_eq_getElem h]
  rfl

/-- A disk: what is safe of each sector, the writes that wait, the two countdowns, whether it is dead, how many operations were done. -/
structure Mo where
  safe : List (List UInt8)
  wt : List (Nat × List UInt8)
  fu : Bool × Int
  fa : Bool × Int
  dead : Bool
  ops : Int

/-- The writes of sector i that wait. -/
def waitsOf (wt : List (Nat × List UInt8)) (i : Nat) : List (List UInt8) := (wt.filter fun p => p.1 == i).map (·.2)
theorem waitsOf_nil (i : Nat) : waitsOf [] i = [] := rfl
theorem waitsOf_cons_same (i : Nat) (x : List UInt8) (r : List (Nat × List UInt8)) : waitsOf ((i, x) :: r) i = x :: waitsOf r i := by simp [waitsOf]
theorem waitsOf_cons_other {i j : Nat} (h : i ≠ j) (x : List UInt8) (r : List (Nat × List UInt8)) : waitsOf ((i, x) :: r) j = waitsOf r j := by simp [waitsOf, h]
theorem waitsOf_snoc_same (i : Nat) (x : List UInt8) (r : List (Nat × List UInt8)) : waitsOf (r ++ [(i, x)]) i = waitsOf r i ++ [x] := by simp [waitsOf]
theorem waitsOf_snoc_other {i j : Nat} (h : i ≠ j) (x : List UInt8) (r : List (Nat × List UInt8)) : waitsOf (r ++ [(i, x)]) j = waitsOf r j := by simp [waitsOf, h]
theorem waitsOf_mem {wt : List (Nat × List UInt8)} {i : Nat} {x : List UInt8} (h : x ∈ waitsOf wt i) : ∃ p ∈ wt, p.2 = x := by
  simp only [waitsOf, List.mem_map, List.mem_filter] at h
  obtain ⟨p, ⟨hp, _⟩, hx⟩ := h
  exact ⟨p, hp, hx⟩
theorem waitsOf_len (wt : List (Nat × List UInt8)) (i : Nat) : (waitsOf wt i).length ≤ wt.length := by
  simp only [waitsOf, List.length_map]
  exact List.length_filter_le _ _

/-- What sector i holds. -/
def holdsOf (safe : List (List UInt8)) (wt : List (Nat × List UInt8)) (i : Nat) : List UInt8 := ((waitsOf wt i).getLast?).getD (safe.getD i [])

structure Mo.Ok (M : Mo) : Prop where
  pos : 1 ≤ M.safe.length
  max : M.safe.length ≤ 2048
  len : ∀ x ∈ M.safe, x.length = 64
  wt : ∀ p ∈ M.wt, p.1 < M.safe.length ∧ p.2.length = 64
  fu : FitC M.fu
  fa : FitC M.fa
  ops : 0 ≤ M.ops

/-- A slice of blocks that reads as l, in blocks of S; writes behind its end are its own affair where it has room. -/
def Wv (w : World) (S : Nat → Prop) (v : Value) (l : List (List UInt8)) : Prop :=
  (l = [] ∧ v = .slice none 0 0) ∨
  ∃ b o c cur, l ≠ [] ∧ v = .slice (some ⟨b, o, none⟩) l.length c ∧ S b ∧ l.length ≤ c ∧ c ≤ maxLen ∧ w.rangeAt b o (fl l) ∧ w.heap[b]? = some (.cells cur 37 (0, 0)) ∧ (l.length < c → o = 0 ∧ cur.size = c * 64)
theorem Wv.keep {w w' : World} {S S' : Nat → Prop} {v : Value} {l : List (List UInt8)} (h : Wv w S v l) (hk : ∀ b, S b → w'.heap[b]? = w.heap[b]?) (hs : ∀ b, S b → S' b) : Wv w' S' v l := by
  rcases h with h | ⟨b, o, c, cur, h1, h2, h3, h4, h5, h6, h7, h8⟩
  · exact .inl h
  · exact .inr ⟨b, o, c, cur, h1, h2, hs b h3, h4, h5, rangeAt_keep h6 (hk b h3), (hk b h3).trans h7, h8⟩

/-- The cell of a row of sectors. -/
def cellS (safe : List (List UInt8)) (W : Nat → Value) (k : Nat) : Value := if k % 65 < 64 then bv ((safe.getD (k / 65) []).getD (k % 65) 0) else W (k / 65)
theorem cellS_range {w : World} {ga n : Nat} {t : TypeId} {safe : List (List UInt8)} {W : Nat → Value} (h : w.rowIs ga t (65 * n) (cellS safe W)) {i : Nat} (hi : i < n) (hl : (safe.getD i []).length = 64) : w.rangeAt ga (i * 65) (bvs (safe.getD i [])) := by
  refine rowIs_range h _ _ fun j v hv => ?_
  obtain ⟨hj, rfl⟩ := bvs_at _ _ _ hv
  rw [hl] at hj
  refine ⟨by omega, ?_⟩
  unfold cellS
  have h1 : (i * 65 + j) % 65 = j := by omega
  have h2 : (i * 65 + j) / 65 = i := by omega
  rw [h1, h2, if_pos hj]
  rw [getD_of_lt (show j < (safe.getD i []).length by omega)]
theorem cellS_waits {w : World} {ga n : Nat} {t : TypeId} {safe : List (List UInt8)} {W : Nat → Value} (h : w.rowIs ga t (65 * n) (cellS safe W)) {i : Nat} (hi : i < n) : w.cell? ⟨ga, i * 65 + 64, none⟩ = some (W i) := by
  rw [h.cell (by omega)]
  unfold cellS
  have h1 : (i * 65 + 64) % 65 = 64 := by omega
  have h2 : (i * 65 + 64) / 65 = i := by omega
  rw [h1, h2, if_neg (by omega)]

def roomBlk : Value → Option Nat
  | .slice (some a) n c => if n < c then some a.block else none
  | _ => none

/-- The disk M lies in memory: its struct in block g, all of it in blocks of S. -/
structure DkAt (w : World) (g : Nat) (S : Nat → Prop) (M : Mo) (ga : Nat) (O : Value) (W : Nat → Value) : Prop where
  db : Db w g (.slice (some ⟨ga, 0, none⟩) M.safe.length M.safe.length) O M.fu M.fa M.dead M.ops
  sg : S g
  sga : S ga
  lt : ∀ b, S b → b < w.heap.size
  sec : w.rowIs ga 80 (65 * M.safe.length) (cellS M.safe W)
  wv : ∀ i, i < M.safe.length → Wv w S (W i) (waitsOf M.wt i)
  sep : ∀ i j b, i < M.safe.length → j < M.safe.length → i ≠ j → roomBlk (W i) = some b → (W j).ownBlock ≠ some b
  ord : w.ownsRow 0 3 1 O M.wt.length (M.wt.map fun p => Value.int .i64 (p.1 : Int))
  ordS : ∀ b, O.ownBlock = some b → S b
  ok : M.Ok
def Dk (w : World) (g : Nat) (S : Nat → Prop) (M : Mo) : Prop := ∃ ga O W, DkAt w g S M ga O W

theorem ownsRow_keep {w w' : World} {base : Nat} {e : TypeId} {size n : Nat} {v : Value} {xs : List Value} (h : w.ownsRow base e size v n xs) (hk : ∀ b, v.ownBlock = some b → w'.heap[b]? = w.heap[b]?) : w'.ownsRow base e size v n xs := by
  refine ⟨h.1, ?_⟩
  rcases h.2 with h2 | ⟨g, cap, cur, rfl, hb, hg, rest⟩
  · exact .inl h2
  · exact .inr ⟨g, cap, cur, rfl, hb, (hk g rfl).trans hg, rest⟩
theorem DkAt.keep {w w' : World} {g : Nat} {S : Nat → Prop} {M : Mo} {ga : Nat} {O : Value} {W : Nat → Value} (h : DkAt w g S M ga O W) (hz : w.heap.size ≤ w'.heap.size) (hk : ∀ b, S b → w'.heap[b]? = w.heap[b]?) : DkAt w' g S M ga O W :=
  ⟨h.db.keep (hk g h.sg), h.sg, h.sga, fun b hb => Nat.lt_of_lt_of_le (h.lt b hb) hz, h.sec.of_block (hk ga h.sga), fun i hi => (h.wv i hi).keep hk fun _ hb => hb, h.sep, ownsRow_keep h.ord fun b hb => hk b (h.ordS b hb), h.ordS, h.ok⟩
theorem Dk.keep {w w' : World} {g : Nat} {S : Nat → Prop} {M : Mo} (h : Dk w g S M) (hz : w.heap.size ≤ w'.heap.size) (hk : ∀ b, S b → w'.heap[b]? = w.heap[b]?) : Dk w' g S M := by
  obtain ⟨ga, O, W, h⟩ := h
  exact ⟨ga, O, W, h.keep hz hk⟩
theorem Dk.lt {w : World} {g : Nat} {S : Nat → Prop} {M : Mo} (h : Dk w g S M) : ∀ b, S b → b < w.heap.size := by
  obtain ⟨ga, O, W, h⟩ := h
  exact h.lt
theorem Dk.sg {w : World} {g : Nat} {S : Nat → Prop} {M : Mo} (h : Dk w g S M) : S g := by
  obtain ⟨ga, O, W, h⟩ := h
  exact h.sg
theorem Dk.ok {w : World} {g : Nat} {S : Nat → Prop} {M : Mo} (h : Dk w g S M) : M.Ok := by
  obtain ⟨ga, O, W, h⟩ := h
  exact h.ok
theorem Dk.below {w w' : World} {g : Nat} {S : Nat → Prop} {M : Mo} (h : Dk w g S M) (hb : Below w.heap.size w w') : Dk w' g S M := h.keep hb.size fun b hs => hb.block b (h.lt b hs)
/-- What another disk does does not touch this one. -/
theorem Dk.apart {w w' : World} {g : Nat} {S S' : Nat → Prop} {M : Mo} (h : Dk w g S M) (hm : Mv S' w w') (hs : ∀ b, S b → ¬ S' b) : Dk w' g S M := h.keep hm.size fun b hb => hm.block b (h.lt b hb) (hs b hb)
theorem Dk.drewN {w : World} {g : Nat} {S : Nat → Prop} {M : Mo} (h : Dk w g S M) (k : Nat) : Dk (w.drewN k) g S M := h.keep (Nat.le_refl _) fun _ _ => rfl

/-- A fresh set of blocks: what was of S, or is new. -/
def Grow (S S' : Nat → Prop) (w : World) : Prop := ∀ b, S' b → S b ∨ w.heap.size ≤ b
theorem Grow.refl (S : Nat → Prop) (w : World) : Grow S S w := fun _ h => .inl h
end Go.Proofs.Ytionbjocfepkaaa
