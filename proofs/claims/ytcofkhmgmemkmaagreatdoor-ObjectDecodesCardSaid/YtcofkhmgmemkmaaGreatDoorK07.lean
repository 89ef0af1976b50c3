/-
  WORDS OF MY OWN FOR MEMORY, over whatever program: a slice that reads as a list of bytes; a block that is known whole; what stays. Nothing of a program stands here.
  WORDS OF MY OWN FOR MEMORY, over whatever program: a step that turns only the blocks of a set; ranges of a row; stores of many cells. Nothing of a program stands here.
  A LAW OF MY OWN ON A REGION THAT DRAWS ITS ORDER, over whatever program: 'x.f = append(x.f, v)' and its like. The first n operations only read; what they read holds under S; those from number m on wait for all of these; between n and m, and from m on, one forced order. Then the region does as its text does, if S is shown anew behind the operations between n and m alone: the store at the end may hit what was read.
  A LAW OF MY OWN ON A REGION THAT DRAWS ITS ORDER, over whatever program: 'd, e = f(d, g(x))' and its like. The first n operations only read; what they read holds under S; those from number p on wait for all of these. From n to k one forced order, S shown anew behind each; from k to p operations that have one value in whatever world; from p on one forced order again: what is stored there may be what was read.
  ROWS OF A MAP AND CHANGES OF AN EDIT IN MEMORY: slices of them; tables.
-/
import Derived.Below
import Derived.Laws.OwnMore
import Derived.Deep.Draws
import Derived.Laws.Rows
import Derived.OwnWalk
import Derived.WalkKit
import Derived.Lib.Hide
import Derived.ChangeSame
import Derived.Laws.CopyOwn
import Derived.Laws.AppendOwnNone
import Derived.OpenShut
import Derived.Deep.OwnRows
import Derived.Deep.MidRow
import Derived.Deep.RegionHeld3
import Derived.StillTailTactics
import Derived.OrdersHeld
import Derived.StillTail
import Derived.Test.YtcofkhmgmemkmaaGreatDoorChecked
import Derived.Laws.Cover1
import Derived.Laws.EntriesVeiled
import Derived.Deep.Grids
import Derived.Deep.SlicePairs
import Derived.Deep.QuietTactic
namespace Go.Proofs.YtcofkhmgmemkmaaGreatDoor
open Go.RowKit Go.WideShapes Go.ChangeShapes

/-- A byte as the model holds it. -/
def bv (b : UInt8) : Value := .int .u8 (b.toNat : Int)
def bvs (l : List UInt8) : List Value := l.map bv

theorem bvs_len (l : List UInt8) : (bvs l).length = l.length := by simp [bvs]
theorem bvs_one (l : List UInt8) : ∀ v ∈ bvs l, v.oneCell' = true := by
  intro v hv
  simp only [bvs, List.mem_map] at hv
  obtain ⟨b, _, rfl⟩ := hv
  rfl
theorem bvs_app (a b : List UInt8) : bvs (a ++ b) = bvs a ++ bvs b := by simp [bvs]
theorem bvs_at (l : List UInt8) (j : Nat) (u : Value) (h : (bvs l)[j]? = some u) : ∃ hj : j < l.length, u = bv l[j] := by
  simp only [bvs, List.getElem?_map, Option.map_eq_some_iff] at h
  obtain ⟨b, hb, rfl⟩ := h
  obtain ⟨hj, rfl⟩ := List.getElem?_eq_some_iff.1 hb
  exact ⟨hj, rfl⟩

theorem addr_add (b o j : Nat) : (⟨b, o, none⟩ : Addr).add j = ⟨b, o + j, none⟩ := by
  unfold Addr.add
  split <;> simp_all

/-- THE SLICE '.slice A n c' READS AS l, in blocks below B. -/
structure SlB (w : World) (B : Nat) (A : Option Addr) (n c : Nat) (l : List UInt8) : Prop where
  len : l.length = n
  cap : n ≤ c
  max : c ≤ maxLen
  non : A = none → c = 0
  pos : 0 < n → ∃ b o, A = some ⟨b, o, none⟩ ∧ b < B ∧ ∀ j (h : j < l.length), w.cell? ⟨b, o + j, none⟩ = some (bv l[j])

section
variable {w w' : World} {B B' n c : Nat} {A : Option Addr} {l : List UInt8}
theorem SlB.nil_ : SlB w B none 0 0 [] := ⟨rfl, Nat.le_refl _, Nat.zero_le _, fun _ => rfl, fun h => absurd h (by omega)⟩
theorem SlB.keep (h : SlB w B A n c l) (hk : ∀ p : Addr, p.block < B → w'.cell? p = w.cell? p) : SlB w' B A n c l :=
  ⟨h.len, h.cap, h.max, h.non, fun hn => by
    obtain ⟨b, o, e, hb, hc⟩ := h.pos hn
    exact ⟨b, o, e, hb, fun j hj => (hk _ hb).trans (hc j hj)⟩⟩
theorem SlB.more (h : SlB w B A n c l) (hB : B ≤ B') : SlB w B' A n c l :=
  ⟨h.len, h.cap, h.max, h.non, fun hn => by
    obtain ⟨b, o, e, hb, hc⟩ := h.pos hn
    exact ⟨b, o, e, by omega, hc⟩⟩
theorem SlB.below (h : SlB w B A n c l) (hb : Below B w w') : SlB w' B A n c l := h.keep fun _ hp => hb.cell hp
theorem SlB.grown (h : SlB w B A n c l) {row : Option Nat} (hg : w.grownBy w' row) (hB : B ≤ w.heap.size) (hr : ∀ g, row = some g → B ≤ g) : SlB w' B A n c l :=
  h.keep fun p hp => World.cell?_of_block (hg.block p.block (by omega) (fun e => by have := hr _ e.symm; omega))
theorem SlB.drew (h : SlB w B A n c l) : SlB w.drew B A n c l := h.keep fun _ _ => rfl
theorem SlB.drewN (h : SlB w B A n c l) (k : Nat) : SlB (w.drewN k) B A n c l := h.keep fun _ _ => rfl
theorem SlB.take (h : SlB w B A n c l) {k : Nat} (hk : k ≤ n) : SlB w B A k c (l.take k) := by
  refine ⟨by have := h.len; simp; omega, by have := h.cap; omega, h.max, h.non, fun h0 => ?_⟩
  obtain ⟨b, o, e, hb, hc⟩ := h.pos (by omega)
  refine ⟨b, o, e, hb, fun j hj => ?_⟩
  rw [List.length_take] at hj
  rw [List.getElem_take]
  exact hc j (by omega)
theorem SlB.zero_ : SlB w B A 0 0 [] := ⟨rfl, Nat.le_refl _, Nat.zero_le _, fun _ => rfl, fun h => absurd h (by omega)⟩
theorem SlB.cut3 (h : SlB w B A n c l) {t k : Nat} (hk : t + k ≤ n) : SlB w B (A.map fun x => x.add t) k k ((l.drop t).take k) := by
  refine ⟨by have := h.len; simp; omega, Nat.le_refl _, by have := h.cap; have := h.max; omega, fun e => by have := h.cap; have := h.non (by simpa using e); omega, fun h0 => ?_⟩
  obtain ⟨b, o, rfl, hb, hc⟩ := h.pos (by omega)
  refine ⟨b, o + t, by simp [addr_add], hb, fun j hj => ?_⟩
  rw [List.length_take, List.length_drop] at hj
  rw [List.getElem_take, List.getElem_drop, Nat.add_assoc]
  exact hc (t + j) (by omega)
theorem SlB.le (h : SlB w B A n c l) : n ≤ maxLen := Nat.le_trans h.cap h.max
/-- As the kit's laws on append and copy ask for a source. -/
theorem SlB.src (h : SlB w B A n c l) (h0 : 0 < n) : ∃ ad, A = some ad ∧ ∀ j v, (bvs l)[j]? = some v → w.cell? (ad.add j) = some v := by
  obtain ⟨b, o, e, hb, hc⟩ := h.pos h0
  refine ⟨_, e, fun j v hv => ?_⟩
  obtain ⟨hj, rfl⟩ := bvs_at l j v hv
  rw [addr_add]
  exact hc j hj
end

/-- BLOCK g IS JUST THE CELLS cs OF THE ELEMENT TYPE t. -/
def Bl (w : World) (g : Nat) (t : TypeId) (cs : List Value) : Prop := w.heap[g]? = some (.cells cs.toArray t (0, 0))

section
variable {w w' : World} {g : Nat} {t : TypeId} {cs : List Value}
theorem Bl.lt (h : Bl w g t cs) : g < w.heap.size := (Array.getElem?_eq_some_iff.1 h).1
theorem Bl.cell (h : Bl w g t cs) (i : Nat) : w.cell? ⟨g, i, none⟩ = cs[i]? := by
  have := cell_of_row w g i cs.toArray t (0, 0) h
  simpa using this
theorem Bl.frozen (h : Bl w g t cs) (i : Nat) : w.frozen? ⟨g, i, none⟩ = false := by
  unfold Bl at h
  simp [World.frozen?, h]
theorem Bl.below {B : Nat} (h : Bl w g t cs) (hb : Below B w w') (hg : g < B) : Bl w' g t cs := (hb.block g hg).trans h
theorem Bl.grown {row : Option Nat} (h : Bl w g t cs) (hb : w.grownBy w' row) (hg : some g ≠ row) : Bl w' g t cs := (hb.block g h.lt hg).trans h
theorem Bl.set_ (h : Bl w g t cs) (i : Nat) (u : Value) : Bl (w.setCell ⟨g, i, none⟩ u) g t (cs.set i u) := by
  unfold Bl at h ⊢
  simp [World.setCell, Array.getElem?_modify, h]
theorem Bl.far (h : Bl w g t cs) {p : Addr} (hp : g ≠ p.block) (u : Value) : Bl (w.setCell p u) g t cs := (Below.heap_setCell w p u g hp).trans h
theorem Bl.alloc (h : Bl w g t cs) (o : Obj) : Bl (w.alloc o) g t cs := (Below.heap_alloc w o g h.lt).trans h
theorem Bl.new (w : World) (t : TypeId) (cs : List Value) : Bl (w.alloc (.cells cs.toArray t)) w.heap.size t cs := heap_alloc_new w _
/-- A block of bytes as a slice. -/
theorem Bl.sl {l : List UInt8} {B : Nat} (h : Bl w g t (bvs l)) (hB : g < B) (hm : l.length ≤ maxLen) : SlB w B (some ⟨g, 0, none⟩) l.length l.length l := by
  refine ⟨rfl, Nat.le_refl _, hm, fun e => (by cases e), fun _ => ⟨g, 0, rfl, hB, fun j hj => ?_⟩⟩
  rw [Nat.zero_add, h.cell j]
  simp [bvs, List.getElem?_eq_getElem hj]
end

theorem below_drewN {B : Nat} {a w : World} (h : Below B a w) (n : Nat) : Below B a (w.drewN n) := ⟨h.os, h.tape, h.output, h.size, h.block⟩
/-- Only block g may have turned, of those that were there. -/
theorem only_refl (w : World) (r : Option Nat) : w.grownBy w r := ⟨rfl, rfl, rfl, Nat.le_refl _, fun _ _ _ => rfl⟩
theorem only_trans {a b c : World} {r : Option Nat} (h : a.grownBy b r) (k : b.grownBy c r) : a.grownBy c r :=
  ⟨k.os.trans h.os, k.tape.trans h.tape, k.output.trans h.output, Nat.le_trans h.size k.size, fun i hi hn => (k.block i (Nat.lt_of_lt_of_le hi h.size) hn).trans (h.block i hi hn)⟩
theorem only_of_below {a w : World} (h : Below a.heap.size a w) (r : Option Nat) : a.grownBy w r := ⟨h.os, h.tape, h.output, h.size, fun i hi _ => h.block i hi⟩
theorem only_drewN {a w : World} {r : Option Nat} (h : a.grownBy w r) (n : Nat) : a.grownBy (w.drewN n) r := ⟨h.os, h.tape, h.output, h.size, h.block⟩
theorem only_set {a w : World} {g : Nat} (h : a.grownBy w (some g)) {p : Addr} (hp : p.block = g) (u : Value) : a.grownBy (w.setCell p u) (some g) :=
  ⟨h.os, h.tape, h.output, by simpa [World.setCell] using h.size, fun i hi hn => (Below.heap_setCell w p u i (fun e => hn (by rw [e, hp]))).trans (h.block i hi hn)⟩
theorem below_of_only {a w : World} {g B : Nat} (h : a.grownBy w (some g)) (hB : B ≤ g) (hs : B ≤ a.heap.size) : Below B a w :=
  ⟨h.os, h.tape, h.output, h.size, fun i hi => h.block i (by omega) (fun e => by injection e; omega)⟩

theorem splice_front (a b : List Value) (_h : 0 + b.length ≤ a.length) : splice a 0 b = b ++ a.drop b.length := by simp [splice]
theorem run_make_bytes {P : Program} (t e : TypeId) (i : TypeInfo) (ht : P.underlying t = some (.slice e)) (hi : P.info? e = some i) (hz : i.zero = some (.int .u8 0)) (h1 : i.size = 1) (hb : i.bytes = 1) (n : Nat)
    (N : Int) (hN : N = (n : Int)) (h : n ≤ 140737488355328) (w : World) :
    (Instr.makeSlice t (.int .i64 N) (.int .i64 N)).run P w = .ok (.slice (some ⟨w.heap.size, 0, none⟩) n n) (w.alloc (.cells (bvs (List.replicate n 0)).toArray e)) := by
  subst hN
  have hr := run_make (P := P) w t e i _ ht hi hz .i64 .i64 (n : Int) (n : Int) (by omega) (by omega) (by rw [hb]; omega) (by omega)
  simp only [Int.toNat_natCast, h1, Nat.mul_one] at hr
  rw [hr]
  congr 3
  apply Array.ext
  · simp [madeCells, bvs]
  · intro i _ _
    simp [madeCells, bvs, bv, Value.cells, Nat.mod_one]
/-- A new block, and then nothing old. -/
theorem below_new {w w' : World} {o : Obj} (h : Below (w.alloc o).heap.size (w.alloc o) w') : Below w.heap.size w w' :=
  ((Below.refl _ _).alloc (Nat.le_refl _) _).trans (h.mono (by simp))
/-- 'append(dst, src...)' of bytes: dst the call's own, src nil or not. -/
theorem wpList_append_sl {P : Program} {w : World} {ops : Array Oper} {rest : List Oper} {o : Oper} {a : Act} {Q : Exit → Act → World → Prop} (hgd : o.guard = none) (s x : Operand) (t : TypeId)
    (ho : o.op = .call { callee := .builtin .append, args := #[s, x], argTypes := #[t, t] })
    (base : Nat) (e : TypeId) (i : TypeInfo) (ht : P.underlying t = some (.slice e)) (hi : P.info? e = some i) (hz : i.zero = some (.int .u8 0)) (hsize : i.size = 1) (hby : i.bytes = 1)
    (v : Value) (n : Nat) (l0 : List UInt8) (hs : a.eval s = v) (hown : w.ownsRow base e 1 v n (bvs l0))
    {B : Nat} {A : Option Addr} {m c : Nat} {l : List UInt8} (hx : a.eval x = .slice A m c) (hr : SlB w B A m c l) (h63 : n + m ≤ 140737488355328) (hbase : base ≤ w.heap.size)
    (h : ∀ v' w', w'.ownsRow base e 1 v' (n + m) (bvs (l0 ++ l)) → w.grownBy w' v.ownBlock → wpList P ops Q rest (a.put o.dst v') w') : wpList P ops Q (o :: rest) a w := by
  rcases A with _ | ad
  · obtain rfl : c = 0 := hr.non rfl
    obtain rfl : m = 0 := by have := hr.cap; omega
    obtain rfl : l = [] := List.eq_nil_of_length_eq_zero hr.len
    exact wpList_append_own_none hgd s x t ho base e i 1 ht hi v n (bvs l0) hs hown hx (h v w (by simpa using hown) (only_refl _ _))
  · have hc : ∀ j u, (bvs l)[j]? = some u → w.cell? (ad.add j) = some u := by
      intro j u hu
      rcases Nat.eq_zero_or_pos m with h0 | h0
      · subst h0
        obtain rfl : l = [] := List.eq_nil_of_length_eq_zero hr.len
        simp [bvs] at hu
      · obtain ⟨ad', e', hc⟩ := hr.src h0
        injection e' with e'
        subst e'
        exact hc j u hu
    refine wpList_append_own w hgd s x t ho base e i (.int .u8 0) 1 1 ht hi hz hsize hby rfl (by omega) v n (bvs l0) hs hown ad m c (bvs l) hx (by rw [bvs_len, hr.len, Nat.mul_one]) hc (bvs_one l) (by unfold maxLen; omega) (by omega) hbase fun v' w' h2 h3 _ => h v' w' (by rw [bvs_app]; exact h2) h3
/-- A row of the call's own has a slice's shape. -/
theorem own_form {w : World} {base : Nat} {e : TypeId} {v : Value} {n : Nat} {xs : List Value} (h : w.ownsRow base e 1 v n xs) : ∃ A c, v = .slice A n c := by
  rcases h.2 with ⟨rfl, rfl⟩ | ⟨g, cap, cur, rfl, _⟩
  · exact ⟨none, 0, rfl⟩
  · exact ⟨_, cap, rfl⟩
/-- AN ARGUMENT: a slice of bytes that came in. -/
theorem sl_arg {W : World} {x : Addr} {len cap : Nat} {zs : List Int} (hl : len ≤ cap) (hm : cap ≤ maxLen) (hz : zs.length = cap)
    (hcell : ∀ i, i < zs.length → W.cell? (x.add i) = some (.int .u8 (zs.getD i 0))) (hwz : ∀ n ∈ zs, (Lit.int .u8 n).wf = true) : ∃ l, SlB W W.heap.size (some x) len cap l := by
  refine ⟨(zs.take len).map fun z => UInt8.ofNat z.toNat, by simp; omega, hl, hm, fun e => (by cases e), fun h0 => ?_⟩
  obtain ⟨b, o, s⟩ := x
  have hc := hcell 0 (by omega)
  have hs : s = none := by simpa [Addr.add] using World.cell?_spot hc
  subst hs
  refine ⟨b, o, rfl, World.block_lt_of_cell? W _ hc, fun j hj => ?_⟩
  simp only [List.length_map, List.length_take] at hj
  have hcj := hcell j (by omega)
  rw [addr_add] at hcj
  rw [hcj]
  have hjl : j < zs.length := by omega
  have hb := bounds_u8 (hwz zs[j] (List.getElem_mem hjl))
  simp only [bv, List.getElem_map, List.getElem_take, List.getD_eq_getElem?_getD, List.getElem?_eq_getElem hjl, Option.getD_some, UInt8.toNat_ofNat']
  congr 2
  omega

/-- THE SLICE '.slice A n c' HOLDS THE VALUES vs (elements of one cell), in blocks below B. -/
structure SlV (w : World) (B : Nat) (A : Option Addr) (n c : Nat) (vs : List Value) : Prop where
  len : vs.length = n
  cap : n ≤ c
  max : c ≤ maxLen
  non : A = none → c = 0
  pos : 0 < n → ∃ b o, A = some ⟨b, o, none⟩ ∧ b < B ∧ ∀ j (h : j < vs.length), w.cell? ⟨b, o + j, none⟩ = some vs[j]

section
variable {w w' : World} {B B' n c : Nat} {A : Option Addr} {l : List Value}
theorem SlV.nil_ : SlV w B none 0 0 [] := ⟨rfl, Nat.le_refl _, Nat.zero_le _, fun _ => rfl, fun h => absurd h (by omega)⟩
theorem SlV.keep (h : SlV w B A n c l) (hk : ∀ p : Addr, p.block < B → w'.cell? p = w.cell? p) : SlV w' B A n c l :=
  ⟨h.len, h.cap, h.max, h.non, fun hn => by
    obtain ⟨b, o, e, hb, hc⟩ := h.pos hn
    exact ⟨b, o, e, hb, fun j hj => (hk _ hb).trans (hc j hj)⟩⟩
theorem SlV.more (h : SlV w B A n c l) (hB : B ≤ B') : SlV w B' A n c l :=
  ⟨h.len, h.cap, h.max, h.non, fun hn => by
    obtain ⟨b, o, e, hb, hc⟩ := h.pos hn
    exact ⟨b, o, e, by omega, hc⟩⟩
theorem SlV.below (h : SlV w B A n c l) (hb : Below B w w') : SlV w' B A n c l := h.keep fun _ hp => hb.cell hp
theorem SlV.drew (h : SlV w B A n c l) : SlV w.drew B A n c l := h.keep fun _ _ => rfl
theorem SlV.drewN (h : SlV w B A n c l) (k : Nat) : SlV (w.drewN k) B A n c l := h.keep fun _ _ => rfl
theorem SlV.take (h : SlV w B A n c l) {k : Nat} (hk : k ≤ n) : SlV w B A k c (l.take k) := by
  refine ⟨by have := h.len; simp; omega, by have := h.cap; omega, h.max, h.non, fun h0 => ?_⟩
  obtain ⟨b, o, e, hb, hc⟩ := h.pos (by omega)
  refine ⟨b, o, e, hb, fun j hj => ?_⟩
  rw [List.length_take] at hj
  rw [List.getElem_take]
  exact hc j (by omega)
end

/-- AN ARGUMENT: a slice of uint64 that came in. -/
def u64s (l : List Nat) : List Value := l.map fun z : Nat => .int .u64 (z : Int)
theorem slu_arg {W : World} {x : Addr} {len cap : Nat} {zs : List Int} (hl : len ≤ cap) (hm : cap ≤ maxLen) (hz : zs.length = cap)
    (hcell : ∀ i, i < zs.length → W.cell? (x.add i) = some (.int .u64 (zs.getD i 0))) (hwz : ∀ n ∈ zs, (Lit.int .u64 n).wf = true) : ∃ l : List Nat, SlV W W.heap.size (some x) len cap (u64s l) ∧ ∀ z ∈ l, z < 18446744073709551616 := by
  refine ⟨(zs.take len).map Int.toNat, ⟨by simp [u64s]; omega, hl, hm, fun e => (by cases e), fun h0 => ?_⟩, fun z hz => ?_⟩
  · obtain ⟨b, o, s⟩ := x
    have hc := hcell 0 (by omega)
    have hs : s = none := by simpa [Addr.add] using World.cell?_spot hc
    subst hs
    refine ⟨b, o, rfl, World.block_lt_of_cell? W _ hc, fun j hj => ?_⟩
    simp only [u64s, List.length_map, List.length_take] at hj
    have hcj := hcell j (by omega)
    rw [addr_add] at hcj
    rw [hcj]
    have hjl : j < zs.length := by omega
    have hb := bounds_u64 (hwz zs[j] (List.getElem_mem hjl))
    simp only [u64s, List.getElem_map, List.getElem_take, List.getD_eq_getElem?_getD, List.getElem?_eq_getElem hjl, Option.getD_some]
    congr 2
    omega
  · simp only [List.mem_map] at hz
    obtain ⟨y, hy, rfl⟩ := hz
    have hb := bounds_u64 (hwz y (List.mem_of_mem_take hy))
    omega
end Go.Proofs.YtcofkhmgmemkmaaGreatDoor
namespace Go.Proofs.YtcofkhmgmemkmaaGreatDoor
open Go.RowKit Go.WideShapes Go.ChangeShapes

/-- ONLY BLOCKS OF S MAY HAVE TURNED, of those that were there. -/
structure Mv (S : Nat → Prop) (w w' : World) : Prop where
  os : w'.os = w.os
  tape : w'.tape = w.tape
  output : w'.output = w.output
  size : w.heap.size ≤ w'.heap.size
  block : ∀ k, k < w.heap.size → ¬ S k → w'.heap[k]? = w.heap[k]?

section
variable {S S' : Nat → Prop} {a w w' w'' : World}
theorem Mv.refl (S : Nat → Prop) (w : World) : Mv S w w := ⟨rfl, rfl, rfl, Nat.le_refl _, fun _ _ _ => rfl⟩
/-- What the second step may turn is of S, or new. -/
theorem Mv.then (h : Mv S w w') (k : Mv S' w' w'') (hs : ∀ b, S' b → S b ∨ w.heap.size ≤ b) : Mv S w w'' :=
  ⟨k.os.trans h.os, k.tape.trans h.tape, k.output.trans h.output, Nat.le_trans h.size k.size, fun i hi hn =>
    (k.block i (Nat.lt_of_lt_of_le hi h.size) (fun h' => by rcases hs i h' with x | x; exact hn x; omega)).trans (h.block i hi hn)⟩
theorem Mv.trans (h : Mv S w w') (k : Mv S w' w'') : Mv S w w'' := h.then k fun _ x => .inl x
theorem Mv.mono (h : Mv S w w') (hs : ∀ b, S b → S' b ∨ w.heap.size ≤ b) : Mv S' w w' := (Mv.refl S' w).then h hs
theorem Mv.of_below (h : Below w.heap.size w w') (S : Nat → Prop) : Mv S w w' := ⟨h.os, h.tape, h.output, h.size, fun i hi _ => h.block i hi⟩
theorem Mv.of_grown {r : Option Nat} (h : w.grownBy w' r) (hr : ∀ g, r = some g → S g ∨ w.heap.size ≤ g) : Mv S w w' :=
  ⟨h.os, h.tape, h.output, h.size, fun i hi hn => h.block i hi (fun e => by rcases hr i e.symm with x | x; exact hn x; omega)⟩
theorem Mv.drewN (h : Mv S a w) (n : Nat) : Mv S a (w.drewN n) := ⟨h.os, h.tape, h.output, h.size, h.block⟩
theorem Mv.drew (h : Mv S a w) : Mv S a w.drew := ⟨h.os, h.tape, h.output, h.size, h.block⟩
theorem Mv.alloc (h : Mv S a w) (o : Obj) : Mv S a (w.alloc o) :=
  ⟨h.os, h.tape, h.output, Nat.le_trans h.size (by simp), fun i hi hn => (Below.heap_alloc w o i (Nat.lt_of_lt_of_le hi h.size)).trans (h.block i hi hn)⟩
theorem Mv.set_ (h : Mv S a w) {p : Addr} (hp : S p.block ∨ a.heap.size ≤ p.block) (u : Value) : Mv S a (w.setCell p u) :=
  ⟨h.os, h.tape, h.output, by simpa [World.setCell] using h.size, fun i hi hn => (Below.heap_setCell w p u i (by
    rintro rfl
    rcases hp with hp | hp
    · exact hn hp
    · omega)).trans (h.block i hi hn)⟩
theorem setCells_os (b : Nat) : ∀ (vs : List Value) (o : Nat) (w : World), (w.setCells b o vs).os = w.os ∧ (w.setCells b o vs).tape = w.tape ∧ (w.setCells b o vs).output = w.output ∧ (w.setCells b o vs).heap.size = w.heap.size ∧ ∀ k, k ≠ b → (w.setCells b o vs).heap[k]? = w.heap[k]?
  | [], _, _ => ⟨rfl, rfl, rfl, rfl, fun _ _ => rfl⟩
  | v :: r, o, w => by
    obtain ⟨h1, h2, h3, h4, h5⟩ := setCells_os b r (o + 1) (w.setCell ⟨b, o, none⟩ v)
    refine ⟨h1, h2, h3, ?_, fun k hk => ?_⟩
    · exact h4.trans (by simp [World.setCell])
    · exact (h5 k hk).trans (Below.heap_setCell w _ v k hk)
theorem Mv.setCells (h : Mv S a w) {b : Nat} (hp : S b ∨ a.heap.size ≤ b) (o : Nat) (vs : List Value) : Mv S a (w.setCells b o vs) := by
  obtain ⟨h1, h2, h3, h4, h5⟩ := setCells_os b vs o w
  refine ⟨h1.trans h.os, h2.trans h.tape, h3.trans h.output, by rw [h4]; exact h.size, fun i hi hn => (h5 i ?_).trans (h.block i hi hn)⟩
  rintro rfl
  rcases hp with hp | hp
  · exact hn hp
  · omega
theorem Mv.below (h : Mv S w w') {B : Nat} (hs : ∀ b, S b → B ≤ b) (hB : B ≤ w.heap.size) : Below B w w' :=
  ⟨h.os, h.tape, h.output, h.size, fun i hi => h.block i (by omega) (fun x => by have := hs i x; omega)⟩
theorem Mv.cell (h : Mv S w w') {p : Addr} {v : Value} (hc : w.cell? p = some v) (hn : ¬ S p.block) : w'.cell? p = some v :=
  (World.cell?_of_block (h.block p.block (World.block_lt_of_cell? w p hc) hn)).trans hc
end

/-- A slice of one-cell elements is as it was, if no block of it may have turned. -/
structure Off (S : Nat → Prop) (A : Option Addr) : Prop where
  off : ∀ x, A = some x → ¬ S x.block

section
variable {w w' : World} {b n : Nat} {t : TypeId} {f g : Nat → Value}
theorem rowIs_setCells (b : Nat) (t : TypeId) (n : Nat) : ∀ (vs : List Value) (o : Nat) (w : World) (f : Nat → Value), w.rowIs b t n f → (w.setCells b o vs).rowIs b t n (fun j => if o ≤ j ∧ j < o + vs.length then vs.getD (j - o) undef else f j)
  | [], o, w, f, h => h.congr fun j _ => by rw [if_neg (by simp only [List.length_nil]; omega)]
  | v :: r, o, w, f, h => by
    have := rowIs_setCells b t n r (o + 1) (w.setCell ⟨b, o, none⟩ v) _ (h.set o v)
    refine this.congr fun j _ => ?_
    simp only [List.length_cons]
    by_cases hj : j = o
    · subst hj
      rw [if_neg (by omega), if_pos rfl, if_pos (by omega), Nat.sub_self]
      rfl
    · rw [if_neg hj]
      by_cases h1 : o + 1 ≤ j ∧ j < o + 1 + r.length
      · rw [if_pos h1, if_pos (by omega), show j - o = (j - (o + 1)) + 1 by omega]
        rfl
      · rw [if_neg h1, if_neg (by omega)]
theorem rowIs_range (h : w.rowIs b t n f) (o : Nat) (cs : List Value) (hf : ∀ j v, cs[j]? = some v → o + j < n ∧ f (o + j) = v) : w.rangeAt b o cs := fun j v hv => by
  obtain ⟨h1, h2⟩ := hf j v hv
  rw [h.cell h1, h2]
theorem rowIs_there (h : w.rowIs b t n f) (o m : Nat) (hm : o + m ≤ n) : w.there b o m := fun j hj => ⟨by rw [h.cell (by omega)]; rfl, h.frozen _⟩
theorem rowIs_drewN (h : w.rowIs b t n f) (k : Nat) : (w.drewN k).rowIs b t n f := h
end

theorem rangeAt_keep {w w' : World} {b o : Nat} {cs : List Value} (h : w.rangeAt b o cs) (hk : w'.heap[b]? = w.heap[b]?) : w'.rangeAt b o cs := fun j v hv => (World.cell?_of_block (a := ⟨b, o + j, none⟩) hk).trans (h j v hv)
theorem rangeAt_app {w : World} {b o : Nat} {xs ys : List Value} : w.rangeAt b o (xs ++ ys) ↔ w.rangeAt b o xs ∧ w.rangeAt b (o + xs.length) ys := by
  constructor
  · intro h
    refine ⟨fun j v hv => h j v (by rw [List.getElem?_append_left (List.getElem?_eq_some_iff.1 hv).1]; exact hv), fun j v hv => ?_⟩
    have := h (xs.length + j) v (by rw [List.getElem?_append_right (by omega)]; simpa using hv)
    rw [← this]; congr 2; omega
  · intro ⟨h1, h2⟩ j v hv
    by_cases hj : j < xs.length
    · rw [List.getElem?_append_left hj] at hv; exact h1 j v hv
    · rw [List.getElem?_append_right (by omega)] at hv
      have := h2 _ v hv
      rw [← this]; congr 2; omega

/-- Blocks of 64 bytes, one behind the other, as cells. -/
def fl (l : List (List UInt8)) : List Value := l.flatMap bvs
theorem fl_len {l : List (List UInt8)} (h : ∀ x ∈ l, x.length = 64) : (fl l).length = l.length * 64 := by
  induction l with
  | nil => rfl
  | cons x r ih =>
    have h1 := h x (by simp)
    have h2 := ih fun y hy => h y (by simp [hy])
    simp only [fl, List.flatMap_cons, List.length_append, bvs_len, h1, List.length_cons] at h2 ⊢
    omega
theorem fl_app (a b : List (List UInt8)) : fl (a ++ b) = fl a ++ fl b := by simp [fl]
theorem fl_one (a : List UInt8) : fl [a] = bvs a := by simp [fl]
theorem fl_cons (a : List UInt8) (r : List (List UInt8)) : fl (a :: r) = bvs a ++ fl r := by simp [fl]
theorem fl_oneCell (l : List (List UInt8)) : ∀ v ∈ fl l, v.oneCell' = true := by
  intro v hv
  simp only [fl, List.mem_flatMap] at hv
  obtain ⟨x, _, hx⟩ := hv
  exact bvs_one x v hx

/-- A region that draws: its first n operations are still, the rest in one forced order; the world behind the draw by its name. -/
theorem wp_region_tail {P : Program} {id : Nat} {Q : Exit → Act → World → Prop} {a : Act} {w : World} {l : List Oper} (n : Nat) (hm : P.follows .mixedOrders = true) (hB : Region.lexTailB .any l.toArray n = true)
    (h : wpStill P l.toArray w.drew (fun a' => wpList P l.toArray Q (l.drop n) a' w.drew) (l.take n) a) : (Code.region id l.toArray true).wp P Q a w := wp_region_still_tail n hm hB h
/-- A new variable of a type whose zero value is known under a name. -/
theorem wpList_alloc_as {P : Program} {w : World} {ops : Array Oper} {rest : List Oper} {o : Oper} {a : Act} {Q : Exit → Act → World → Prop} (hgd : o.guard = none) (e : TypeId) (ho : o.op = .alloc e)
    (zs : Array Value) (hz : ∀ w : World, (zeroValue e).run P w = .ok (.agg zs) w)
    (h : wpList P ops Q rest (a.put o.dst (.pointer (some ⟨w.heap.size, 0, none⟩))) (w.alloc (.cells zs e))) : wpList P ops Q (o :: rest) a w := by
  refine wpList_plain hgd fun _ hK => ?_
  unfold Oper.wp execOp
  simp only [ho, Instr.alloc, Sem.run_bind, hz, Result.andThen_ok, newVar, newRow, newObj, Sem.run_pure, Value.cells]
  exact hK _ _ h
/-- A result variable that lies in memory, its cells known. -/
theorem results_cell_mid {P : Program} {fn : Func} {p : Tmp} {ty : TypeId} (h : fn.results = #[.cell p ty]) (tmps : Array Value) (w : World) (b o : Nat) (cs : List Value) (d : TypeDesc)
    (hp : tmps.getD p undef = .pointer (some ⟨b, o, none⟩)) (hc : w.rangeAt b o cs)
    (hu : P.underlying ty = some d) (hd : d.isRow = true) (hi : (P.info? ty).map (·.size) = some cs.length) :
    (results fn tmps).run P w = .ok (.agg cs.toArray) w := by
  have hp' : tmps[p]?.getD undef = .pointer (some ⟨b, o, none⟩) := by simpa using hp
  simp [results, h, hp', asAddr, run_loadVar_mid w b o ty cs d hc hu hd hi]
end Go.Proofs.YtcofkhmgmemkmaaGreatDoor
namespace Go.Proofs.YtcofkhmgmemkmaaGreatDoor
section
variable {P : Program} {ops : Array Oper} {Q : Exit → Act → World → Prop} {md : Region.Mode} {S : World → Prop} {m : Nat}

def wpBar (P : Program) (md : Region.Mode) (ops : Array Oper) (Q : Exit → Act → World → Prop) (S : World → Prop) (m : Nat) : Nat → Array Bool → Act → World → Prop
  | 0, listed, a, w => Region.ready md ops listed = [] ∧ Q .normal a w
  | fuel + 1, listed, a, w =>
    (Region.ready md ops listed = [] → Q .normal a w) ∧
    ∀ i ∈ Region.ready md ops listed, wpOp P ops Q i (fun a' w' => (i < m → S w') ∧ wpBar P md ops Q S m fuel (listed.setIfInBounds i true) a' w') a w
theorem wpAny_of_bar : ∀ (fuel : Nat) (listed : Array Bool) (a : Act) (w : World), wpBar P md ops Q S m fuel listed a w → wpAny P md ops Q fuel listed a w
  | 0, _, _, _, h => h
  | fuel + 1, _, _, _, h => ⟨h.1, fun i hi => wpOp_mono (fun a' w' h' => wpAny_of_bar fuel _ a' w' h'.2) (h.2 i hi)⟩

/-- Number i, which every operation from m on waits for, may be taken first. -/
theorem wpBar_first {i : Nat} {oi : Oper} {v : Value} (hi : ops[i]? = some oi) (hsel : ∀ (j : Nat) (o : Oper) cs b, ops[j]? = some o → o.op ≠ .select cs b)
    (hQ : ∀ c a w, Q (.panic c) (a.put oi.dst v) w → Q (.panic c) a w) (hbar : ∀ j oj, m ≤ j → ops[j]? = some oj → ∃ e ∈ oj.after, Region.binds md e = true ∧ e.on = i) (him : i < m) :
    ∀ (fuel : Nat) (listed : Array Bool) (a : Act) (w : World),
      (∀ j oj, ops[j]? = some oj → j ≠ i → listed.getD j true = false → (∀ e ∈ oj.after, Region.binds md e = true → e.on ≠ i) → oi.apart ops oj = true) →
      i ∈ Region.ready md ops listed → YieldsIf P ops S oi v a → S w →
      wpBar P md ops Q S m fuel (listed.setIfInBounds i true) (a.put oi.dst v) w → wpBar P md ops Q S m (fuel + 1) listed a w := by
  intro fuel
  induction fuel with
  | zero =>
    intro listed a w _ hr hy hS H
    refine ⟨fun h => (by rw [h] at hr; cases hr), fun j hj => ?_⟩
    by_cases hji : j = i
    · subst hji; exact hy.wpOp hi hS ⟨fun _ => hS, H⟩
    · have := ready_mono hj hji
      rw [H.1] at this
      cases this
  | succ fuel ih =>
    intro listed a w hfree hr hy hS H
    refine ⟨fun h => (by rw [h] at hr; cases hr), fun j hj => ?_⟩
    by_cases hji : j = i
    · subst hji; exact hy.wpOp hi hS ⟨fun _ => hS, H⟩
    · have h1 := H.2 j (ready_mono hj hji)
      obtain ⟨hjun, oj, hoj, hall⟩ := mem_ready.1 hj
      have hnot : ∀ e ∈ oj.after, Region.binds md e = true → e.on ≠ i := fun e he hb heq => by
        have h1 := hall e he hb
        have h0 := (mem_ready.1 hr).1
        rw [heq] at h1
        rcases Nat.lt_or_ge i listed.size with h' | h'
        · simp [h'] at h0 h1; rw [h0] at h1; cases h1
        · simp [Array.getElem?_eq_none h'] at h1
      have hjm : j < m := by
        rcases Nat.lt_or_ge j m with h | h
        · exact h
        · obtain ⟨e, he, hb, hon⟩ := hbar j oj h hoj
          exact absurd hon (hnot e he hb)
      have h2 := wpOp_putIf hoj (hfree j oj hoj hji hjun hnot) (fun cs b => hsel i oi cs b hi) (fun cs b => hsel j oj cs b hoj) hQ hy h1
      refine wpOp_mono (fun a' w' h3 => ⟨h3.2.1, ih (listed.setIfInBounds j true) a' w' (fun k ok hk hki hun hno => ?_) (ready_mono hr (Ne.symm hji)) h3.1 (h3.2.1 hjm) ?_⟩) h2
      · refine hfree k ok hk hki ?_ hno
        by_cases hjk : j = k
        · subst hjk; exact hjun
        · rw [getD_set_ne true hjk] at hun; exact hun
      · rw [Array.setIfInBounds_comm _ _ hji]
        exact h3.2.2

/-- The reads at the head, each of one value in every world that meets S. -/
def wpHead (P : Program) (ops : Array Oper) (S : World → Prop) (K : Act → Prop) : List Oper → Act → Prop
  | [], a => K a
  | o :: r, a => ∃ v, YieldsIf P ops S o v a ∧ wpHead P ops S K r (a.put o.dst v)
/-- The operations in the middle: S anew behind each. -/
def wpMid (P : Program) (Q : Exit → Act → World → Prop) (S : World → Prop) (K : Act → World → Prop) : List Oper → Act → World → Prop
  | [], a, w => K a w
  | o :: r, a, w => o.guard = none ∧ o.wp P a w (fun a' w' => S w' ∧ wpMid P Q S K r a' w') Q

theorem wpHead_nil {K : Act → Prop} {a : Act} : wpHead P ops S K [] a = K a := rfl
theorem wpMid_nil {K : Act → World → Prop} {a : Act} {w : World} : wpMid P Q S K [] a w = K a w := rfl
theorem wpMid_cons {K : Act → World → Prop} {o : Oper} {r : List Oper} {a : Act} {w : World} : wpMid P Q S K (o :: r) a w = (o.guard = none ∧ o.wp P a w (fun a' w' => S w' ∧ wpMid P Q S K r a' w') Q) := rfl
theorem bar_tail : ∀ (l : List Oper) (k : Nat) (listed : Array Bool) (a : Act) (w : World), m ≤ k → (∀ j, l[j]? = ops[k + j]?) →
    Region.seqB md ops l.length k listed = true → wpList P ops Q l a w → wpBar P md ops Q S m l.length listed a w
  | [], _, _, _, _, _, _, hB, h => ⟨by simpa [Region.seqB] using hB, h⟩
  | o :: l, k, listed, a, w, hmk, hl, hB, h => by
    have h0 : ops[k]? = some o := by simpa using (hl 0).symm
    simp only [List.length_cons, Region.seqB, Bool.and_eq_true, decide_eq_true_eq] at hB
    refine ⟨fun h1 => (by rw [hB.1] at h1; cases h1), fun i hi => ?_⟩
    rw [hB.1] at hi
    have hik : i = k := by simpa using hi
    subst hik
    have hw : wpOp P ops Q i (wpList P ops Q l) a w := by unfold wpOp; simp only [h0]; exact h
    exact wpOp_mono (fun a' w' h' => ⟨fun hlt => by omega, bar_tail l (i + 1) _ a' w' (by omega) (fun j => by have := hl (j + 1); simpa [Nat.add_assoc, Nat.add_comm 1 j] using this) hB.2 h'⟩) hw

theorem bar_mid {K : Act → World → Prop} {g : Nat} : ∀ (l : List Oper) (k : Nat) (listed : Array Bool) (a : Act) (w : World), (∀ j, j < l.length → l[j]? = ops[k + j]?) →
    Region.seqB md ops (l.length + g) k listed = true → wpMid P Q S K l a w → (∀ listed a w, Region.seqB md ops g (k + l.length) listed = true → K a w → wpBar P md ops Q S m g listed a w) → wpBar P md ops Q S m (l.length + g) listed a w
  | [], k, listed, a, w, _, hB, h, hK => by
    simp only [List.length_nil, Nat.zero_add, Nat.add_zero] at hB hK ⊢
    exact hK listed a w hB h
  | o :: l, k, listed, a, w, hl, hB, h, hK => by
    have h0 : ops[k]? = some o := by simpa using (hl 0 (by simp)).symm
    rw [show (o :: l).length + g = (l.length + g) + 1 by simp; omega] at hB ⊢
    simp only [Region.seqB, Bool.and_eq_true, decide_eq_true_eq] at hB
    refine ⟨fun h1 => (by rw [hB.1] at h1; cases h1), fun i hi => ?_⟩
    rw [hB.1] at hi
    have hik : i = k := by simpa using hi
    subst hik
    have hw : wpOp P ops Q i (fun a' w' => S w' ∧ wpMid P Q S K l a' w') a w := by
      unfold wpOp
      simp only [h0]
      rw [if_pos (by simp [Region.wanted, h.1])]
      exact .inl h.2
    exact wpOp_mono (fun a' w' h' => ⟨fun _ => h'.1, bar_mid l (i + 1) _ a' w' (fun j hj => by have := hl (j + 1) (by simp; omega); simpa [Nat.add_assoc, Nat.add_comm 1 j] using this) hB.2 h'.2 (fun listed a w hs hk => hK listed a w (by simpa [Nat.add_assoc, Nat.add_comm 1 l.length] using hs) hk)⟩) hw

theorem bar_head {K : Act → Prop} {g : Nat} {w : World} (hsel : Region.noSelect ops = true) (hQ : ∀ c a a' w, Q (.panic c) a w → Q (.panic c) a' w) (hS : S w) :
    ∀ (l : List Oper) (k : Nat) (listed : Array Bool) (a : Act), (∀ j, j < l.length → l[j]? = ops[k + j]?) → Region.lexHead md ops g l.length k listed = true → k + l.length ≤ m →
      (∀ i, k ≤ i → i < k + l.length → ∀ j oj, m ≤ j → ops[j]? = some oj → ∃ e ∈ oj.after, Region.binds md e = true ∧ e.on = i) →
      wpHead P ops S K l a → (∀ listed a, Region.seqB md ops g (k + l.length) listed = true → K a → wpBar P md ops Q S m g listed a w) → wpBar P md ops Q S m (l.length + g) listed a w
  | [], k, listed, a, _, hB, _, _, h, hK => by
    simp only [List.length_nil, Nat.zero_add, Nat.add_zero] at hB hK ⊢
    exact hK listed a hB h
  | o :: l, k, listed, a, hl, hB, hm, hbar, h, hK => by
    have h0 : ops[k]? = some o := by simpa using (hl 0 (by simp)).symm
    simp only [List.length_cons, Region.lexHead, Bool.and_eq_true] at hB
    obtain ⟨⟨hr, hf⟩, hB⟩ := hB
    obtain ⟨v, hy, h⟩ := h
    rw [show (o :: l).length + g = (l.length + g) + 1 by simp; omega]
    simp only [List.length_cons] at hm hbar hK
    refine wpBar_first h0 (Region.noSelect_spec hsel) (fun c a w h => hQ c _ _ w h) (hbar k (Nat.le_refl _) (by omega)) (by omega) _ listed a w (Region.free_spec h0 hf) (by simpa using hr) hy hS ?_
    exact bar_head hsel hQ hS l (k + 1) _ _ (fun j hj => by have := hl (j + 1) (by simp; omega); simpa [Nat.add_assoc, Nat.add_comm 1 j] using this) hB (by omega) (fun i h1 h2 => hbar i (by omega) (by omega)) h
      (fun listed a hs hk => hK listed a (by simpa [Nat.add_assoc, Nat.add_comm 1 l.length] using hs) hk)

def barB (ops : Array Oper) (n m : Nat) : Bool :=
  Region.noSelect ops && decide (n ≤ m) && decide (m ≤ ops.size) && ((List.range n).all fun i => (List.range ops.size).all fun j => decide (j < m) || Region.waitsFor .any ops j i) && Region.lexHead .any ops (ops.size - n) n 0 (Array.replicate ops.size false)

theorem any_bar {a : Act} {w : World} {l : List Oper} (n m : Nat) (S : World → Prop) (hQ : ∀ c a a' w, Q (.panic c) a w → Q (.panic c) a' w) (hB : barB l.toArray n m = true) (hS : S w.drew)
    (h : wpHead P l.toArray S (fun a1 => wpMid P Q S (fun a2 w2 => wpList P l.toArray Q (l.drop m) a2 w2) ((l.take m).drop n) a1 w.drew) (l.take n) a) : wpAny P .any l.toArray Q l.toArray.size (Array.replicate l.toArray.size false) a w.drew := by
  simp only [barB, Bool.and_eq_true, decide_eq_true_eq] at hB
  obtain ⟨⟨⟨⟨hsel, hnm⟩, hms⟩, hbar⟩, hlex⟩ := hB
  have hms' : m ≤ l.length := by simpa using hms
  have htl : (l.take n).length = n := by simp; omega
  have hml : ((l.take m).drop n).length = m - n := by simp; omega
  have hdl : (l.drop m).length = l.length - m := by simp
  refine wpAny_of_bar (S := S) (m := m) _ _ _ _ ?_
  have H := bar_head (P := P) (md := .any) (ops := l.toArray) (Q := Q) (S := S) (m := m) (g := l.length - n) (w := w.drew) hsel hQ hS (l.take n) 0 (Array.replicate l.toArray.size false) a (fun j hj => by rw [htl] at hj; simp [hj]) (by rw [htl]; simpa using hlex) (by omega)
    (fun i _ hi j oj hmj hj => by
      rw [htl] at hi
      have h1 := List.all_eq_true.1 hbar i (List.mem_range.2 (by omega))
      have h2 := List.all_eq_true.1 h1 j (List.mem_range.2 (Array.getElem?_eq_some_iff.1 hj).1)
      simp only [Bool.or_eq_true, decide_eq_true_eq] at h2
      rcases h2 with h2 | h2
      · omega
      · obtain ⟨oj', hoj', e, he, hb, hon⟩ := Region.waitsFor_spec h2
        rw [hj] at hoj'
        injection hoj' with hoj'
        subst hoj'
        exact ⟨e, he, hb, hon⟩) h
    (fun listed a1 hs hk => by
      rw [htl, Nat.zero_add] at hs
      have hsz : l.length - n = ((l.take m).drop n).length + (l.length - m) := by rw [hml]; omega
      rw [hsz] at hs ⊢
      refine bar_mid _ n listed a1 w.drew (fun j hj => by rw [hml] at hj; simp [List.getElem?_drop, List.getElem?_take]; omega) hs hk fun listed a2 w2 hs2 hk2 => ?_
      rw [hml, show n + (m - n) = m by omega, ← hdl] at hs2
      rw [← hdl]
      exact bar_tail (l.drop m) m listed a2 w2 (Nat.le_refl _) (fun j => by simp [List.getElem?_drop]) hs2 hk2)
  rw [htl] at H
  have e : l.toArray.size = n + (l.length - n) := by simp; omega
  rw [e] at H ⊢
  exact H
theorem wp_region_bar {id : Nat} {a : Act} {w : World} {l : List Oper} (n m : Nat) (S : World → Prop) (hm : P.follows .mixedOrders = true) (hB : barB l.toArray n m = true) (hS : S w.drew)
    (h : wpHead P l.toArray S (fun a1 => wpMid P (NoPanic Q) S (fun a2 w2 => wpList P l.toArray (NoPanic Q) (l.drop m) a2 w2) ((l.take m).drop n) a1 w.drew) (l.take n) a) : (Code.region id l.toArray true).wp P Q a w :=
  wp_region_noPanic (wp_region_any hm (any_bar n m S (fun _ _ _ _ h => h) hB hS h))
end
end Go.Proofs.YtcofkhmgmemkmaaGreatDoor
namespace Go.Proofs.YtcofkhmgmemkmaaGreatDoor
section
variable {P : Program} {ops : Array Oper} {Q : Exit → Act → World → Prop} {md : Region.Mode} {S : World → Prop} {m : Nat}

def wpBk (P : Program) (md : Region.Mode) (ops : Array Oper) (Q : Exit → Act → World → Prop) (S : World → Prop) (m : Nat) : Nat → Array Bool → Act → World → Prop
  | 0, listed, a, w => Region.ready md ops listed = [] ∧ Q .normal a w
  | fuel + 1, listed, a, w =>
    (Region.ready md ops listed = [] → Q .normal a w) ∧
    ∀ i ∈ Region.ready md ops listed, wpOp P ops Q i (fun a' w' => (S w → i < m → S w') ∧ wpBk P md ops Q S m fuel (listed.setIfInBounds i true) a' w') a w
theorem wpAny_of_bk : ∀ (fuel : Nat) (listed : Array Bool) (a : Act) (w : World), wpBk P md ops Q S m fuel listed a w → wpAny P md ops Q fuel listed a w
  | 0, _, _, _, h => h
  | fuel + 1, _, _, _, h => ⟨h.1, fun i hi => wpOp_mono (fun a' w' h' => wpAny_of_bk fuel _ a' w' h'.2) (h.2 i hi)⟩

/-- Number i, which every operation from m on waits for, may be taken first. -/
theorem wpBk_first {i : Nat} {oi : Oper} {v : Value} (hi : ops[i]? = some oi) (hsel : ∀ (j : Nat) (o : Oper) cs b, ops[j]? = some o → o.op ≠ .select cs b)
    (hQ : ∀ c a w, Q (.panic c) (a.put oi.dst v) w → Q (.panic c) a w) (hbar : ∀ j oj, m ≤ j → ops[j]? = some oj → ∃ e ∈ oj.after, Region.binds md e = true ∧ e.on = i) (him : i < m) :
    ∀ (fuel : Nat) (listed : Array Bool) (a : Act) (w : World),
      (∀ j oj, ops[j]? = some oj → j ≠ i → listed.getD j true = false → (∀ e ∈ oj.after, Region.binds md e = true → e.on ≠ i) → oi.apart ops oj = true) →
      i ∈ Region.ready md ops listed → YieldsIf P ops S oi v a → S w →
      wpBk P md ops Q S m fuel (listed.setIfInBounds i true) (a.put oi.dst v) w → wpBk P md ops Q S m (fuel + 1) listed a w := by
  intro fuel
  induction fuel with
  | zero =>
    intro listed a w _ hr hy hS H
    refine ⟨fun h => (by rw [h] at hr; cases hr), fun j hj => ?_⟩
    by_cases hji : j = i
    · subst hji; exact hy.wpOp hi hS ⟨fun _ _ => hS, H⟩
    · have := ready_mono hj hji
      rw [H.1] at this
      cases this
  | succ fuel ih =>
    intro listed a w hfree hr hy hS H
    refine ⟨fun h => (by rw [h] at hr; cases hr), fun j hj => ?_⟩
    by_cases hji : j = i
    · subst hji; exact hy.wpOp hi hS ⟨fun _ _ => hS, H⟩
    · have h1 := H.2 j (ready_mono hj hji)
      obtain ⟨hjun, oj, hoj, hall⟩ := mem_ready.1 hj
      have hnot : ∀ e ∈ oj.after, Region.binds md e = true → e.on ≠ i := fun e he hb heq => by
        have h1 := hall e he hb
        have h0 := (mem_ready.1 hr).1
        rw [heq] at h1
        rcases Nat.lt_or_ge i listed.size with h' | h'
        · simp [h'] at h0 h1; rw [h0] at h1; cases h1
        · simp [Array.getElem?_eq_none h'] at h1
      have hjm : j < m := by
        rcases Nat.lt_or_ge j m with h | h
        · exact h
        · obtain ⟨e, he, hb, hon⟩ := hbar j oj h hoj
          exact absurd hon (hnot e he hb)
      have h2 := wpOp_putIf hoj (hfree j oj hoj hji hjun hnot) (fun cs b => hsel i oi cs b hi) (fun cs b => hsel j oj cs b hoj) hQ hy h1
      refine wpOp_mono (fun a' w' h3 => ⟨h3.2.1, ih (listed.setIfInBounds j true) a' w' (fun k ok hk hki hun hno => ?_) (ready_mono hr (Ne.symm hji)) h3.1 (h3.2.1 hS hjm) ?_⟩) h2
      · refine hfree k ok hk hki ?_ hno
        by_cases hjk : j = k
        · subst hjk; exact hjun
        · rw [getD_set_ne true hjk] at hun; exact hun
      · rw [Array.setIfInBounds_comm _ _ hji]
        exact h3.2.2
/-- Number i, which has one value in whatever world, may be taken first. -/
theorem wpBk_pure {i : Nat} {oi : Oper} {v : Value} (hi : ops[i]? = some oi) (hsel : ∀ (j : Nat) (o : Oper) cs b, ops[j]? = some o → o.op ≠ .select cs b)
    (hQ : ∀ c a w, Q (.panic c) (a.put oi.dst v) w → Q (.panic c) a w) :
    ∀ (fuel : Nat) (listed : Array Bool) (a : Act) (w : World),
      (∀ j oj, ops[j]? = some oj → j ≠ i → listed.getD j true = false → (∀ e ∈ oj.after, Region.binds md e = true → e.on ≠ i) → oi.apart ops oj = true) →
      i ∈ Region.ready md ops listed → YieldsIf P ops (fun _ => True) oi v a →
      wpBk P md ops Q S m fuel (listed.setIfInBounds i true) (a.put oi.dst v) w → wpBk P md ops Q S m (fuel + 1) listed a w := by
  intro fuel
  induction fuel with
  | zero =>
    intro listed a w _ hr hy H
    refine ⟨fun h => (by rw [h] at hr; cases hr), fun j hj => ?_⟩
    by_cases hji : j = i
    · subst hji; exact hy.wpOp hi trivial ⟨fun hS _ => hS, H⟩
    · have := ready_mono hj hji
      rw [H.1] at this
      cases this
  | succ fuel ih =>
    intro listed a w hfree hr hy H
    refine ⟨fun h => (by rw [h] at hr; cases hr), fun j hj => ?_⟩
    by_cases hji : j = i
    · subst hji; exact hy.wpOp hi trivial ⟨fun hS _ => hS, H⟩
    · have h1 := H.2 j (ready_mono hj hji)
      obtain ⟨hjun, oj, hoj, hall⟩ := mem_ready.1 hj
      have hnot : ∀ e ∈ oj.after, Region.binds md e = true → e.on ≠ i := fun e he hb heq => by
        have h1 := hall e he hb
        have h0 := (mem_ready.1 hr).1
        rw [heq] at h1
        rcases Nat.lt_or_ge i listed.size with h' | h'
        · simp [h'] at h0 h1; rw [h0] at h1; cases h1
        · simp [Array.getElem?_eq_none h'] at h1
      have h2 := wpOp_putIf hoj (hfree j oj hoj hji hjun hnot) (fun cs b => hsel i oi cs b hi) (fun cs b => hsel j oj cs b hoj) hQ hy h1
      refine wpOp_mono (fun a' w' h3 => ⟨h3.2.1, ih (listed.setIfInBounds j true) a' w' (fun k ok hk hki hun hno => ?_) (ready_mono hr (Ne.symm hji)) h3.1 ?_⟩) h2
      · refine hfree k ok hk hki ?_ hno
        by_cases hjk : j = k
        · subst hjk; exact hjun
        · rw [getD_set_ne true hjk] at hun; exact hun
      · rw [Array.setIfInBounds_comm _ _ hji]
        exact h3.2.2

theorem bk_tail : ∀ (l : List Oper) (k : Nat) (listed : Array Bool) (a : Act) (w : World), m ≤ k → (∀ j, l[j]? = ops[k + j]?) →
    Region.seqB md ops l.length k listed = true → wpList P ops Q l a w → wpBk P md ops Q S m l.length listed a w
  | [], _, _, _, _, _, _, hB, h => ⟨by simpa [Region.seqB] using hB, h⟩
  | o :: l, k, listed, a, w, hmk, hl, hB, h => by
    have h0 : ops[k]? = some o := by simpa using (hl 0).symm
    simp only [List.length_cons, Region.seqB, Bool.and_eq_true, decide_eq_true_eq] at hB
    refine ⟨fun h1 => (by rw [hB.1] at h1; cases h1), fun i hi => ?_⟩
    rw [hB.1] at hi
    have hik : i = k := by simpa using hi
    subst hik
    have hw : wpOp P ops Q i (wpList P ops Q l) a w := by unfold wpOp; simp only [h0]; exact h
    exact wpOp_mono (fun a' w' h' => ⟨fun _ hlt => by omega, bk_tail l (i + 1) _ a' w' (by omega) (fun j => by have := hl (j + 1); simpa [Nat.add_assoc, Nat.add_comm 1 j] using this) hB.2 h'⟩) hw
theorem bk_pures {K : Act → Prop} {g : Nat} {w : World} (hsel : Region.noSelect ops = true) (hQ : ∀ c a a' w, Q (.panic c) a w → Q (.panic c) a' w) :
    ∀ (l : List Oper) (k : Nat) (listed : Array Bool) (a : Act), (∀ j, j < l.length → l[j]? = ops[k + j]?) → Region.lexHead md ops g l.length k listed = true →
      wpHead P ops (fun _ => True) K l a → (∀ listed a, Region.seqB md ops g (k + l.length) listed = true → K a → wpBk P md ops Q S m g listed a w) → wpBk P md ops Q S m (l.length + g) listed a w
  | [], k, listed, a, _, hB, h, hK => by
    simp only [List.length_nil, Nat.zero_add, Nat.add_zero] at hB hK ⊢
    exact hK listed a hB h
  | o :: l, k, listed, a, hl, hB, h, hK => by
    have h0 : ops[k]? = some o := by simpa using (hl 0 (by simp)).symm
    simp only [List.length_cons, Region.lexHead, Bool.and_eq_true] at hB
    obtain ⟨⟨hr, hf⟩, hB⟩ := hB
    obtain ⟨v, hy, h⟩ := h
    rw [show (o :: l).length + g = (l.length + g) + 1 by simp; omega]
    simp only [List.length_cons] at hK
    refine wpBk_pure h0 (Region.noSelect_spec hsel) (fun c a w h => hQ c _ _ w h) _ listed a w (Region.free_spec h0 hf) (by simpa using hr) hy ?_
    exact bk_pures hsel hQ l (k + 1) _ _ (fun j hj => by have := hl (j + 1) (by simp; omega); simpa [Nat.add_assoc, Nat.add_comm 1 j] using this) hB h
      (fun listed a hs hk => hK listed a (by simpa [Nat.add_assoc, Nat.add_comm 1 l.length] using hs) hk)
def midB (md : Region.Mode) (ops : Array Oper) (g p : Nat) : Nat → Nat → Array Bool → Bool
  | 0, k, listed => Region.lexHead md ops g p k listed
  | f + 1, k, listed => decide (Region.ready md ops listed = [k]) && midB md ops g p f (k + 1) (listed.setIfInBounds k true)
def headB (md : Region.Mode) (ops : Array Oper) (g p f2 : Nat) : Nat → Nat → Array Bool → Bool
  | 0, k, listed => midB md ops g p f2 k listed
  | f + 1, k, listed => (Region.ready md ops listed).contains k && Region.free md ops listed k && headB md ops g p f2 f (k + 1) (listed.setIfInBounds k true)
theorem bk_mid {K : Act → World → Prop} {g p : Nat} : ∀ (l : List Oper) (k : Nat) (listed : Array Bool) (a : Act) (w : World), (∀ j, j < l.length → l[j]? = ops[k + j]?) →
    midB md ops g p l.length k listed = true → wpMid P Q S K l a w → (∀ listed a w, Region.lexHead md ops g p (k + l.length) listed = true → K a w → wpBk P md ops Q S m (p + g) listed a w) → wpBk P md ops Q S m (l.length + (p + g)) listed a w
  | [], k, listed, a, w, _, hB, h, hK => by
    simp only [List.length_nil, Nat.zero_add, Nat.add_zero, midB] at hB hK ⊢
    exact hK listed a w hB h
  | o :: l, k, listed, a, w, hl, hB, h, hK => by
    have h0 : ops[k]? = some o := by simpa using (hl 0 (by simp)).symm
    rw [show (o :: l).length + (p + g) = (l.length + (p + g)) + 1 by simp; omega]
    simp only [List.length_cons, midB, Bool.and_eq_true, decide_eq_true_eq] at hB
    refine ⟨fun h1 => (by rw [hB.1] at h1; cases h1), fun i hi => ?_⟩
    rw [hB.1] at hi
    have hik : i = k := by simpa using hi
    subst hik
    have hw : wpOp P ops Q i (fun a' w' => S w' ∧ wpMid P Q S K l a' w') a w := by
      unfold wpOp
      simp only [h0]
      rw [if_pos (by simp [Region.wanted, h.1])]
      exact .inl h.2
    exact wpOp_mono (fun a' w' h' => ⟨fun _ _ => h'.1, bk_mid l (i + 1) _ a' w' (fun j hj => by have := hl (j + 1) (by simp; omega); simpa [Nat.add_assoc, Nat.add_comm 1 j] using this) hB.2 h'.2 (fun listed a w hs hk => hK listed a w (by simpa [Nat.add_assoc, Nat.add_comm 1 l.length] using hs) hk)⟩) hw
theorem bk_head {K : Act → Prop} {g p f2 : Nat} {w : World} (hsel : Region.noSelect ops = true) (hQ : ∀ c a a' w, Q (.panic c) a w → Q (.panic c) a' w) (hS : S w) :
    ∀ (l : List Oper) (k : Nat) (listed : Array Bool) (a : Act), (∀ j, j < l.length → l[j]? = ops[k + j]?) → headB md ops g p f2 l.length k listed = true → k + l.length ≤ m →
      (∀ i, k ≤ i → i < k + l.length → ∀ j oj, m ≤ j → ops[j]? = some oj → ∃ e ∈ oj.after, Region.binds md e = true ∧ e.on = i) →
      wpHead P ops S K l a → (∀ listed a, midB md ops g p f2 (k + l.length) listed = true → K a → wpBk P md ops Q S m (f2 + (p + g)) listed a w) → wpBk P md ops Q S m (l.length + (f2 + (p + g))) listed a w
  | [], k, listed, a, _, hB, _, _, h, hK => by
    simp only [List.length_nil, Nat.zero_add, Nat.add_zero, headB] at hB hK ⊢
    exact hK listed a hB h
  | o :: l, k, listed, a, hl, hB, hm, hbar, h, hK => by
    have h0 : ops[k]? = some o := by simpa using (hl 0 (by simp)).symm
    simp only [List.length_cons, headB, Bool.and_eq_true] at hB
    obtain ⟨⟨hr, hf⟩, hB⟩ := hB
    obtain ⟨v, hy, h⟩ := h
    rw [show (o :: l).length + (f2 + (p + g)) = (l.length + (f2 + (p + g))) + 1 by simp; omega]
    simp only [List.length_cons] at hm hbar hK
    refine wpBk_first h0 (Region.noSelect_spec hsel) (fun c a w h => hQ c _ _ w h) (hbar k (Nat.le_refl _) (by omega)) (by omega) _ listed a w (Region.free_spec h0 hf) (by simpa using hr) hy hS ?_
    exact bk_head hsel hQ hS l (k + 1) _ _ (fun j hj => by have := hl (j + 1) (by simp; omega); simpa [Nat.add_assoc, Nat.add_comm 1 j] using this) hB (by omega) (fun i h1 h2 => hbar i (by omega) (by omega)) h
      (fun listed a hs hk => hK listed a (by simpa [Nat.add_assoc, Nat.add_comm 1 l.length] using hs) hk)

def bkB (ops : Array Oper) (n k p : Nat) : Bool :=
  Region.noSelect ops && decide (n ≤ k) && decide (k ≤ p) && decide (p ≤ ops.size) && ((List.range n).all fun i => (List.range ops.size).all fun j => decide (j < p) || Region.waitsFor .any ops j i) && headB .any ops (ops.size - p) (p - k) (k - n) n 0 (Array.replicate ops.size false)

theorem wp_region_bk {id : Nat} {a : Act} {w : World} {l : List Oper} (n k p : Nat) (S : World → Prop) (hm : P.follows .mixedOrders = true) (hB : bkB l.toArray n k p = true) (hS : S w.drew)
    (h : wpHead P l.toArray S (fun a1 => wpMid P (NoPanic Q) S (fun a2 w2 => wpHead P l.toArray (fun _ => True) (fun a3 => wpList P l.toArray (NoPanic Q) (l.drop p) a3 w2) ((l.take p).drop k) a2) ((l.take k).drop n) a1 w.drew) (l.take n) a) : (Code.region id l.toArray true).wp P Q a w := by
  simp only [bkB, Bool.and_eq_true, decide_eq_true_eq] at hB
  obtain ⟨⟨⟨⟨⟨hsel, hnk⟩, hkp⟩, hps⟩, hbar⟩, hlex⟩ := hB
  have hps' : p ≤ l.length := by simpa using hps
  have htl : (l.take n).length = n := by simp; omega
  have hml : ((l.take k).drop n).length = k - n := by simp; omega
  have hpl : ((l.take p).drop k).length = p - k := by simp; omega
  have hdl : (l.drop p).length = l.length - p := by simp
  refine wp_region_noPanic (wp_region_any hm (wpAny_of_bk (S := S) (m := p) _ _ _ _ ?_))
  have H := bk_head (P := P) (md := .any) (ops := l.toArray) (Q := NoPanic Q) (S := S) (m := p) (g := l.length - p) (p := p - k) (f2 := k - n) (w := w.drew) hsel (fun _ _ _ _ h => h) hS (l.take n) 0 (Array.replicate l.toArray.size false) a (fun j hj => by rw [htl] at hj; simp [hj]) (by rw [htl]; simpa using hlex) (by omega)
    (fun i _ hi j oj hmj hj => by
      rw [htl] at hi
      have h1 := List.all_eq_true.1 hbar i (List.mem_range.2 (by omega))
      have h2 := List.all_eq_true.1 h1 j (List.mem_range.2 (Array.getElem?_eq_some_iff.1 hj).1)
      simp only [Bool.or_eq_true, decide_eq_true_eq] at h2
      rcases h2 with h2 | h2
      · omega
      · obtain ⟨oj', hoj', e, he, hb, hon⟩ := Region.waitsFor_spec h2
        rw [hj] at hoj'
        injection hoj' with hoj'
        subst hoj'
        exact ⟨e, he, hb, hon⟩) h
    (fun listed a1 hs hk => by
      rw [htl, Nat.zero_add] at hs
      rw [← hml] at hs ⊢
      refine bk_mid _ n listed a1 w.drew (fun j hj => by rw [hml] at hj; simp [List.getElem?_drop, List.getElem?_take]; omega) hs hk fun listed a2 w2 hs2 hk2 => ?_
      rw [hml, show n + (k - n) = k by omega, ← hpl] at hs2
      rw [← hpl]
      refine bk_pures hsel (fun _ _ _ _ h => h) _ k listed a2 (fun j hj => by rw [hpl] at hj; simp [List.getElem?_drop, List.getElem?_take]; omega) hs2 hk2 fun listed a3 hs3 hk3 => ?_
      rw [hpl, show k + (p - k) = p by omega, ← hdl] at hs3
      rw [← hdl]
      exact bk_tail (l.drop p) p listed a3 w2 (Nat.le_refl _) (fun j => by simp [List.getElem?_drop]) hs3 hk3)
  rw [htl] at H
  have e : l.toArray.size = n + ((k - n) + ((p - k) + (l.length - p))) := by simp; omega
  rw [e] at H ⊢
  exact H
end
end Go.Proofs.YtcofkhmgmemkmaaGreatDoor
namespace Go.Proofs.YtcofkhmgmemkmaaGreatDoor
set_option linter.unusedVariables false
set_option linter.unusedSimpArgs false
open Go.RowKit Go.WideShapes Go.ChangeShapes Go.Deep

/-- A block known whole, all storable. -/
structure Lies (W : World) (b k : Nat) (l : List Value) : Prop where
  rg : W.rangeAt b 0 l
  th : W.there b 0 k
  lt : b < W.heap.size
  len : l.length = k
section
variable {W W' : World} {b k : Nat} {l : List Value}
theorem there_keep {w w' : World} {b o n : Nat} (h : w.there b o n) (hk : w'.heap[b]? = w.heap[b]?) : w'.there b o n := fun j hj => by
  obtain ⟨h1, h2⟩ := h j hj
  refine ⟨by rw [World.cell?_of_block (a := ⟨b, o + j, none⟩) hk]; exact h1, ?_⟩
  rw [← h2]
  simp only [World.frozen?, hk]
theorem Lies.kp (h : Lies W b k l) (hk : W'.heap[b]? = W.heap[b]?) (hz : W.heap.size ≤ W'.heap.size) : Lies W' b k l :=
  ⟨rangeAt_keep h.rg hk, there_keep h.th hk, Nat.lt_of_lt_of_le h.lt hz, h.len⟩
theorem Lies.below (h : Lies W b k l) {B : Nat} (hb : Below B W W') (hB : b < B) : Lies W' b k l := h.kp (hb.block b hB) hb.size
theorem Lies.alloc (h : Lies W b k l) (o : Obj) : Lies (W.alloc o) b k l := h.below ((Below.refl W.heap.size W).alloc (Nat.le_refl _) o) h.lt
theorem Lies.new (w : World) (cs : List Value) (t : TypeId) : Lies (w.alloc (.cells cs.toArray t)) w.heap.size cs.length cs := by
  have hb := Bl.new w t cs
  refine ⟨fun j v hv => by rw [Nat.zero_add, hb.cell j]; exact hv, fun j hj => ⟨?_, hb.frozen _⟩, hb.lt, rfl⟩
  rw [Nat.zero_add, hb.cell j, List.getElem?_eq_getElem hj]
  rfl
theorem Lies.cell (h : Lies W b k l) {j : Nat} {v : Value} (hv : l[j]? = some v) : W.cell? ⟨b, j, none⟩ = some v := by
  have := h.rg j v hv
  rwa [Nat.zero_add] at this
theorem Lies.frozen (h : Lies W b k l) {j : Nat} (hj : j < k) : W.frozen? ⟨b, j, none⟩ = false := by
  have := (h.th j hj).2
  rwa [Nat.zero_add] at this
end

/-- A row of a map; a change. -/
structure Rw where
  p : ByteArray
  t : ByteArray
structure Ch where
  p : ByteArray
  is : Bool
  t : ByteArray
def Rw.cells (r : Rw) : List Value := [.string r.p, .string r.t]
def Ch.cells (r : Ch) : List Value := [.string r.p, .bool r.is, .string r.t]
abbrev rwV (r : Rw) : Value := .agg #[.string r.p, .string r.t]
abbrev chV (r : Ch) : Value := .agg #[.string r.p, .bool r.is, .string r.t]

/-- A slice that reads as l, each of k cells, in blocks below B. -/
structure Sq {α : Type} (f : α → List Value) (k : Nat) (w : World) (B : Nat) (A : Option Addr) (n c : Nat) (l : List α) : Prop where
  len : l.length = n
  cap : n ≤ c
  max : c ≤ maxLen
  non : A = none → c = 0
  sz : ∀ x, (f x).length = k
  pos : 0 < n → ∃ b o, A = some ⟨b, o, none⟩ ∧ b < B ∧ w.rangeAt b o (l.flatMap f)
section
variable {α : Type} {f : α → List Value} {k : Nat} {w w' : World} {B B' n c : Nat} {A : Option Addr} {l : List α}
theorem Sq.nil_ (hs : ∀ x, (f x).length = k) : Sq f k w B none 0 0 [] := ⟨rfl, Nat.le_refl _, Nat.zero_le _, fun _ => rfl, hs, fun h => absurd h (by omega)⟩
theorem Sq.below (h : Sq f k w B A n c l) (hb : Below B w w') : Sq f k w' B A n c l :=
  ⟨h.len, h.cap, h.max, h.non, h.sz, fun hn => by
    obtain ⟨b, o, e, hlt, hc⟩ := h.pos hn
    exact ⟨b, o, e, hlt, rangeAt_keep hc (hb.block b hlt)⟩⟩
theorem Sq.more (h : Sq f k w B A n c l) (hB : B ≤ B') : Sq f k w B' A n c l :=
  ⟨h.len, h.cap, h.max, h.non, h.sz, fun hn => by
    obtain ⟨b, o, e, hlt, hc⟩ := h.pos hn
    exact ⟨b, o, e, by omega, hc⟩⟩
theorem Sq.drew (h : Sq f k w B A n c l) : Sq f k w.drew B A n c l := ⟨h.len, h.cap, h.max, h.non, h.sz, h.pos⟩
theorem flat_len (hs : ∀ x, (f x).length = k) : ∀ l : List α, (l.flatMap f).length = l.length * k
  | [] => by simp
  | x :: r => by rw [List.flatMap_cons, List.length_append, hs, flat_len hs r, List.length_cons]; rw [Nat.add_mul, Nat.one_mul, Nat.add_comm]
theorem flat_part (hs : ∀ x, (f x).length = k) {b : Nat} : ∀ {l : List α} {o : Nat}, w.rangeAt b o (l.flatMap f) → ∀ (i : Nat) (hi : i < l.length), w.rangeAt b (o + i * k) (f l[i])
  | [], _, _, i, hi => by simp at hi
  | x :: r, o, h, i, hi => by
    rw [List.flatMap_cons, rangeAt_app, hs] at h
    rcases i with _ | i
    · simpa using h.1
    · have := flat_part hs (o := o + k) h.2 i (by simpa using hi)
      rw [show o + k + i * k = o + (i + 1) * k by rw [Nat.add_mul, Nat.one_mul]; omega] at this
      exact this
/-- What lies at place i. -/
theorem Sq.at_ (h : Sq f k w B A n c l) {i : Nat} (hi : i < n) : ∃ b o, A = some ⟨b, o, none⟩ ∧ b < B ∧ w.rangeAt b (o + i * k) (f (l[i]'(by rw [h.len]; exact hi))) := by
  obtain ⟨b, o, e, hlt, hc⟩ := h.pos (by omega)
  exact ⟨b, o, e, hlt, flat_part h.sz hc i _⟩
theorem Sq.le (h : Sq f k w B A n c l) : n ≤ maxLen := Nat.le_trans h.cap h.max
theorem Sq.tail_ (h : Sq f k w B A n c l) : Sq f k w B A n c l := h
end
theorem rw_sz (r : Rw) : r.cells.length = 2 := rfl
theorem ch_sz (r : Ch) : r.cells.length = 3 := rfl
abbrev SqR := Sq Rw.cells 2
abbrev SqC := Sq Ch.cells 3
theorem rw_one (l : List Rw) : ∀ v ∈ l.flatMap Rw.cells, v.oneCell' = true := by
  intro v hv
  simp only [List.mem_flatMap, Rw.cells, List.mem_cons, List.not_mem_nil, or_false] at hv
  obtain ⟨r, _, rfl | rfl⟩ := hv <;> rfl
theorem ch_one (l : List Ch) : ∀ v ∈ l.flatMap Ch.cells, v.oneCell' = true := by
  intro v hv
  simp only [List.mem_flatMap, Ch.cells, List.mem_cons, List.not_mem_nil, or_false] at hv
  obtain ⟨r, _, rfl | rfl | rfl⟩ := hv <;> rfl

/-- A map, an edit; tables. -/
abbrev tbR (A : Option Addr) (n c : Nat) : Value := .agg #[.slice A n c, .func (.func 67) #[] #[]]
abbrev tbC (A : Option Addr) (n c : Nat) : Value := .agg #[.slice A n c, .func (.func 102) #[] #[]]
abbrev tbLR (A : Option Addr) (n c : Nat) : List Value := [.slice A n c, .func (.func 67) #[] #[]]
abbrev tbLC (A : Option Addr) (n c : Nat) : List Value := [.slice A n c, .func (.func 102) #[] #[]]

theorem size_row (r : Rw) : (Tryz.prog.info? 48).map (·.size) = some r.cells.length := by rw [rw_sz]; kernel_rfl
theorem size_chg (r : Ch) : (Tryz.prog.info? 71).map (·.size) = some r.cells.length := by rw [ch_sz]; kernel_rfl
theorem size_tbr (A : Option Addr) (n c : Nat) : (Tryz.prog.info? 101).map (·.size) = some (tbLR A n c).length := by
  show _ = some 2; kernel_rfl
theorem size_tbc (A : Option Addr) (n c : Nat) : (Tryz.prog.info? 142).map (·.size) = some (tbLC A n c).length := by
  show _ = some 2; kernel_rfl
theorem info_row : (Tryz.prog.info? 48).map (fun i => (i.zero, i.size, i.bytes)) = some (some (rwV ⟨⟨#[]⟩, ⟨#[]⟩⟩), 2, 32) := by kernel_rfl
theorem info_chg : (Tryz.prog.info? 71).map (fun i => (i.zero, i.size, i.bytes)) = some (some (chV ⟨⟨#[]⟩, false, ⟨#[]⟩⟩), 3, 40) := by kernel_rfl
section
variable {ops : Array Oper} {rest : List Oper} {op : Oper} {a : Act} {w : World} {Q : Exit → Act → World → Prop}
theorem ld_row (hgd : op.guard = none) (x : Operand) (ho : op.op = .load 48 x) (b o : Nat) (r : Rw) (hx : a.eval x = .pointer (some ⟨b, o, none⟩)) (hc : w.rangeAt b o r.cells)
    (h : wpList Tryz.prog ops Q rest (a.put op.dst (rwV r)) w) : wpList Tryz.prog ops Q (op :: rest) a w :=
  wpList_load_mid hgd _ x ho b o hx r.cells _ hc Tryz.underlying48 rfl (size_row r) h
theorem ld_chg (hgd : op.guard = none) (x : Operand) (ho : op.op = .load 71 x) (b o : Nat) (r : Ch) (hx : a.eval x = .pointer (some ⟨b, o, none⟩)) (hc : w.rangeAt b o r.cells)
    (h : wpList Tryz.prog ops Q rest (a.put op.dst (chV r)) w) : wpList Tryz.prog ops Q (op :: rest) a w :=
  wpList_load_mid hgd _ x ho b o hx r.cells _ hc Tryz.underlying71 rfl (size_chg r) h
end

/-- Texts in their order. -/
def lt (a b : ByteArray) : Bool := Op.bytesLess a.toList b.toList
def goodB (b : UInt8) : Bool := decide (33 ≤ b.toNat) && decide (b.toNat ≤ 126)
def visW (s : ByteArray) : Bool := s.data.toList.all goodB
def fitP (p t : ByteArray) : Bool := !p.toList.isEmpty && decide (p.size ≤ 48) && decide (t.size ≤ 256) && visW p
def fitW {α : Type} (p t : α → ByteArray) (l : List α) : Bool := decide (l.length ≤ 32) && l.all fun x => fitP (p x) (t x)
/-- The paths rise. -/
def riseW : List ByteArray → Bool
  | [] => true
  | [_] => true
  | a :: b :: r => lt a b && riseW (b :: r)
theorem riseW_iff : ∀ (l : List ByteArray), riseW l = true ↔ ∀ i (h : i + 1 < l.length), lt l[i] l[i + 1] = true
  | [] => by simp [riseW]
  | [_] => by simp [riseW]
  | a :: b :: r => by
    rw [riseW, Bool.and_eq_true, riseW_iff (b :: r)]
    constructor
    · rintro ⟨h1, h2⟩ i hi
      rcases i with _ | i
      · exact h1
      · exact h2 i (by simpa using hi)
    · intro h
      exact ⟨h 0 (by simp), fun i hi => h (i + 1) (by simpa using hi)⟩
end Go.Proofs.YtcofkhmgmemkmaaGreatDoor
