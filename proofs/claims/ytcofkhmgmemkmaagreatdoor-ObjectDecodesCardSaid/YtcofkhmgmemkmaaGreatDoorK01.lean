/-
  WORDS OF MY OWN FOR MEMORY, over whatever program: a slice that reads as a list of bytes; a block that is known whole; what stays. Nothing of a program stands here.
  CONTRACTS OF PACKAGE octet's FUNCTIONS: what each call comes to, as plain Lean, and what becomes of memory.
  CONTRACTS OF PACKAGE octet, TWO: widths, and numbers as bytes.
  CONTRACTS OF PACKAGE octet, THREE: numbers put behind bytes; a reader.
  CONTRACTS OF PACKAGE octet, FOUR: which bytes are the same; and what the document's own answers (confluenceref01) come to.
-/
import Derived.Below
import Derived.Laws.OwnMore
import Derived.Deep.Draws
import Derived.Laws.Rows
import Derived.OwnWalk
import Derived.WalkKit
import Derived.Lib.Hide
import Derived.ChangeSame
import Derived.Laws.CopyOwn
import Derived.Laws.AppendOwnNone
import Derived.OpenShut
import Derived.Test.YtcofkhmgmemkmaaGreatDoorProg
import Derived.WalkSpells
import Derived.Deep.QuietTactic
import Derived.BigQuiet
import Derived.Lib.BitFns
import Derived.Lib.Small
import Derived.Lib.Walk
import Derived.RegionTactic
import Derived.Laws.IdiomStrings
import Derived.Laws.BytesArg
import Derived.Lib.Strings
namespace Go.Proofs.YtcofkhmgmemkmaaGreatDoor.S3
set_option maxRecDepth 100000
open Go.RowKit Go.WideShapes Go.ChangeShapes

/-- A byte as the model holds it. -/
def bv (b : UInt8) : Value := .int .u8 (b.toNat : Int)
def bvs (l : List UInt8) : List Value := l.map bv

theorem bvs_len (l : List UInt8) : (bvs l).length = l.length := by simp [bvs]
theorem bvs_one (l : List UInt8) : ∀ v ∈ bvs l, v.oneCell' = true := by
  intro v hv
  simp only [bvs, List.mem_map] at hv
  obtain ⟨b, _, rfl⟩ := hv
  rfl
theorem bvs_app (a b : List UInt8) : bvs (a ++ b) = bvs a ++ bvs b := by simp [bvs]
theorem bvs_at (l : List UInt8) (j : Nat) (u : Value) (h : (bvs l)[j]? = some u) : ∃ hj : j < l.length, u = bv l[j] := by
  simp only [bvs, List.getElem?_map, Option.map_eq_some_iff] at h
  obtain ⟨b, hb, rfl⟩ := h
  obtain ⟨hj, rfl⟩ := List.getElem?_eq_some_iff.1 hb
  exact ⟨hj, rfl⟩

theorem addr_add (b o j : Nat) : (⟨b, o, none⟩ : Addr).add j = ⟨b, o + j, none⟩ := by
  unfold Addr.add
  split <;> simp_all

/-- THE SLICE '.slice A n c' READS AS l, in blocks below B. -/
structure SlB (w : World) (B : Nat) (A : Option Addr) (n c : Nat) (l : List UInt8) : Prop where
  len : l.length = n
  cap : n ≤ c
  max : c ≤ maxLen
  non : A = none → c = 0
  pos : 0 < n → ∃ b o, A = some ⟨b, o, none⟩ ∧ b < B ∧ ∀ j (h : j < l.length), w.cell? ⟨b, o + j, none⟩ = some (bv l[j])

section
variable {w w' : World} {B B' n c : Nat} {A : Option Addr} {l : List UInt8}
theorem SlB.nil_ : SlB w B none 0 0 [] := ⟨rfl, Nat.le_refl _, Nat.zero_le _, fun _ => rfl, fun h => absurd h (by omega)⟩
theorem SlB.keep (h : SlB w B A n c l) (hk : ∀ p : Addr, p.block < B → w'.cell? p = w.cell? p) : SlB w' B A n c l :=
  ⟨h.len, h.cap, h.max, h.non, fun hn => by
    obtain ⟨b, o, e, hb, hc⟩ := h.pos hn
    exact ⟨b, o, e, hb, fun j hj => (hk _ hb).trans (hc j hj)⟩⟩
theorem SlB.more (h : SlB w B A n c l) (hB : B ≤ B') : SlB w B' A n c l :=
  ⟨h.len, h.cap, h.max, h.non, fun hn => by
    obtain ⟨b, o, e, hb, hc⟩ := h.pos hn
    exact ⟨b, o, e, by omega, hc⟩⟩
theorem SlB.below (h : SlB w B A n c l) (hb : Below B w w') : SlB w' B A n c l := h.keep fun _ hp => hb.cell hp
theorem SlB.grown (h : SlB w B A n c l) {row : Option Nat} (hg : w.grownBy w' row) (hB : B ≤ w.heap.size) (hr : ∀ g, row = some g → B ≤ g) : SlB w' B A n c l :=
  h.keep fun p hp => World.cell?_of_block (hg.block p.block (by omega) (fun e => by have := hr _ e.symm; omega))
theorem SlB.drew (h : SlB w B A n c l) : SlB w.drew B A n c l := h.keep fun _ _ => rfl
theorem SlB.drewN (h : SlB w B A n c l) (k : Nat) : SlB (w.drewN k) B A n c l := h.keep fun _ _ => rfl
theorem SlB.take (h : SlB w B A n c l) {k : Nat} (hk : k ≤ n) : SlB w B A k c (l.take k) := by
  refine ⟨by have := h.len; simp; omega, by have := h.cap; omega, h.max, h.non, fun h0 => ?_⟩
  obtain ⟨b, o, e, hb, hc⟩ := h.pos (by omega)
  refine ⟨b, o, e, hb, fun j hj => ?_⟩
  rw [List.length_take] at hj
  rw [List.getElem_take]
  exact hc j (by omega)
theorem SlB.zero_ : SlB w B A 0 0 [] := ⟨rfl, Nat.le_refl _, Nat.zero_le _, fun _ => rfl, fun h => absurd h (by omega)⟩
theorem SlB.cut3 (h : SlB w B A n c l) {t k : Nat} (hk : t + k ≤ n) : SlB w B (A.map fun x => x.add t) k k ((l.drop t).take k) := by
  refine ⟨by have := h.len; simp; omega, Nat.le_refl _, by have := h.cap; have := h.max; omega, fun e => by have := h.cap; have := h.non (by simpa using e); omega, fun h0 => ?_⟩
  obtain ⟨b, o, rfl, hb, hc⟩ := h.pos (by omega)
  refine ⟨b, o + t, by simp [addr_add], hb, fun j hj => ?_⟩
  rw [List.length_take, List.length_drop] at hj
  rw [List.getElem_take, List.getElem_drop, Nat.add_assoc]
  exact hc (t + j) (by omega)
theorem SlB.le (h : SlB w B A n c l) : n ≤ maxLen := Nat.le_trans h.cap h.max
/-- As the kit's laws on append and copy ask for a source. -/
theorem SlB.src (h : SlB w B A n c l) (h0 : 0 < n) : ∃ ad, A = some ad ∧ ∀ j v, (bvs l)[j]? = some v → w.cell? (ad.add j) = some v := by
  obtain ⟨b, o, e, hb, hc⟩ := h.pos h0
  refine ⟨_, e, fun j v hv => ?_⟩
  obtain ⟨hj, rfl⟩ := bvs_at l j v hv
  rw [addr_add]
  exact hc j hj
end

/-- BLOCK g IS JUST THE CELLS cs OF THE ELEMENT TYPE t. -/
def Bl (w : World) (g : Nat) (t : TypeId) (cs : List Value) : Prop := w.heap[g]? = some (.cells cs.toArray t (0, 0))

section
variable {w w' : World} {g : Nat} {t : TypeId} {cs : List Value}
theorem Bl.lt (h : Bl w g t cs) : g < w.heap.size := (Array.getElem?_eq_some_iff.1 h).1
theorem Bl.cell (h : Bl w g t cs) (i : Nat) : w.cell? ⟨g, i, none⟩ = cs[i]? := by
  have := cell_of_row w g i cs.toArray t (0, 0) h
  simpa using this
theorem Bl.frozen (h : Bl w g t cs) (i : Nat) : w.frozen? ⟨g, i, none⟩ = false := by
  unfold Bl at h
  simp [World.frozen?, h]
theorem Bl.below {B : Nat} (h : Bl w g t cs) (hb : Below B w w') (hg : g < B) : Bl w' g t cs := (hb.block g hg).trans h
theorem Bl.grown {row : Option Nat} (h : Bl w g t cs) (hb : w.grownBy w' row) (hg : some g ≠ row) : Bl w' g t cs := (hb.block g h.lt hg).trans h
theorem Bl.set_ (h : Bl w g t cs) (i : Nat) (u : Value) : Bl (w.setCell ⟨g, i, none⟩ u) g t (cs.set i u) := by
  unfold Bl at h ⊢
  simp [World.setCell, Array.getElem?_modify, h]
theorem Bl.far (h : Bl w g t cs) {p : Addr} (hp : g ≠ p.block) (u : Value) : Bl (w.setCell p u) g t cs := (Below.heap_setCell w p u g hp).trans h
theorem Bl.alloc (h : Bl w g t cs) (o : Obj) : Bl (w.alloc o) g t cs := (Below.heap_alloc w o g h.lt).trans h
theorem Bl.new (w : World) (t : TypeId) (cs : List Value) : Bl (w.alloc (.cells cs.toArray t)) w.heap.size t cs := heap_alloc_new w _
/-- A block of bytes as a slice. -/
theorem Bl.sl {l : List UInt8} {B : Nat} (h : Bl w g t (bvs l)) (hB : g < B) (hm : l.length ≤ maxLen) : SlB w B (some ⟨g, 0, none⟩) l.length l.length l := by
  refine ⟨rfl, Nat.le_refl _, hm, fun e => (by cases e), fun _ => ⟨g, 0, rfl, hB, fun j hj => ?_⟩⟩
  rw [Nat.zero_add, h.cell j]
  simp [bvs, List.getElem?_eq_getElem hj]
end

theorem below_drewN {B : Nat} {a w : World} (h : Below B a w) (n : Nat) : Below B a (w.drewN n) := ⟨h.os, h.tape, h.output, h.size, h.block⟩
/-- Only block g may have turned, of those that were there. -/
theorem only_refl (w : World) (r : Option Nat) : w.grownBy w r := ⟨rfl, rfl, rfl, Nat.le_refl _, fun _ _ _ => rfl⟩
theorem only_trans {a b c : World} {r : Option Nat} (h : a.grownBy b r) (k : b.grownBy c r) : a.grownBy c r :=
  ⟨k.os.trans h.os, k.tape.trans h.tape, k.output.trans h.output, Nat.le_trans h.size k.size, fun i hi hn => (k.block i (Nat.lt_of_lt_of_le hi h.size) hn).trans (h.block i hi hn)⟩
theorem only_of_below {a w : World} (h : Below a.heap.size a w) (r : Option Nat) : a.grownBy w r := ⟨h.os, h.tape, h.output, h.size, fun i hi _ => h.block i hi⟩
theorem only_drewN {a w : World} {r : Option Nat} (h : a.grownBy w r) (n : Nat) : a.grownBy (w.drewN n) r := ⟨h.os, h.tape, h.output, h.size, h.block⟩
theorem only_set {a w : World} {g : Nat} (h : a.grownBy w (some g)) {p : Addr} (hp : p.block = g) (u : Value) : a.grownBy (w.setCell p u) (some g) :=
  ⟨h.os, h.tape, h.output, by simpa [World.setCell] using h.size, fun i hi hn => (Below.heap_setCell w p u i (fun e => hn (by rw [e, hp]))).trans (h.block i hi hn)⟩
theorem below_of_only {a w : World} {g B : Nat} (h : a.grownBy w (some g)) (hB : B ≤ g) (hs : B ≤ a.heap.size) : Below B a w :=
  ⟨h.os, h.tape, h.output, h.size, fun i hi => h.block i (by omega) (fun e => by injection e; omega)⟩

theorem splice_front (a b : List Value) (_h : 0 + b.length ≤ a.length) : splice a 0 b = b ++ a.drop b.length := by simp [splice]
theorem run_make_bytes {P : Program} (t e : TypeId) (i : TypeInfo) (ht : P.underlying t = some (.slice e)) (hi : P.info? e = some i) (hz : i.zero = some (.int .u8 0)) (h1 : i.size = 1) (hb : i.bytes = 1) (n : Nat)
    (N : Int) (hN : N = (n : Int)) (h : n ≤ 140737488355328) (w : World) :
    (Instr.makeSlice t (.int .i64 N) (.int .i64 N)).run P w = .ok (.slice (some ⟨w.heap.size, 0, none⟩) n n) (w.alloc (.cells (bvs (List.replicate n 0)).toArray e)) := by
  subst hN
  have hr := run_make (P := P) w t e i _ ht hi hz .i64 .i64 (n : Int) (n : Int) (by omega) (by omega) (by rw [hb]; omega) (by omega)
  simp only [Int.toNat_natCast, h1, Nat.mul_one] at hr
  rw [hr]
  congr 3
  apply Array.ext
  · simp [madeCells, bvs]
  · intro i _ _
    simp [madeCells, bvs, bv, Value.cells, Nat.mod_one]
/-- A new block, and then nothing old. -/
theorem below_new {w w' : World} {o : Obj} (h : Below (w.alloc o).heap.size (w.alloc o) w') : Below w.heap.size w w' :=
  ((Below.refl _ _).alloc (Nat.le_refl _) _).trans (h.mono (by simp))
/-- 'append(dst, src...)' of bytes: dst the call's own, src nil or not. -/
theorem wpList_append_sl {P : Program} {w : World} {ops : Array Oper} {rest : List Oper} {o : Oper} {a : Act} {Q : Exit → Act → World → Prop} (hgd : o.guard = none) (s x : Operand) (t : TypeId)
    (ho : o.op = .call { callee := .builtin .append, args := #[s, x], argTypes := #[t, t] })
    (base : Nat) (e : TypeId) (i : TypeInfo) (ht : P.underlying t = some (.slice e)) (hi : P.info? e = some i) (hz : i.zero = some (.int .u8 0)) (hsize : i.size = 1) (hby : i.bytes = 1)
    (v : Value) (n : Nat) (l0 : List UInt8) (hs : a.eval s = v) (hown : w.ownsRow base e 1 v n (bvs l0))
    {B : Nat} {A : Option Addr} {m c : Nat} {l : List UInt8} (hx : a.eval x = .slice A m c) (hr : SlB w B A m c l) (h63 : n + m ≤ 140737488355328) (hbase : base ≤ w.heap.size)
    (h : ∀ v' w', w'.ownsRow base e 1 v' (n + m) (bvs (l0 ++ l)) → w.grownBy w' v.ownBlock → wpList P ops Q rest (a.put o.dst v') w') : wpList P ops Q (o :: rest) a w := by
  rcases A with _ | ad
  · obtain rfl : c = 0 := hr.non rfl
    obtain rfl : m = 0 := by have := hr.cap; omega
    obtain rfl : l = [] := List.eq_nil_of_length_eq_zero hr.len
    exact wpList_append_own_none hgd s x t ho base e i 1 ht hi v n (bvs l0) hs hown hx (h v w (by simpa using hown) (only_refl _ _))
  · have hc : ∀ j u, (bvs l)[j]? = some u → w.cell? (ad.add j) = some u := by
      intro j u hu
      rcases Nat.eq_zero_or_pos m with h0 | h0
      · subst h0
        obtain rfl : l = [] := List.eq_nil_of_length_eq_zero hr.len
        simp [bvs] at hu
      · obtain ⟨ad', e', hc⟩ := hr.src h0
        injection e' with e'
        subst e'
        exact hc j u hu
    refine wpList_append_own w hgd s x t ho base e i (.int .u8 0) 1 1 ht hi hz hsize hby rfl (by omega) v n (bvs l0) hs hown ad m c (bvs l) hx (by rw [bvs_len, hr.len, Nat.mul_one]) hc (bvs_one l) (by unfold maxLen; omega) (by omega) hbase fun v' w' h2 h3 _ => h v' w' (by rw [bvs_app]; exact h2) h3
/-- A row of the call's own has a slice's shape. -/
theorem own_form {w : World} {base : Nat} {e : TypeId} {v : Value} {n : Nat} {xs : List Value} (h : w.ownsRow base e 1 v n xs) : ∃ A c, v = .slice A n c := by
  rcases h.2 with ⟨rfl, rfl⟩ | ⟨g, cap, cur, rfl, _⟩
  · exact ⟨none, 0, rfl⟩
  · exact ⟨_, cap, rfl⟩
/-- AN ARGUMENT: a slice of bytes that came in. -/
theorem sl_arg {W : World} {x : Addr} {len cap : Nat} {zs : List Int} (hl : len ≤ cap) (hm : cap ≤ maxLen) (hz : zs.length = cap)
    (hcell : ∀ i, i < zs.length → W.cell? (x.add i) = some (.int .u8 (zs.getD i 0))) (hwz : ∀ n ∈ zs, (Lit.int .u8 n).wf = true) : ∃ l, SlB W W.heap.size (some x) len cap l := by
  refine ⟨(zs.take len).map fun z => UInt8.ofNat z.toNat, by simp; omega, hl, hm, fun e => (by cases e), fun h0 => ?_⟩
  obtain ⟨b, o, s⟩ := x
  have hc := hcell 0 (by omega)
  have hs : s = none := by simpa [Addr.add] using World.cell?_spot hc
  subst hs
  refine ⟨b, o, rfl, World.block_lt_of_cell? W _ hc, fun j hj => ?_⟩
  simp only [List.length_map, List.length_take] at hj
  have hcj := hcell j (by omega)
  rw [addr_add] at hcj
  rw [hcj]
  have hjl : j < zs.length := by omega
  have hb := bounds_u8 (hwz zs[j] (List.getElem_mem hjl))
  simp only [bv, List.getElem_map, List.getElem_take, List.getD_eq_getElem?_getD, List.getElem?_eq_getElem hjl, Option.getD_some, UInt8.toNat_ofNat']
  congr 2
  omega

/-- THE SLICE '.slice A n c' HOLDS THE VALUES vs (elements of one cell), in blocks below B. -/
structure SlV (w : World) (B : Nat) (A : Option Addr) (n c : Nat) (vs : List Value) : Prop where
  len : vs.length = n
  cap : n ≤ c
  max : c ≤ maxLen
  non : A = none → c = 0
  pos : 0 < n → ∃ b o, A = some ⟨b, o, none⟩ ∧ b < B ∧ ∀ j (h : j < vs.length), w.cell? ⟨b, o + j, none⟩ = some vs[j]

section
variable {w w' : World} {B B' n c : Nat} {A : Option Addr} {l : List Value}
theorem SlV.nil_ : SlV w B none 0 0 [] := ⟨rfl, Nat.le_refl _, Nat.zero_le _, fun _ => rfl, fun h => absurd h (by omega)⟩
theorem SlV.keep (h : SlV w B A n c l) (hk : ∀ p : Addr, p.block < B → w'.cell? p = w.cell? p) : SlV w' B A n c l :=
  ⟨h.len, h.cap, h.max, h.non, fun hn => by
    obtain ⟨b, o, e, hb, hc⟩ := h.pos hn
    exact ⟨b, o, e, hb, fun j hj => (hk _ hb).trans (hc j hj)⟩⟩
theorem SlV.more (h : SlV w B A n c l) (hB : B ≤ B') : SlV w B' A n c l :=
  ⟨h.len, h.cap, h.max, h.non, fun hn => by
    obtain ⟨b, o, e, hb, hc⟩ := h.pos hn
    exact ⟨b, o, e, by omega, hc⟩⟩
theorem SlV.below (h : SlV w B A n c l) (hb : Below B w w') : SlV w' B A n c l := h.keep fun _ hp => hb.cell hp
theorem SlV.drew (h : SlV w B A n c l) : SlV w.drew B A n c l := h.keep fun _ _ => rfl
theorem SlV.drewN (h : SlV w B A n c l) (k : Nat) : SlV (w.drewN k) B A n c l := h.keep fun _ _ => rfl
theorem SlV.take (h : SlV w B A n c l) {k : Nat} (hk : k ≤ n) : SlV w B A k c (l.take k) := by
  refine ⟨by have := h.len; simp; omega, by have := h.cap; omega, h.max, h.non, fun h0 => ?_⟩
  obtain ⟨b, o, e, hb, hc⟩ := h.pos (by omega)
  refine ⟨b, o, e, hb, fun j hj => ?_⟩
  rw [List.length_take] at hj
  rw [List.getElem_take]
  exact hc j (by omega)
end

/-- AN ARGUMENT: a slice of uint64 that came in. -/
def u64s (l : List Nat) : List Value := l.map fun z : Nat => .int .u64 (z : Int)
theorem slu_arg {W : World} {x : Addr} {len cap : Nat} {zs : List Int} (hl : len ≤ cap) (hm : cap ≤ maxLen) (hz : zs.length = cap)
    (hcell : ∀ i, i < zs.length → W.cell? (x.add i) = some (.int .u64 (zs.getD i 0))) (hwz : ∀ n ∈ zs, (Lit.int .u64 n).wf = true) : ∃ l : List Nat, SlV W W.heap.size (some x) len cap (u64s l) ∧ ∀ z ∈ l, z < 18446744073709551616 := by
  refine ⟨(zs.take len).map Int.toNat, ⟨by simp [u64s]; omega, hl, hm, fun e => (by cases e), fun h0 => ?_⟩, fun z hz => ?_⟩
  · obtain ⟨b, o, s⟩ := x
    have hc := hcell 0 (by omega)
    have hs : s = none := by simpa [Addr.add] using World.cell?_spot hc
    subst hs
    refine ⟨b, o, rfl, World.block_lt_of_cell? W _ hc, fun j hj => ?_⟩
    simp only [u64s, List.length_map, List.length_take] at hj
    have hcj := hcell j (by omega)
    rw [addr_add] at hcj
    rw [hcj]
    have hjl : j < zs.length := by omega
    have hb := bounds_u64 (hwz zs[j] (List.getElem_mem hjl))
    simp only [u64s, List.getElem_map, List.getElem_take, List.getD_eq_getElem?_getD, List.getElem?_eq_getElem hjl, Option.getD_some]
    congr 2
    omega
  · simp only [List.mem_map] at hz
    obtain ⟨y, hy, rfl⟩ := hz
    have hb := bounds_u64 (hwz y (List.mem_of_mem_take hy))
    omega
end Go.Proofs.YtcofkhmgmemkmaaGreatDoor.S3
namespace Go.Proofs.YtcofkhmgmemkmaaGreatDoor.S3
set_option maxRecDepth 100000
open Go.RowKit Go.WideShapes Go.ChangeShapes

theorem info_u8 : (Tryz.prog.info? 5).map (fun i => (i.zero, i.size, i.bytes)) = some (some (.int .u8 0), 1, 1) := by kernel_rfl

theorem size_u8 : (Tryz.prog.info? 5).map (·.size) = some 1 := by kernel_rfl

theorem make_bytes (n : Nat) (N : Int) (hN : N = (n : Int)) (h : n ≤ 140737488355328) (w : World) :
    (Instr.makeSlice 24 (.int .i64 N) (.int .i64 N)).run Tryz.prog w = .ok (.slice (some ⟨w.heap.size, 0, none⟩) n n) (w.alloc (.cells (bvs (List.replicate n 0)).toArray 5)) := by
  obtain ⟨i0, hi, hz, h1, hb⟩ := info_parts info_u8
  exact run_make_bytes _ _ i0 Tryz.underlying24 hi hz h1 hb n N hN h w

/-- grown: a row of its own: b, and k noughts. -/
theorem grown_any {A : Option Addr} {n c : Nat} {l : List UInt8} {w : World} {B : Nat} (hs : SlB w B A n c l) (hB : B ≤ w.heap.size) (k : Nat) (K : Int) (hK : K = (k : Int)) (hk : n + k ≤ 140737488355328) :
    Calls Tryz.prog 27 #[.slice A n c, .int .i64 K] w fun e w' =>
      e = .returned (.slice (some ⟨w.heap.size, 0, none⟩) (n + k) (n + k)) ∧ Bl w' w.heap.size 5 (bvs (l ++ List.replicate k 0)) ∧ Below w.heap.size w w' := by
  subst hK
  have hmk := make_bytes (n + k) ((n : Int) + (k : Int)) (by omega) hk
  have hl := hs.le
  unfold maxLen at hl
  have hz8 := size_u8
  have hcp : (bvs l).length = Nat.min n (n + k) := by rw [bvs_len, hs.len]; exact (Nat.min_eq_left (by omega)).symm
  have hpos : 0 < (bvs l).length → some (⟨w.heap.size, 0, none⟩ : Addr) = some ⟨w.heap.size, 0, none⟩ ∧ ∃ ad, A = some ad ∧ ∀ j v, (bvs l)[j]? = some v → (w.alloc (.cells (bvs (List.replicate (n + k) 0)).toArray 5)).cell? (ad.add j) = some v := by
    intro h0
    rw [bvs_len, hs.len] at h0
    obtain ⟨ad, e, hc⟩ := (hs.below ((Below.refl B w).alloc hB (.cells (bvs (List.replicate (n + k) 0)).toArray 5))).src h0
    exact ⟨rfl, ad, e, hc⟩
  have hfit : 0 + (bvs l).length ≤ (bvs (List.replicate (n + k) 0)).length := by have := hs.len; simp only [bvs_len, List.length_replicate]; omega
  have hlen := Lib.hid hs.len
  have HM := Lib.hid hmk
  clear hmk
  go_enter Tryz.func27, Tryz.ntmps27
  have hmk := HM.out
  go_wp2_with ((with_reducible refine wpList_copy_splice rfl (.tmp 11) (.tmp 12) 24 24 rfl 5 Tryz.underlying24 hz8 _ _ _ _ _ _ rfl rfl w.heap.size 0 (bvs (List.replicate (n + k) 0)) 5 (heap_alloc_new w _) (bvs l) hcp hpos hfit (bvs_one l) w.heap.size w ((Below.refl _ w).alloc (Nat.le_refl _) _) (Nat.le_refl _) ?_); intro w1 hw1 hb1)
  go_ret
  refine ⟨rfl, ?_, hb1⟩
  have h2 := hw1.out
  unfold Bl
  rw [h2]
  congr 3
  rw [splice_front _ _ hfit, bvs_len, bvs_app]
  congr 1
  simp only [bvs, ← List.map_drop, List.drop_replicate]
  rw [hlen.out, Nat.add_sub_cancel_left]
end Go.Proofs.YtcofkhmgmemkmaaGreatDoor.S3
namespace Go.Proofs.YtcofkhmgmemkmaaGreatDoor.S3
set_option maxRecDepth 100000
set_option linter.unusedVariables false
open Go.RowKit Go.WideShapes Go.ChangeShapes

/-- The lowest k digits to the base 256, the highest first. -/
def be : Nat → Nat → List UInt8
  | 0, _ => []
  | k + 1, x => be k (x / 256) ++ [UInt8.ofNat x]
theorem be_len : ∀ (k x : Nat), (be k x).length = k
  | 0, _ => rfl
  | k + 1, x => by simp [be, be_len k]
theorem be_cons : ∀ (k x : Nat), be (k + 1) x = UInt8.ofNat (x / 256 ^ k) :: be k x
  | 0, x => by simp [be]
  | k + 1, x => by
    rw [be, be_cons k (x / 256), be, List.cons_append, Nat.div_div_eq_div_mul, ← Nat.pow_succ']
theorem byte_of (x : Nat) : ((UInt8.ofNat x).toNat : Int) = (x : Int) % 256 := by simp
theorem put_step (l : List UInt8) (q j x : Nat) :
    (bvs (l ++ List.replicate (q + 1) 0 ++ be j x)).set (l.length + q) (bv (UInt8.ofNat (x / 256 ^ j))) = bvs (l ++ List.replicate q 0 ++ be (j + 1) x) := by
  have h1 : l ++ List.replicate (q + 1) 0 ++ be j x = (l ++ List.replicate q 0) ++ (0 :: be j x) := by
    rw [List.replicate_succ']; simp
  rw [h1, be_cons]
  simp only [bvs, List.map_append, List.map_cons]
  rw [List.set_append_right _ _ (by simp)]
  simp

theorem tab_size : Lib.len8tab.size = 256 := by decide +kernel
theorem tab_fin : ∀ b : Fin 128, Lib.len8tab.data.getD (b.val + 128) 0 = 8 := by decide +kernel
theorem tab_top (i : Nat) (h : i < Lib.len8tab.size) (h0 : 128 ≤ i) : Lib.len8tab[i].toNat = 8 := by
  have hs : Lib.len8tab.data.size = 256 := tab_size
  have hi : i < Lib.len8tab.data.size := h
  have e := tab_fin ⟨i - 128, by omega⟩
  simp only [] at e
  rw [show i - 128 + 128 = i by omega, Array.getD_eq_getD_getElem?, Array.getElem?_eq_getElem hi] at e
  have e2 : Lib.len8tab[i] = 8 := e
  rw [e2]
  rfl

set_option maxHeartbeats 1000000 in
set_option maxRecDepth 100000 in
theorem len64_8 (x : Int) (w : World) (h0 : 128 ≤ x) (h1 : x ≤ 255) : Calls Tryz.prog 92 #[.int .u64 x] w fun e w' => e = .returned (.int .i64 8) ∧ w = w' := by
  have hb : x < (Lib.len8tab.size : Int) := by rw [tab_size]; omega
  go_enter Tryz.func92, Tryz.ntmps92
  go_wp2
  go_ret
  refine ⟨congrArg Ending.returned (congrArg (Value.int IntKind.i64) ?_), rfl⟩
  rw [tab_top _ _ (by omega)]
  unfold wrap64
  rfl

set_option maxHeartbeats 1000000 in
set_option maxRecDepth 100000 in
theorem len64_16 (x : Int) (w : World) (h0 : 32768 ≤ x) (h1 : x ≤ 65535) : Calls Tryz.prog 92 #[.int .u64 x] w fun e w' => e = .returned (.int .i64 16) ∧ w = w' := by
  have hb : x / 256 < (Lib.len8tab.size : Int) := by rw [tab_size]; omega
  go_enter Tryz.func92, Tryz.ntmps92
  go_wp2
  go_ret
  refine ⟨congrArg Ending.returned (congrArg (Value.int IntKind.i64) ?_), rfl⟩
  rw [tab_top _ _ (by omega)]
  unfold wrap64
  rfl

set_option maxHeartbeats 1000000 in
set_option maxRecDepth 100000 in
theorem len64_32 (x : Int) (w : World) (h0 : 2147483648 ≤ x) (h1 : x ≤ 4294967295) : Calls Tryz.prog 92 #[.int .u64 x] w fun e w' => e = .returned (.int .i64 32) ∧ w = w' := by
  have hb : x / 65536 / 256 < (Lib.len8tab.size : Int) := by rw [tab_size]; omega
  go_enter Tryz.func92, Tryz.ntmps92
  go_wp2
  go_ret
  refine ⟨congrArg Ending.returned (congrArg (Value.int IntKind.i64) ?_), rfl⟩
  rw [tab_top _ _ (by omega)]
  unfold wrap64
  rfl

set_option maxHeartbeats 1000000 in
set_option maxRecDepth 100000 in
theorem len64_64 (x : Int) (w : World) (h0 : 9223372036854775808 ≤ x) (h1 : x ≤ 18446744073709551615) : Calls Tryz.prog 92 #[.int .u64 x] w fun e w' => e = .returned (.int .i64 64) ∧ w = w' := by
  have hb : x / 4294967296 / 65536 / 256 < (Lib.len8tab.size : Int) := by rw [tab_size]; omega
  go_enter Tryz.func92, Tryz.ntmps92
  go_wp2
  go_ret
  refine ⟨congrArg Ending.returned (congrArg (Value.int IntKind.i64) ?_), rfl⟩
  rw [tab_top _ _ (by omega)]
  unfold wrap64
  rfl

theorem width_u16 (w : World) : Calls Tryz.prog 93 #[] w fun e w' => e = .returned (.int .i64 2) ∧ w = w' := by
  go_enter Tryz.func93, Tryz.ntmps93
  go_wp2_with (go_at_call 92; refine (len64_16 _ _ (by decide +kernel) (by decide +kernel)).mono ?_; rintro e w' ⟨rfl, rfl⟩)
  go_ret
  exact ⟨rfl, rfl⟩

theorem width_u32 (w : World) : Calls Tryz.prog 78 #[] w fun e w' => e = .returned (.int .i64 4) ∧ w = w' := by
  go_enter Tryz.func78, Tryz.ntmps78
  go_wp2_with (go_at_call 92; refine (len64_32 _ _ (by decide +kernel) (by decide +kernel)).mono ?_; rintro e w' ⟨rfl, rfl⟩)
  go_ret
  exact ⟨rfl, rfl⟩

theorem width_u64 (w : World) : Calls Tryz.prog 108 #[] w fun e w' => e = .returned (.int .i64 8) ∧ w = w' := by
  go_enter Tryz.func108, Tryz.ntmps108
  go_wp2_with (go_at_call 92; refine (len64_64 _ _ (by decide +kernel) (by decide +kernel)).mono ?_; rintro e w' ⟨rfl, rfl⟩)
  go_ret
  exact ⟨rfl, rfl⟩

theorem width_u8 (w : World) : Calls Tryz.prog 76 #[] w fun e w' => e = .returned (.int .i64 1) ∧ w = w' := by
  go_enter Tryz.func76, Tryz.ntmps76
  go_wp2_with (go_at_call 92; refine (len64_8 _ _ (by decide +kernel) (by decide +kernel)).mono ?_; rintro e w' ⟨rfl, rfl⟩)
  go_ret
  exact ⟨rfl, rfl⟩

theorem lay_u16 {A : Option Addr} {n c : Nat} {l : List UInt8} {w : World} {B : Nat} (hs : SlB w B A n c l) (hB : B ≤ w.heap.size) (x : Nat) (X : Int) (hX : X = (x : Int)) (hx : x < 65536) (hn : n ≤ 140737488355320) :
    Calls Tryz.prog 82 #[.slice A n c, .int .u16 X] w fun e w' =>
      ∃ g, w.heap.size ≤ g ∧ e = .returned (.slice (some ⟨g, 0, none⟩) (n + 2) (n + 2)) ∧ Bl w' g 5 (bvs (l ++ be 2 x)) ∧ Below w.heap.size w w' := by
  subst hX
  have hl := hs.le
  have hlen := Lib.hid hs.len
  unfold maxLen at hl
  go_enter Tryz.func82, Tryz.ntmps82
  go_wp2_with (first | (go_at_call 93; refine (width_u16 _).mono ?_; rintro e w' ⟨rfl, rfl⟩) | (go_at_call 27; refine (grown_any hs hB 2 _ rfl (by omega)).mono ?_; rintro e w1 ⟨rfl, hb1, hw1⟩))
  have HB1 := Lib.hid hb1
  clear hb1
  go_loopw [6, 7] (fun lf pl wr => ∃ (q j : Nat) (P : Int), q + j = 2 ∧ P ≤ (n : Int) + q - 1 ∧ (n : Int) + q - 1 ≤ P ∧ pl = .int .i64 P ∧ lf = .int .u64 ((x / 256 ^ j : Nat) : Int) ∧ Hid (Bl wr w.heap.size 5 (bvs (l ++ List.replicate q 0 ++ be j x))) ∧ Below w.heap.size w wr) (fun _ pl _ => (intOf pl + 1 - n).toNat)
  case atStart => exact ⟨2, 0, _, rfl, by omega, by omega, rfl, by simp, by simpa [be] using HB1, hw1⟩
  case round =>
    obtain ⟨q, j, P, hq, hP1, hP2, rfl, rfl, hbl, hbw⟩ := hrel
    by_cases h0 : q = 0
    · subst h0
      have hlt : P < (n : Int) := by omega
      obtain rfl : j = 2 := by omega
      go_wp2
      go_ret
      exact ⟨_, Nat.le_refl _, rfl, by simpa using hbl.out, hbw⟩
    · have hge : (n : Int) ≤ P := by omega
      obtain ⟨q, rfl⟩ : ∃ q', q = q' + 1 := ⟨q - 1, by omega⟩
      have hPn : P.toNat = l.length + q := by rw [hlen.out]; omega
      have hcell : ∃ v, wr.cell? ⟨w.heap.size, P.toNat, none⟩ = some v := by
        rw [Bl.cell hbl.out, hPn]
        exact ⟨_, List.getElem?_eq_getElem (by simp [bvs_len]; omega)⟩
      obtain ⟨v0, hcell⟩ := hcell
      have hfr := Bl.frozen hbl.out P.toNat
      have hP3 : P < (n : Int) + 2 := by omega
      have hnew := Bl.set_ hbl.out P.toNat (bv (UInt8.ofNat (x / 256 ^ j)))
      rw [hPn, put_step, ← hPn] at hnew
      have HN := Lib.hid hnew
      have HP := Lib.hid hPn
      clear hnew hPn
      go_wp2
      refine ⟨⟨q, j + 1, P - 1, by omega, by omega, by omega, rfl, ?_, ?_, hbw.setCell (Nat.le_refl _) _⟩, by simp [intOf]; omega⟩
      · rw [Nat.pow_succ, ← Nat.div_div_eq_div_mul]; simp
      · have e : (Value.int IntKind.u8 ((x : Int) / 256 ^ j % 256)) = bv (UInt8.ofNat (x / 256 ^ j)) := by
          simp [bv]
        rw [e]
        exact HN.out

theorem lay_u32 {A : Option Addr} {n c : Nat} {l : List UInt8} {w : World} {B : Nat} (hs : SlB w B A n c l) (hB : B ≤ w.heap.size) (x : Nat) (X : Int) (hX : X = (x : Int)) (hx : x < 4294967296) (hn : n ≤ 140737488355320) :
    Calls Tryz.prog 83 #[.slice A n c, .int .u32 X] w fun e w' =>
      ∃ g, w.heap.size ≤ g ∧ e = .returned (.slice (some ⟨g, 0, none⟩) (n + 4) (n + 4)) ∧ Bl w' g 5 (bvs (l ++ be 4 x)) ∧ Below w.heap.size w w' := by
  subst hX
  have hl := hs.le
  have hlen := Lib.hid hs.len
  unfold maxLen at hl
  go_enter Tryz.func83, Tryz.ntmps83
  go_wp2_with (first | (go_at_call 78; refine (width_u32 _).mono ?_; rintro e w' ⟨rfl, rfl⟩) | (go_at_call 27; refine (grown_any hs hB 4 _ rfl (by omega)).mono ?_; rintro e w1 ⟨rfl, hb1, hw1⟩))
  have HB1 := Lib.hid hb1
  clear hb1
  go_loopw [6, 7] (fun lf pl wr => ∃ (q j : Nat) (P : Int), q + j = 4 ∧ P ≤ (n : Int) + q - 1 ∧ (n : Int) + q - 1 ≤ P ∧ pl = .int .i64 P ∧ lf = .int .u64 ((x / 256 ^ j : Nat) : Int) ∧ Hid (Bl wr w.heap.size 5 (bvs (l ++ List.replicate q 0 ++ be j x))) ∧ Below w.heap.size w wr) (fun _ pl _ => (intOf pl + 1 - n).toNat)
  case atStart => exact ⟨4, 0, _, rfl, by omega, by omega, rfl, by simp, by simpa [be] using HB1, hw1⟩
  case round =>
    obtain ⟨q, j, P, hq, hP1, hP2, rfl, rfl, hbl, hbw⟩ := hrel
    by_cases h0 : q = 0
    · subst h0
      have hlt : P < (n : Int) := by omega
      obtain rfl : j = 4 := by omega
      go_wp2
      go_ret
      exact ⟨_, Nat.le_refl _, rfl, by simpa using hbl.out, hbw⟩
    · have hge : (n : Int) ≤ P := by omega
      obtain ⟨q, rfl⟩ : ∃ q', q = q' + 1 := ⟨q - 1, by omega⟩
      have hPn : P.toNat = l.length + q := by rw [hlen.out]; omega
      have hcell : ∃ v, wr.cell? ⟨w.heap.size, P.toNat, none⟩ = some v := by
        rw [Bl.cell hbl.out, hPn]
        exact ⟨_, List.getElem?_eq_getElem (by simp [bvs_len]; omega)⟩
      obtain ⟨v0, hcell⟩ := hcell
      have hfr := Bl.frozen hbl.out P.toNat
      have hP3 : P < (n : Int) + 4 := by omega
      have hnew := Bl.set_ hbl.out P.toNat (bv (UInt8.ofNat (x / 256 ^ j)))
      rw [hPn, put_step, ← hPn] at hnew
      have HN := Lib.hid hnew
      have HP := Lib.hid hPn
      clear hnew hPn
      go_wp2
      refine ⟨⟨q, j + 1, P - 1, by omega, by omega, by omega, rfl, ?_, ?_, hbw.setCell (Nat.le_refl _) _⟩, by simp [intOf]; omega⟩
      · rw [Nat.pow_succ, ← Nat.div_div_eq_div_mul]; simp
      · have e : (Value.int IntKind.u8 ((x : Int) / 256 ^ j % 256)) = bv (UInt8.ofNat (x / 256 ^ j)) := by
          simp [bv]
        rw [e]
        exact HN.out

theorem lay_u64 {A : Option Addr} {n c : Nat} {l : List UInt8} {w : World} {B : Nat} (hs : SlB w B A n c l) (hB : B ≤ w.heap.size) (x : Nat) (X : Int) (hX : X = (x : Int)) (hx : x < 18446744073709551616) (hn : n ≤ 140737488355320) :
    Calls Tryz.prog 105 #[.slice A n c, .int .u64 X] w fun e w' =>
      ∃ g, w.heap.size ≤ g ∧ e = .returned (.slice (some ⟨g, 0, none⟩) (n + 8) (n + 8)) ∧ Bl w' g 5 (bvs (l ++ be 8 x)) ∧ Below w.heap.size w w' := by
  subst hX
  have hl := hs.le
  have hlen := Lib.hid hs.len
  unfold maxLen at hl
  go_enter Tryz.func105, Tryz.ntmps105
  go_wp2_with (first | (go_at_call 108; refine (width_u64 _).mono ?_; rintro e w' ⟨rfl, rfl⟩) | (go_at_call 27; refine (grown_any hs hB 8 _ rfl (by omega)).mono ?_; rintro e w1 ⟨rfl, hb1, hw1⟩))
  have HB1 := Lib.hid hb1
  clear hb1
  go_loopw [6, 7] (fun lf pl wr => ∃ (q j : Nat) (P : Int), q + j = 8 ∧ P ≤ (n : Int) + q - 1 ∧ (n : Int) + q - 1 ≤ P ∧ pl = .int .i64 P ∧ lf = .int .u64 ((x / 256 ^ j : Nat) : Int) ∧ Hid (Bl wr w.heap.size 5 (bvs (l ++ List.replicate q 0 ++ be j x))) ∧ Below w.heap.size w wr) (fun _ pl _ => (intOf pl + 1 - n).toNat)
  case atStart => exact ⟨8, 0, _, rfl, by omega, by omega, rfl, by simp, by simpa [be] using HB1, hw1⟩
  case round =>
    obtain ⟨q, j, P, hq, hP1, hP2, rfl, rfl, hbl, hbw⟩ := hrel
    by_cases h0 : q = 0
    · subst h0
      have hlt : P < (n : Int) := by omega
      obtain rfl : j = 8 := by omega
      go_wp2
      go_ret
      exact ⟨_, Nat.le_refl _, rfl, by simpa using hbl.out, hbw⟩
    · have hge : (n : Int) ≤ P := by omega
      obtain ⟨q, rfl⟩ : ∃ q', q = q' + 1 := ⟨q - 1, by omega⟩
      have hPn : P.toNat = l.length + q := by rw [hlen.out]; omega
      have hcell : ∃ v, wr.cell? ⟨w.heap.size, P.toNat, none⟩ = some v := by
        rw [Bl.cell hbl.out, hPn]
        exact ⟨_, List.getElem?_eq_getElem (by simp [bvs_len]; omega)⟩
      obtain ⟨v0, hcell⟩ := hcell
      have hfr := Bl.frozen hbl.out P.toNat
      have hP3 : P < (n : Int) + 8 := by omega
      have hnew := Bl.set_ hbl.out P.toNat (bv (UInt8.ofNat (x / 256 ^ j)))
      rw [hPn, put_step, ← hPn] at hnew
      have HN := Lib.hid hnew
      have HP := Lib.hid hPn
      clear hnew hPn
      go_wp2
      refine ⟨⟨q, j + 1, P - 1, by omega, by omega, by omega, rfl, ?_, ?_, hbw.setCell (Nat.le_refl _) _⟩, by simp [intOf]; omega⟩
      · rw [Nat.pow_succ, ← Nat.div_div_eq_div_mul]; simp
      · have e : (Value.int IntKind.u8 ((x : Int) / 256 ^ j % 256)) = bv (UInt8.ofNat (x / 256 ^ j)) := by
          simp [bv]
        rw [e]
        exact HN.out

end Go.Proofs.YtcofkhmgmemkmaaGreatDoor.S3
namespace Go.Proofs.YtcofkhmgmemkmaaGreatDoor.S3
set_option maxRecDepth 100000
set_option linter.unusedVariables false
open Go.RowKit Go.WideShapes Go.ChangeShapes

theorem put_u16 {A : Option Addr} {n c : Nat} {l : List UInt8} {w : World} {B : Nat} (hs : SlB w B A n c l) (hB : B ≤ w.heap.size) (x : Nat) (X : Int) (hX : X = (x : Int)) (hx : x < 65536) (hn : n ≤ 140737488355320) :
    Calls Tryz.prog 65 #[.slice A n c, .int .u16 X] w fun e w' =>
      ∃ g, w.heap.size ≤ g ∧ e = .returned (.slice (some ⟨g, 0, none⟩) (n + 2) (n + 2)) ∧ Bl w' g 5 (bvs (l ++ be 2 x)) ∧ Below w.heap.size w w' := by
  subst hX
  go_enter Tryz.func65, Tryz.ntmps65
  go_wp2_with (go_at_call 82; refine (lay_u16 hs hB x _ rfl hx hn).mono ?_; rintro e w1 ⟨g, hg, rfl, hb1, hw1⟩)
  go_ret
  exact ⟨g, hg, rfl, hb1, hw1⟩

theorem put_u32 {A : Option Addr} {n c : Nat} {l : List UInt8} {w : World} {B : Nat} (hs : SlB w B A n c l) (hB : B ≤ w.heap.size) (x : Nat) (X : Int) (hX : X = (x : Int)) (hx : x < 4294967296) (hn : n ≤ 140737488355320) :
    Calls Tryz.prog 66 #[.slice A n c, .int .u32 X] w fun e w' =>
      ∃ g, w.heap.size ≤ g ∧ e = .returned (.slice (some ⟨g, 0, none⟩) (n + 4) (n + 4)) ∧ Bl w' g 5 (bvs (l ++ be 4 x)) ∧ Below w.heap.size w w' := by
  subst hX
  go_enter Tryz.func66, Tryz.ntmps66
  go_wp2_with (go_at_call 83; refine (lay_u32 hs hB x _ rfl hx hn).mono ?_; rintro e w1 ⟨g, hg, rfl, hb1, hw1⟩)
  go_ret
  exact ⟨g, hg, rfl, hb1, hw1⟩

theorem put_u64 {A : Option Addr} {n c : Nat} {l : List UInt8} {w : World} {B : Nat} (hs : SlB w B A n c l) (hB : B ≤ w.heap.size) (x : Nat) (X : Int) (hX : X = (x : Int)) (hx : x < 18446744073709551616) (hn : n ≤ 140737488355320) :
    Calls Tryz.prog 100 #[.slice A n c, .int .u64 X] w fun e w' =>
      ∃ g, w.heap.size ≤ g ∧ e = .returned (.slice (some ⟨g, 0, none⟩) (n + 8) (n + 8)) ∧ Bl w' g 5 (bvs (l ++ be 8 x)) ∧ Below w.heap.size w w' := by
  subst hX
  go_enter Tryz.func100, Tryz.ntmps100
  go_wp2_with (go_at_call 105; refine (lay_u64 hs hB x _ rfl hx hn).mono ?_; rintro e w1 ⟨g, hg, rfl, hb1, hw1⟩)
  go_ret
  exact ⟨g, hg, rfl, hb1, hw1⟩

/-- BLOCK g IS A READER that has the bytes l still, and whose error is e. -/
def Rd (w : World) (g : Nat) (l : List UInt8) (e : Int) : Prop :=
  ∃ (A : Option Addr) (n c t : Nat) (full : List UInt8), Bl w g 84 [.slice A n c, .int .i64 (t : Int), .int .i64 e] ∧ SlB w g A n c full ∧ t ≤ n ∧ l = full.drop t
abbrev rp (g : Nat) : Value := .pointer (some ⟨g, 0, none⟩)

theorem Rd.keep {w w' : World} {g : Nat} {l : List UInt8} {e : Int} (h : Rd w g l e) (hk : ∀ k, k ≤ g → w'.heap[k]? = w.heap[k]?) : Rd w' g l e := by
  obtain ⟨A, n, c, t, full, hb, hs, ht, hl⟩ := h
  exact ⟨A, n, c, t, full, (hk g (Nat.le_refl _)).trans hb, hs.keep fun p hp => World.cell?_of_block (hk p.block (by omega)), ht, hl⟩
theorem Rd.lt {w : World} {g : Nat} {l : List UInt8} {e : Int} (h : Rd w g l e) : g < w.heap.size := by
  obtain ⟨A, n, c, t, full, hb, hs, ht, hl⟩ := h
  exact hb.lt
theorem Rd.below {w w' : World} {g B : Nat} {l : List UInt8} {e : Int} (h : Rd w g l e) (hb : Below B w w') (hg : g < B) : Rd w' g l e := h.keep fun k hk => hb.block k (by omega)
theorem Rd.drewN {w : World} {g : Nat} {l : List UInt8} {e : Int} (h : Rd w g l e) (k : Nat) : Rd (w.drewN k) g l e := h.keep fun _ _ => rfl
theorem Rd.len {w : World} {g : Nat} {l : List UInt8} {e : Int} (h : Rd w g l e) : l.length ≤ 9223372036854775807 := by
  obtain ⟨A, n, c, t, full, hb, hs, ht, rfl⟩ := h
  have h1 := hs.le
  have h2 := hs.len
  unfold maxLen at h1
  simp
  omega

/-- Another reader's step leaves this one as it was. -/
theorem Rd.other {w w' : World} {g g' : Nat} {l l' : List UInt8} {e e' : Int} (h : Rd w g l e) (h' : Rd w g' l' e') (hne : g ≠ g') (hG : w.grownBy w' (some g')) : Rd w' g l e := by
  obtain ⟨A, n, c, t, full, hb, hs, ht, hl⟩ := h
  obtain ⟨A', n', c', t', full', hb', hs', ht', hl'⟩ := h'
  refine ⟨A, n, c, t, full, hb.grown hG (by simpa using hne), ⟨hs.len, hs.cap, hs.max, hs.non, fun h0 => ?_⟩, ht, hl⟩
  obtain ⟨b, o, e1, hlt, hc⟩ := hs.pos h0
  have hbg : b ≠ g' := by
    rintro rfl
    have h1 := hc 0 (by rw [hs.len]; exact h0)
    rw [Nat.add_zero, hb'.cell o] at h1
    match o, h1 with
    | 0, h1 => simp [bv] at h1
    | 1, h1 => simp [bv] at h1
    | 2, h1 => simp [bv] at h1
    | _ + 3, h1 => simp at h1
  exact ⟨b, o, e1, hlt, fun j hj => (World.cell?_of_block (hG.block b (by have := hb.lt; omega) (by simpa using hbg))).trans (hc j hj)⟩
theorem err_any {w : World} {g : Nat} {l : List UInt8} {e : Int} (h : Rd w g l e) : Calls Tryz.prog 15 #[rp g] w fun x w' => x = .returned (.int .i64 e) ∧ w = w' := by
  obtain ⟨A, n, c, t, full, hb, hs, ht, hl⟩ := h
  have h2 := hb.cell 2
  simp only [List.getElem?_cons_succ, List.getElem?_cons_zero] at h2
  unfold rp
  clear hl
  go_enter Tryz.func15, Tryz.ntmps15
  go_wp2
  go_ret
  exact ⟨rfl, rfl⟩
theorem err_nil (w : World) : Calls Tryz.prog 15 #[.pointer none] w fun x w' => x = .returned (.int .i64 1) ∧ w = w' := by
  go_enter Tryz.func15, Tryz.ntmps15
  go_wp2
  go_ret
  exact ⟨rfl, rfl⟩

theorem left_any {w : World} {g : Nat} {l : List UInt8} {e : Int} (h : Rd w g l e) : Calls Tryz.prog 91 #[rp g] w fun x w' => x = .returned (.int .i64 l.length) ∧ ∃ k, w' = w.drewN k := by
  obtain ⟨A, n, c, t, full, hb, hs, ht, hl⟩ := h
  have h0 := hb.cell 0
  have h1 := hb.cell 1
  simp only [List.getElem?_cons_succ, List.getElem?_cons_zero] at h0 h1
  have hm := hs.le
  unfold maxLen at hm
  unfold rp
  have HL : Hid (l.length = n - t) := by subst hl; have := hs.len; simp [Hid, this]
  clear hl
  have hi : ((n : Int) - (t : Int)) = (((n - t : Nat)) : Int) := by omega
  have HI := Lib.hid hi
  clear hi
  go_enter Tryz.func91, Tryz.ntmps91
  go_wp2
  go_quiet (fail)
  go_wp2
  go_ret
  rw [HL.out, HI.out]
  exact ⟨rfl, _, rfl⟩
theorem left_nil (w : World) : Calls Tryz.prog 91 #[.pointer none] w fun x w' => x = .returned (.int .i64 0) ∧ w = w' := by
  go_enter Tryz.func91, Tryz.ntmps91
  go_wp2
  go_ret
  exact ⟨rfl, rfl⟩

theorem read_any {A : Option Addr} {n c : Nat} {l : List UInt8} {w : World} {B : Nat} (hs : SlB w B A n c l) (hB : B ≤ w.heap.size) (hn : n ≤ 140737488355320) :
    Calls Tryz.prog 13 #[.slice A n c] w fun x w' => ∃ g, w.heap.size ≤ g ∧ x = .returned (rp g) ∧ Rd w' g l 0 ∧ Below w.heap.size w w' := by
  have hlen := Lib.hid hs.len
  go_enter Tryz.func13, Tryz.ntmps13
  go_wp2_with (go_at_call 27; refine (grown_any hs hB 0 _ rfl (by omega)).mono ?_; rintro e w1 ⟨rfl, hb1, hw1⟩)
  go_ret
  have hsz := hw1.size
  have hlt := hb1.lt
  have e0 : l ++ List.replicate 0 0 = l := by simp
  rw [e0] at hb1
  have hs1 : SlB w1 w1.heap.size (some ⟨w.heap.size, 0, none⟩) n n l := by
    have := hb1.sl (B := w1.heap.size) hlt (by rw [hlen.out]; exact hs.le)
    rwa [hlen.out] at this
  refine ⟨w1.heap.size, hsz, rfl, ⟨_, n, n, 0, l, Bl.new w1 _ [_, _, _], hs1.below ((Below.refl _ _).alloc (Nat.le_refl _) _), Nat.zero_le _, rfl⟩, hw1.alloc hsz _⟩

/-- What a reader takes off, what is left, its error behind it. -/
def offT (l : List UInt8) (e n : Int) : List UInt8 := if e = 0 ∧ 0 ≤ n ∧ n ≤ l.length then l.take n.toNat else []
def offL (l : List UInt8) (e n : Int) : List UInt8 := if e = 0 ∧ 0 ≤ n ∧ n ≤ l.length then l.drop n.toNat else l
def offE (l : List UInt8) (e n : Int) : Int := if e = 0 then (if n < 0 then 2 else if n ≤ l.length then 0 else 7) else e

theorem cut_any {w : World} {g : Nat} {l : List UInt8} {e : Int} (h : Rd w g l e) (n : Int) (wn : -9223372036854775808 ≤ n ∧ n ≤ 9223372036854775807) :
    Calls Tryz.prog 75 #[rp g, .int .i64 n] w fun x w' =>
      ∃ A m c, x = .returned (.slice A m c) ∧ SlB w' g A m c (offT l e n) ∧ Rd w' g (offL l e n) (offE l e n) ∧ w.grownBy w' (some g) := by
  by_cases he : e = 0
  · subst he
    by_cases h1 : n < 0
    · obtain ⟨A, m, c, t, full, hb, hs, ht, hl⟩ := id h
      have hc2 := hb.cell 2
      simp only [List.getElem?_cons_succ, List.getElem?_cons_zero] at hc2
      have hf := hb.frozen 2
      have HB := Lib.hid hb
      have HL := Lib.hid hl
      clear hb hl
      unfold rp
      go_enter Tryz.func75, Tryz.ntmps75
      go_wp2_with (go_at_call 15; refine (err_any h).mono ?_; rintro x w' ⟨rfl, rfl⟩)
      go_ret
      have eE : offE l 0 n = 2 := by unfold offE; rw [if_pos rfl, if_pos h1]
      rw [eE]
      refine ⟨none, 0, 0, rfl, ?_, ⟨A, m, c, t, full, HB.out.set_ 2 _, hs.below ((Below.refl _ _).setCell (p := ⟨g, 2, none⟩) (Nat.le_refl _) _), ht, ?_⟩, only_set (p := ⟨g, 2, none⟩) (only_refl _ _) rfl _⟩
      · have : offT l 0 n = [] := by unfold offT; rw [if_neg (by omega)]
        rw [this]; exact SlB.nil_
      · unfold offL; rw [if_neg (by omega)]; exact HL.out
    · have hlen := h.len
      by_cases h2 : n ≤ l.length
      · obtain ⟨A, m, c, t, full, hb, hs, ht, hl⟩ := id h
        have hc0 := hb.cell 0
        have hc1 := hb.cell 1
        have hc2 := hb.cell 2
        simp only [List.getElem?_cons_succ, List.getElem?_cons_zero] at hc0 hc1 hc2
        have hf := hb.frozen 1
        have hmm := hs.le
        have hcc := hs.max
        have hmc := hs.cap
        unfold maxLen at hmm hcc
        have hfl := hs.len
        have hll : l.length = m - t := by rw [hl, List.length_drop, hfl]
        have h3 : (t : Int) + n ≤ m := by omega
        obtain ⟨k, rfl⟩ := Int.eq_ofNat_of_zero_le (show 0 ≤ n by omega)
        have HB := Lib.hid hb
        have HL := Lib.hid hl
        have HLL := Lib.hid hll
        have HF := Lib.hid hfl
        clear hb hl hll hfl
        unfold rp
        go_enter Tryz.func75, Tryz.ntmps75
        go_wp2_with (first | (go_at_call 15; refine (err_any h).mono ?_; rintro x w' ⟨rfl, rfl⟩) | (go_at_call 91; refine (left_any h).mono ?_; rintro x w' ⟨rfl, q, rfl⟩))
        go_quiet (fail)
        go_wp2
        all_goals go_ret
        all_goals
          have eE : offE l 0 k = 0 := by unfold offE; rw [if_pos rfl, if_neg (by omega), if_pos h2]
          have eL : offL l 0 k = l.drop k := by unfold offL; rw [if_pos (by omega)]; simp
          have eT : offT l 0 k = l.take k := by unfold offT; rw [if_pos (by omega)]; simp
          rw [eE, eL, eT]
          have hbw : Below g w (((w.drewN q).setCell ⟨g, 1, none⟩ (.int .i64 ((t : Int) + (k : Int)))).drewN nq) := below_drewN ((below_drewN (Below.refl _ _) q).setCell (p := ⟨g, 1, none⟩) (Nat.le_refl _) _) _
          have hR : Rd (((w.drewN q).setCell ⟨g, 1, none⟩ (.int .i64 ((t : Int) + (k : Int)))).drewN nq) g (l.drop k) 0 := by
            refine ⟨A, m, c, t + k, full, ?_, hs.below hbw, by omega, by rw [HL.out, List.drop_drop]⟩
            rw [show (((t + k : Nat)) : Int) = (t : Int) + (k : Int) by omega]
            exact Bl.set_ (w := w.drewN q) HB.out 1 _
          have hG : w.grownBy (((w.drewN q).setCell ⟨g, 1, none⟩ (.int .i64 ((t : Int) + (k : Int)))).drewN nq) (some g) := only_drewN (only_set (p := ⟨g, 1, none⟩) (only_drewN (only_refl _ _) q) rfl _) _
          have hS := (hs.below hbw).cut3 (t := t) (k := k) (by omega)
          rw [← HL.out] at hS
        · rename_i hk0
          obtain rfl : k = 0 := by omega
          exact ⟨A, 0, 0, rfl, SlB.zero_, hR, hG⟩
        · exact ⟨_, k, k, rfl, hS, hR, hG⟩
      · obtain ⟨A, m, c, t, full, hb, hs, ht, hl⟩ := id h
        have hc2 := hb.cell 2
        simp only [List.getElem?_cons_succ, List.getElem?_cons_zero] at hc2
        have hf := hb.frozen 2
        have h2' : (l.length : Int) < n := by omega
        have HB := Lib.hid hb
        have HL := Lib.hid hl
        clear hb hl
        unfold rp
        go_enter Tryz.func75, Tryz.ntmps75
        go_wp2_with (first | (go_at_call 15; refine (err_any h).mono ?_; rintro x w' ⟨rfl, rfl⟩) | (go_at_call 91; refine (left_any h).mono ?_; rintro x w' ⟨rfl, q, rfl⟩))
        go_ret
        have e7 : offE l 0 n = 7 := by unfold offE; rw [if_pos rfl, if_neg (by omega), if_neg (by omega)]
        have eL : offL l 0 n = l := by unfold offL; rw [if_neg (by omega)]
        have eT : offT l 0 n = [] := by unfold offT; rw [if_neg (by omega)]
        rw [e7, eL, eT]
        refine ⟨none, 0, 0, rfl, SlB.nil_, ⟨A, m, c, t, full, Bl.set_ (w := w.drewN q) HB.out 2 _, hs.below ((below_drewN (Below.refl _ _) q).setCell (p := ⟨g, 2, none⟩) (Nat.le_refl _) _), ht, HL.out⟩, only_set (p := ⟨g, 2, none⟩) (only_drewN (only_refl _ _) q) rfl _⟩
  · have hb : (e != 0) = true := by simpa using he
    go_enter Tryz.func75, Tryz.ntmps75
    go_wp2_with (go_at_call 15; refine (err_any h).mono ?_; rintro x w' ⟨rfl, rfl⟩)
    go_ret
    have eE : offE l e n = e := by unfold offE; rw [if_neg he]
    have eL : offL l e n = l := by unfold offL; rw [if_neg (by omega)]
    have eT : offT l e n = [] := by unfold offT; rw [if_neg (by omega)]
    rw [eE, eL, eT]
    exact ⟨none, 0, 0, rfl, SlB.nil_, h, only_refl _ _⟩

theorem cut_nil (n : Int) (w : World) : Calls Tryz.prog 75 #[.pointer none, .int .i64 n] w fun x w' => x = .returned (.slice none 0 0) ∧ w = w' := by
  go_enter Tryz.func75, Tryz.ntmps75
  go_wp2_with (go_at_call 15; refine (err_nil _).mono ?_; rintro x w' ⟨rfl, rfl⟩)
  go_ret
  exact ⟨rfl, rfl⟩

/-- The number that lies in bytes. -/
def num (l : List UInt8) : Nat := l.foldl (fun x b => x * 256 + b.toNat) 0
theorem num_snoc (l : List UInt8) (b : UInt8) : num (l ++ [b]) = num l * 256 + b.toNat := by simp [num]
theorem num_lt' : ∀ (l : List UInt8) (a : Nat), l.foldl (fun x b => x * 256 + b.toNat) a < (a + 1) * 256 ^ l.length
  | [], a => by simp
  | b :: l, a => by
    have h := num_lt' l (a * 256 + b.toNat)
    have hb := b.toNat_lt
    have h2 : (a * 256 + b.toNat + 1) * 256 ^ l.length ≤ ((a + 1) * 256) * 256 ^ l.length := Nat.mul_le_mul_right _ (by omega)
    simp only [List.foldl_cons, List.length_cons]
    rw [Nat.pow_succ', ← Nat.mul_assoc]
    omega
theorem num_lt (l : List UInt8) : num l < 256 ^ l.length := by
  have h := num_lt' l 0
  rw [Nat.zero_add, Nat.one_mul] at h
  exact h
theorem take_at (l : List UInt8) (k : Nat) (h : k < l.length) : l.take (k + 1) = l.take k ++ [l[k]] := by rw [List.take_succ_eq_append_getElem h]
theorem or_byte (x b : Nat) (hx : x < 72057594037927936) (hb : b < 256) : bits .or .u64 ((x : Int) * 256) (b : Int) = ((x * 256 + b : Nat) : Int) := by
  rw [show (x : Int) * 256 = ((x * 256 : Nat) : Int) by omega, u64_or_nat _ _ (by omega) (by omega), nat_join 8 _ _ (by omega) (by omega)]

theorem takeOff_u8 {w : World} {g : Nat} {l : List UInt8} {e : Int} (h : Rd w g l e) :
    Calls Tryz.prog 55 #[rp g] w fun x w' =>
      x = .returned (.int .u8 (num (offT l e 1) : Nat)) ∧ Rd w' g (offL l e 1) (offE l e 1) ∧ w.grownBy w' (some g) := by
  have hT : (offT l e 1).length ≤ 1 := by unfold offT; split <;> simp; omega
  go_enter Tryz.func55, Tryz.ntmps55
  go_wp2_with (first | (go_at_call 76; refine (width_u8 _).mono ?_; rintro x w' ⟨rfl, rfl⟩) | (go_at_call 75; refine (cut_any h _ (by omega)).mono ?_; rintro x w1 ⟨A, m, c, rfl, hS, hR, hG⟩))
  generalize hrr : offT l e 1 = r at *
  have HRR := Lib.hid hrr
  clear hrr
  have hlen := Lib.hid hS.len
  have hm := hS.le
  unfold maxLen at hm
  have hm8 : m ≤ 1 := by have := hlen.out; omega
  go_loop [3, 10] (fun x i => ∃ q : Nat, q ≤ m ∧ i = .int .i64 q ∧ x = .int .u64 (num (r.take q) : Nat)) (fun _ i => m - (intOf i).toNat)
  case atStart => exact ⟨0, Nat.zero_le _, rfl, by simp [num]⟩
  case round =>
    obtain ⟨q, hq, rfl, rfl⟩ := hrel
    have hlt2 := num_lt (r.take q)
    have hp : 256 ^ (r.take q).length ≤ 256 ^ 1 := Nat.pow_le_pow_right (by omega) (by have := hlen.out; simp; omega)
    by_cases hlt : q < m
    · have hqr : q < r.length := by rw [hlen.out]; exact hlt
      have hp1 : 256 ^ (r.take q).length ≤ 256 ^ 0 := Nat.pow_le_pow_right (by omega) (by have := hlen.out; simp; omega)
      have hx : num (r.take q) < 72057594037927936 := by omega
      have hb := r[q].toNat_lt
      have HJ := Lib.hid (or_byte (num (r.take q)) r[q].toNat hx hb)
      have HN : Hid (num (r.take (q + 1)) = num (r.take q) * 256 + r[q].toNat) := by rw [take_at r q hqr, num_snoc]; exact rfl
      clear hp hp1 hlt2
      obtain ⟨b, o, rfl, hbb, hc⟩ := hS.pos (by omega)
      have hcq := hc q hqr
      unfold bv at hcq
      clear hc
      go_wp2
      go_round
      case rel => exact ⟨q + 1, by omega, by go_num, by rw [HN.out, ← HJ.out]⟩
      case measure => simp [intOf]; omega
    · obtain rfl : q = m := by omega
      have hr : r.take q = r := List.take_of_length_le (by rw [hlen.out]; omega)
      have HR := Lib.hid hr
      clear hr
      go_wp2
      go_ret
      refine ⟨?_, hR, hG⟩
      show Ending.returned (.int .u8 (num (r.take q) : Nat)) = _
      rw [HR.out, HRR.out]

theorem takeOff_u8_nil (w : World) : Calls Tryz.prog 55 #[.pointer none] w fun x w' => x = .returned (.int .u8 0) ∧ w = w' := by
  go_enter Tryz.func55, Tryz.ntmps55
  go_wp2_with (first | (go_at_call 76; refine (width_u8 _).mono ?_; rintro x w' ⟨rfl, rfl⟩) | (go_at_call 75; refine (cut_nil _ _).mono ?_; rintro x w' ⟨rfl, rfl⟩))
  refine wp_loop_rounds 1 ?_
  rw [rounds_succ]
  go_wp2
  go_ret
  exact ⟨rfl, rfl⟩

theorem take_u8 {w : World} {g : Nat} {l : List UInt8} {e : Int} (h : Rd w g l e) :
    Calls Tryz.prog 28 #[rp g] w fun x w' =>
      x = .returned (.int .u8 (num (offT l e 1) : Nat)) ∧ Rd w' g (offL l e 1) (offE l e 1) ∧ w.grownBy w' (some g) := by
  go_enter Tryz.func28, Tryz.ntmps28
  go_wp2_with (go_at_call 55; refine (takeOff_u8 h).mono ?_; rintro x w1 ⟨rfl, hR, hG⟩)
  go_ret
  exact ⟨rfl, hR, hG⟩
theorem take_u8_nil (w : World) : Calls Tryz.prog 28 #[.pointer none] w fun x w' => x = .returned (.int .u8 0) ∧ w = w' := by
  go_enter Tryz.func28, Tryz.ntmps28
  go_wp2_with (go_at_call 55; refine (takeOff_u8_nil _).mono ?_; rintro x w' ⟨rfl, rfl⟩)
  go_ret
  exact ⟨rfl, rfl⟩

theorem takeOff_u16 {w : World} {g : Nat} {l : List UInt8} {e : Int} (h : Rd w g l e) :
    Calls Tryz.prog 77 #[rp g] w fun x w' =>
      x = .returned (.int .u16 (num (offT l e 2) : Nat)) ∧ Rd w' g (offL l e 2) (offE l e 2) ∧ w.grownBy w' (some g) := by
  have hT : (offT l e 2).length ≤ 2 := by unfold offT; split <;> simp; omega
  go_enter Tryz.func77, Tryz.ntmps77
  go_wp2_with (first | (go_at_call 93; refine (width_u16 _).mono ?_; rintro x w' ⟨rfl, rfl⟩) | (go_at_call 75; refine (cut_any h _ (by omega)).mono ?_; rintro x w1 ⟨A, m, c, rfl, hS, hR, hG⟩))
  generalize hrr : offT l e 2 = r at *
  have HRR := Lib.hid hrr
  clear hrr
  have hlen := Lib.hid hS.len
  have hm := hS.le
  unfold maxLen at hm
  have hm8 : m ≤ 2 := by have := hlen.out; omega
  go_loop [3, 10] (fun x i => ∃ q : Nat, q ≤ m ∧ i = .int .i64 q ∧ x = .int .u64 (num (r.take q) : Nat)) (fun _ i => m - (intOf i).toNat)
  case atStart => exact ⟨0, Nat.zero_le _, rfl, by simp [num]⟩
  case round =>
    obtain ⟨q, hq, rfl, rfl⟩ := hrel
    have hlt2 := num_lt (r.take q)
    have hp : 256 ^ (r.take q).length ≤ 256 ^ 2 := Nat.pow_le_pow_right (by omega) (by have := hlen.out; simp; omega)
    by_cases hlt : q < m
    · have hqr : q < r.length := by rw [hlen.out]; exact hlt
      have hp1 : 256 ^ (r.take q).length ≤ 256 ^ 1 := Nat.pow_le_pow_right (by omega) (by have := hlen.out; simp; omega)
      have hx : num (r.take q) < 72057594037927936 := by omega
      have hb := r[q].toNat_lt
      have HJ := Lib.hid (or_byte (num (r.take q)) r[q].toNat hx hb)
      have HN : Hid (num (r.take (q + 1)) = num (r.take q) * 256 + r[q].toNat) := by rw [take_at r q hqr, num_snoc]; exact rfl
      clear hp hp1 hlt2
      obtain ⟨b, o, rfl, hbb, hc⟩ := hS.pos (by omega)
      have hcq := hc q hqr
      unfold bv at hcq
      clear hc
      go_wp2
      go_round
      case rel => exact ⟨q + 1, by omega, by go_num, by rw [HN.out, ← HJ.out]⟩
      case measure => simp [intOf]; omega
    · obtain rfl : q = m := by omega
      have hr : r.take q = r := List.take_of_length_le (by rw [hlen.out]; omega)
      have HR := Lib.hid hr
      clear hr
      go_wp2
      go_ret
      refine ⟨?_, hR, hG⟩
      show Ending.returned (.int .u16 (num (r.take q) : Nat)) = _
      rw [HR.out, HRR.out]

theorem takeOff_u16_nil (w : World) : Calls Tryz.prog 77 #[.pointer none] w fun x w' => x = .returned (.int .u16 0) ∧ w = w' := by
  go_enter Tryz.func77, Tryz.ntmps77
  go_wp2_with (first | (go_at_call 93; refine (width_u16 _).mono ?_; rintro x w' ⟨rfl, rfl⟩) | (go_at_call 75; refine (cut_nil _ _).mono ?_; rintro x w' ⟨rfl, rfl⟩))
  refine wp_loop_rounds 1 ?_
  rw [rounds_succ]
  go_wp2
  go_ret
  exact ⟨rfl, rfl⟩

theorem take_u16 {w : World} {g : Nat} {l : List UInt8} {e : Int} (h : Rd w g l e) :
    Calls Tryz.prog 57 #[rp g] w fun x w' =>
      x = .returned (.int .u16 (num (offT l e 2) : Nat)) ∧ Rd w' g (offL l e 2) (offE l e 2) ∧ w.grownBy w' (some g) := by
  go_enter Tryz.func57, Tryz.ntmps57
  go_wp2_with (go_at_call 77; refine (takeOff_u16 h).mono ?_; rintro x w1 ⟨rfl, hR, hG⟩)
  go_ret
  exact ⟨rfl, hR, hG⟩
theorem take_u16_nil (w : World) : Calls Tryz.prog 57 #[.pointer none] w fun x w' => x = .returned (.int .u16 0) ∧ w = w' := by
  go_enter Tryz.func57, Tryz.ntmps57
  go_wp2_with (go_at_call 77; refine (takeOff_u16_nil _).mono ?_; rintro x w' ⟨rfl, rfl⟩)
  go_ret
  exact ⟨rfl, rfl⟩

theorem takeOff_u32 {w : World} {g : Nat} {l : List UInt8} {e : Int} (h : Rd w g l e) :
    Calls Tryz.prog 58 #[rp g] w fun x w' =>
      x = .returned (.int .u32 (num (offT l e 4) : Nat)) ∧ Rd w' g (offL l e 4) (offE l e 4) ∧ w.grownBy w' (some g) := by
  have hT : (offT l e 4).length ≤ 4 := by unfold offT; split <;> simp; omega
  go_enter Tryz.func58, Tryz.ntmps58
  go_wp2_with (first | (go_at_call 78; refine (width_u32 _).mono ?_; rintro x w' ⟨rfl, rfl⟩) | (go_at_call 75; refine (cut_any h _ (by omega)).mono ?_; rintro x w1 ⟨A, m, c, rfl, hS, hR, hG⟩))
  generalize hrr : offT l e 4 = r at *
  have HRR := Lib.hid hrr
  clear hrr
  have hlen := Lib.hid hS.len
  have hm := hS.le
  unfold maxLen at hm
  have hm8 : m ≤ 4 := by have := hlen.out; omega
  go_loop [3, 10] (fun x i => ∃ q : Nat, q ≤ m ∧ i = .int .i64 q ∧ x = .int .u64 (num (r.take q) : Nat)) (fun _ i => m - (intOf i).toNat)
  case atStart => exact ⟨0, Nat.zero_le _, rfl, by simp [num]⟩
  case round =>
    obtain ⟨q, hq, rfl, rfl⟩ := hrel
    have hlt2 := num_lt (r.take q)
    have hp : 256 ^ (r.take q).length ≤ 256 ^ 4 := Nat.pow_le_pow_right (by omega) (by have := hlen.out; simp; omega)
    by_cases hlt : q < m
    · have hqr : q < r.length := by rw [hlen.out]; exact hlt
      have hp1 : 256 ^ (r.take q).length ≤ 256 ^ 3 := Nat.pow_le_pow_right (by omega) (by have := hlen.out; simp; omega)
      have hx : num (r.take q) < 72057594037927936 := by omega
      have hb := r[q].toNat_lt
      have HJ := Lib.hid (or_byte (num (r.take q)) r[q].toNat hx hb)
      have HN : Hid (num (r.take (q + 1)) = num (r.take q) * 256 + r[q].toNat) := by rw [take_at r q hqr, num_snoc]; exact rfl
      clear hp hp1 hlt2
      obtain ⟨b, o, rfl, hbb, hc⟩ := hS.pos (by omega)
      have hcq := hc q hqr
      unfold bv at hcq
      clear hc
      go_wp2
      go_round
      case rel => exact ⟨q + 1, by omega, by go_num, by rw [HN.out, ← HJ.out]⟩
      case measure => simp [intOf]; omega
    · obtain rfl : q = m := by omega
      have hr : r.take q = r := List.take_of_length_le (by rw [hlen.out]; omega)
      have HR := Lib.hid hr
      clear hr
      go_wp2
      go_ret
      refine ⟨?_, hR, hG⟩
      show Ending.returned (.int .u32 (num (r.take q) : Nat)) = _
      rw [HR.out, HRR.out]

theorem takeOff_u32_nil (w : World) : Calls Tryz.prog 58 #[.pointer none] w fun x w' => x = .returned (.int .u32 0) ∧ w = w' := by
  go_enter Tryz.func58, Tryz.ntmps58
  go_wp2_with (first | (go_at_call 78; refine (width_u32 _).mono ?_; rintro x w' ⟨rfl, rfl⟩) | (go_at_call 75; refine (cut_nil _ _).mono ?_; rintro x w' ⟨rfl, rfl⟩))
  refine wp_loop_rounds 1 ?_
  rw [rounds_succ]
  go_wp2
  go_ret
  exact ⟨rfl, rfl⟩

theorem take_u32 {w : World} {g : Nat} {l : List UInt8} {e : Int} (h : Rd w g l e) :
    Calls Tryz.prog 36 #[rp g] w fun x w' =>
      x = .returned (.int .u32 (num (offT l e 4) : Nat)) ∧ Rd w' g (offL l e 4) (offE l e 4) ∧ w.grownBy w' (some g) := by
  go_enter Tryz.func36, Tryz.ntmps36
  go_wp2_with (go_at_call 58; refine (takeOff_u32 h).mono ?_; rintro x w1 ⟨rfl, hR, hG⟩)
  go_ret
  exact ⟨rfl, hR, hG⟩
theorem take_u32_nil (w : World) : Calls Tryz.prog 36 #[.pointer none] w fun x w' => x = .returned (.int .u32 0) ∧ w = w' := by
  go_enter Tryz.func36, Tryz.ntmps36
  go_wp2_with (go_at_call 58; refine (takeOff_u32_nil _).mono ?_; rintro x w' ⟨rfl, rfl⟩)
  go_ret
  exact ⟨rfl, rfl⟩

theorem raw_any {w : World} {g : Nat} {l : List UInt8} {e : Int} (h : Rd w g l e) (n : Int) (wn : -9223372036854775808 ≤ n ∧ n ≤ 9223372036854775807) (hl : l.length ≤ 140737488355320) :
    Calls Tryz.prog 56 #[rp g, .int .i64 n] w fun x w' =>
      ∃ b, w.heap.size ≤ b ∧ x = .returned (.slice (some ⟨b, 0, none⟩) (offT l e n).length (offT l e n).length) ∧ Bl w' b 5 (bvs (offT l e n)) ∧ Rd w' g (offL l e n) (offE l e n) ∧ w.grownBy w' (some g) := by
  have hT : (offT l e n).length ≤ 140737488355320 := by unfold offT; split <;> simp; omega
  go_enter Tryz.func56, Tryz.ntmps56
  go_wp2_with fail
  refine (cut_any h n wn).mono ?_
  rintro x w1 ⟨A, m, c, rfl, hS, hR, hG⟩
  have hlen := Lib.hid hS.len
  have hlt := hR.lt
  have hm : m ≤ 140737488355320 := by rw [← hlen.out]; exact hT
  clear hT
  generalize hrr : offT l e n = r at *
  have HRR := Lib.hid hrr
  clear hrr
  go_wp2_with fail
  refine (grown_any (hS.more (Nat.le_of_lt hlt)) (Nat.le_refl _) 0 _ rfl (by omega)).mono ?_
  rintro x w2 ⟨rfl, hb2, hw2⟩
  go_wp2_with fail
  go_ret
  rw [HRR.out]
  refine ⟨w1.heap.size, hG.size, ?_, by simpa using hb2, hR.below hw2 hlt, only_trans hG (only_of_below hw2 _)⟩
  show Ending.returned (.slice (some ⟨w1.heap.size, 0, none⟩) (m + 0) (m + 0)) = _
  rw [hlen.out]
  rfl
theorem raw_nil (n : Int) (w : World) : Calls Tryz.prog 56 #[.pointer none, .int .i64 n] w fun x w' =>
    ∃ b, w.heap.size ≤ b ∧ x = .returned (.slice (some ⟨b, 0, none⟩) 0 0) ∧ Below w.heap.size w w' := by
  go_enter Tryz.func56, Tryz.ntmps56
  go_wp2_with (first | (go_at_call 75; refine (cut_nil _ _).mono ?_; rintro x w' ⟨rfl, rfl⟩) | (go_at_call 27; refine (grown_any (B := w.heap.size) SlB.nil_ (Nat.le_refl _) 0 _ rfl (by omega)).mono ?_; rintro e w1 ⟨rfl, hb1, hw1⟩))
  go_ret
  exact ⟨_, Nat.le_refl _, rfl, hw1⟩

end Go.Proofs.YtcofkhmgmemkmaaGreatDoor.S3
namespace Go.Proofs.YtcofkhmgmemkmaaGreatDoor.S3
set_option maxRecDepth 100000
set_option linter.unusedVariables false
open Go.RowKit Go.WideShapes Go.ChangeShapes

theorem SlB.str {P : Program} {w : World} {B n c : Nat} {A : Option Addr} {l : List UInt8} (h : SlB w B A n c l) (src dst e : TypeId) (hs : P.underlying src = some (.slice e)) (he : P.underlying e = some (.int .u8)) (hd : P.underlying dst = some .string) :
    (convert src dst (.slice A n c)).run P w = .ok (.string ⟨l.toArray⟩) w := by
  obtain rfl : l.length = n := h.len
  by_cases h0 : l.length = 0
  · obtain rfl : l = [] := List.eq_nil_of_length_eq_zero h0
    rcases A with _ | ad
    · exact run_convert_bytes_nil w src e hs he _ c dst hd
    · exact run_convert_bytes_back w src dst e ad c [] hs he hd (fun j hj => absurd hj (by simp))
  · obtain ⟨b, o, rfl, hb, hc⟩ := h.pos (by omega)
    refine run_convert_bytes_back w src dst e _ c l hs he hd (fun j hj => ?_)
    rw [addr_add]
    exact hc j hj

theorem bytesEqual_any {A A' : Option Addr} {n c n' c' : Nat} {l l' : List UInt8} {w : World} {B B' : Nat} (h : SlB w B A n c l) (h' : SlB w B' A' n' c' l') :
    Calls Tryz.prog 8 #[.slice A n c, .slice A' n' c'] w fun e w' => e = .returned (.bool (l == l')) ∧ w = w' := by
  have k1 := h.str 24 9 5 Tryz.underlying24 Tryz.underlying5 Tryz.underlying9
  have k2 := h'.str 24 9 5 Tryz.underlying24 Tryz.underlying5 Tryz.underlying9
  clear h h'
  go_enter Tryz.func8, Tryz.ntmps8
  go_wp2
  go_ret
  exact ⟨rfl, rfl⟩
theorem equal_any {A A' : Option Addr} {n c n' c' : Nat} {l l' : List UInt8} {w : World} {B B' : Nat} (h : SlB w B A n c l) (h' : SlB w B' A' n' c' l') :
    Calls Tryz.prog 16 #[.slice A n c, .slice A' n' c'] w fun e w' => e = .returned (.bool (l == l')) ∧ w = w' := by
  go_enter Tryz.func16, Tryz.ntmps16
  go_wp2_with (go_at_call 8; refine (bytesEqual_any h h').mono ?_; rintro x w' ⟨rfl, rfl⟩)
  go_ret
  exact ⟨rfl, rfl⟩
def zeros (l : List UInt8) : Bool := l.all fun b => b == 0
theorem zeros_snoc (l : List UInt8) (b : UInt8) : zeros (l ++ [b]) = (zeros l && (b == 0)) := by simp [zeros]
/-! ### the document's own answers -/
theorem snoc_beq (a : List UInt8) (x y : UInt8) : ((x.toNat : Int) == (y.toNat : Int)) = (a ++ [x] == a ++ [y]) := by
  rw [Bool.eq_iff_iff]
  simp only [beq_iff_eq, List.append_cancel_left_eq, List.cons.injEq, and_true]
  exact ⟨fun h => UInt8.toNat_inj.1 (by omega), fun h => by rw [h]⟩
/-! ### the same, the answer under a name of its own -/
theorem equal_is {A A' : Option Addr} {n c n' c' : Nat} {l l' : List UInt8} {w : World} {B B' : Nat} (h : SlB w B A n c l) (h' : SlB w B' A' n' c' l') (s : Bool) (hs : (l == l') = s) :
    Calls Tryz.prog 16 #[.slice A n c, .slice A' n' c'] w fun e w' => e = .returned (.bool s) ∧ w = w' := by subst hs; exact equal_any h h'
theorem bytesEqual_is {A A' : Option Addr} {n c n' c' : Nat} {l l' : List UInt8} {w : World} {B B' : Nat} (h : SlB w B A n c l) (h' : SlB w B' A' n' c' l') (s : Bool) (hs : (l == l') = s) :
    Calls Tryz.prog 8 #[.slice A n c, .slice A' n' c'] w fun e w' => e = .returned (.bool s) ∧ w = w' := by subst hs; exact bytesEqual_any h h'
end Go.Proofs.YtcofkhmgmemkmaaGreatDoor.S3
