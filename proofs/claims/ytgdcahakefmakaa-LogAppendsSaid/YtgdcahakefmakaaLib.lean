/-
  WORDS OF MY OWN FOR MEMORY, over whatever program: a slice that reads as a list of bytes; a block that is known whole; what stays. Nothing of a program stands here.
-/
import Derived.Below
import Derived.Laws.OwnMore
import Derived.Deep.Draws
import Derived.Laws.Rows
import Derived.OwnWalk
import Derived.WalkKit
import Derived.Lib.Hide
import Derived.ChangeSame
import Derived.Laws.CopyOwn
import Derived.Laws.AppendOwnNone
import Derived.OpenShut
namespace Go.Proofs.Ytgdcahakefmakaa
open Go.RowKit Go.WideShapes Go.ChangeShapes

/-- A byte as the model holds it. -/
def bv (b : UInt8) : Value := .int .u8 (b.toNat : Int)
def bvs (l : List UInt8) : List Value := l.map bv

theorem bvs_len (l : List UInt8) : (bvs l).length = l.length := by simp [bvs]
theorem bvs_one (l : List UInt8) : ∀ v ∈ bvs l, v.oneCell' = true := by
  intro v hv
  simp only [bvs, List.mem_map] at hv
  obtain ⟨b, _, rfl⟩ := hv
  rfl
theorem bvs_app (a b : List UInt8) : bvs (a ++ b) = bvs a ++ bvs b := by simp [bvs]
theorem bvs_at (l : List UInt8) (j : Nat) (u : Value) (h : (bvs l)[j]? = some u) : ∃ hj : j < l.length, u = bv l[j] := by
  simp only [bvs, List.getElem?_map, Option.map_eq_some_iff] at h
  obtain ⟨b, hb, rfl⟩ := h
  obtain ⟨hj, rfl⟩ := List.getElem?_eq_some_iff.1 hb
  exact ⟨hj, rfl⟩

theorem addr_add (b o j : Nat) : (⟨b, o, none⟩ : Addr).add j = ⟨b, o + j, none⟩ := by
  unfold Addr.add
  split <;> simp_all

/-- THE SLICE '.slice A n c' READS AS l, in blocks below B. -/
structure SlB (w : World) (B : Nat) (A : Option Addr) (n c : Nat) (l : List UInt8) : Prop where
  len : l.length = n
  cap : n ≤ c
  max : c ≤ maxLen
  non : A = none → c = 0
  pos : 0 < n → ∃ b o, A = some ⟨b, o, none⟩ ∧ b < B ∧ ∀ j (h : j < l.length), w.cell? ⟨b, o + j, none⟩ = some (bv l[j])

section
variable {w w' : World} {B B' n c : Nat} {A : Option Addr} {l : List UInt8}
theorem SlB.nil_ : SlB w B none 0 0 [] := ⟨rfl, Nat.le_refl _, Nat.zero_le _, fun _ => rfl, fun h => absurd h (by omega)⟩
theorem SlB.keep (h : SlB w B A n c l) (hk : ∀ p : Addr, p.block < B → w'.cell? p = w.cell? p) : SlB w' B A n c l :=
  ⟨h.len, h.cap, h.max, h.non, fun hn => by
    obtain ⟨b, o, e, hb, hc⟩ := h.pos hn
    exact ⟨b, o, e, hb, fun j hj => (hk _ hb).trans (hc j hj)⟩⟩
theorem SlB.more (h : SlB w B A n c l) (hB : B ≤ B') : SlB w B' A n c l :=
  ⟨h.len, h.cap, h.max, h.non, fun hn => by
    obtain ⟨b, o, e, hb, hc⟩ := h.pos hn
    exact ⟨b, o, e, by omega, hc⟩⟩
theorem SlB.below (h : SlB w B A n c l) (hb : Below B w w') : SlB w' B A n c l := h.keep fun _ hp => hb.cell hp
theorem SlB.grown (h : SlB w B A n c l) {row : Option Nat} (hg : w.grownBy w' row) (hB : B ≤ w.heap.size) (hr : ∀ g, row = some g → B ≤ g) : SlB w' B A n c l :=
  h.keep fun p hp => World.cell?_of_block (hg.block p.block (by omega) (fun e => by have := hr _ e.symm; omega))
theorem SlB.drew (h : SlB w B A n c l) : SlB w.drew B A n c l := h.keep fun _ _ => rfl
theorem SlB.drewN (h : SlB w B A n c l) (k : Nat) : SlB (w.drewN k) B A n c l := h.keep fun _ _ => rfl
theorem SlB.take (h : SlB w B A n c l) {k : Nat} (hk : k ≤ n) : SlB w B A k c (l.take k) := by
  refine ⟨by have := h.len; simp; omega, by have := h.cap; omega, h.max, h.non, fun h0 => ?_⟩
  obtain ⟨b, o, e, hb, hc⟩ := h.pos (by omega)
  refine ⟨b, o, e, hb, fun j hj => ?_⟩
  rw [List.length_take] at hj
  rw [List.getElem_take]
  exact hc j (by omega)
theorem SlB.zero_ : SlB w B A 0 0 [] := ⟨rfl, Nat.le_refl _, Nat.zero_le _, fun _ => rfl, fun h => absurd h (by omega)⟩
theorem SlB.cut3 (h : SlB w B A n c l) {t k : Nat} (hk : t + k ≤ n) : SlB w B (A.map fun x => x.add t) k k ((l.drop t).take k) := by
  refine ⟨by have := h.len; simp; omega, Nat.le_refl _, by have := h.cap; have := h.max; omega, fun e => by have := h.cap; have := h.non (by simpa using e); omega, fun h0 => ?_⟩
  obtain ⟨b, o, rfl, hb, hc⟩ := h.pos (by omega)
  refine ⟨b, o + t, by simp [addr_add], hb, fun j hj => ?_⟩
  rw [List.length_take, List.length_drop] at hj
  rw [List.getElem_take, List.getElem_drop, Nat.add_assoc]
  exact hc (t + j) (by omega)
theorem SlB.le (h : SlB w B A n c l) : n ≤ maxLen := Nat.le_trans h.cap h.max
/-- As the kit's laws on append and copy ask for a source. -/
theorem SlB.src (h : SlB w B A n c l) (h0 : 0 < n) : ∃ ad, A = some ad ∧ ∀ j v, (bvs l)[j]? = some v → w.cell? (ad.add j) = some v := by
  obtain ⟨b, o, e, hb, hc⟩ := h.pos h0
  refine ⟨_, e, fun j v hv => ?_⟩
  obtain ⟨hj, rfl⟩ := bvs_at l j v hv
  rw [addr_add]
  exact hc j hj
end

/-- BLOCK g IS JUST THE CELLS cs OF THE ELEMENT TYPE t. -/
def Bl (w : World) (g : Nat) (t : TypeId) (cs : List Value) : Prop := w.heap[g]? = some (.cells cs.toArray t (0, 0))

section
variable {w w' : World} {g : Nat} {t : TypeId} {cs : List Value}
theorem Bl.lt (h : Bl w g t cs) : g < w.heap.size := (Array.getElem?_eq_some_iff.1 h).1
theorem Bl.cell (h : Bl w g t cs) (i : Nat) : w.cell? ⟨g, i, none⟩ = cs[i]? := by
  have := cell_of_row w g i cs.toArray t (0, 0) h
  simpa using this
theorem Bl.frozen (h : Bl w g t cs) (i : Nat) : w.frozen? ⟨g, i, none⟩ = false := by
  unfold Bl at h
  simp [World.frozen?, h]
theorem Bl.below {B : Nat} (h : Bl w g t cs) (hb : Below B w w') (hg : g < B) : Bl w' g t cs := (hb.block g hg).trans h
theorem Bl.grown {row : Option Nat} (h : Bl w g t cs) (hb : w.grownBy w' row) (hg : some g ≠ row) : Bl w' g t cs := (hb.block g h.lt hg).trans h
theorem Bl.set_ (h : Bl w g t cs) (i : Nat) (u : Value) : Bl (w.setCell ⟨g, i, none⟩ u) g t (cs.set i u) := by
  unfold Bl at h ⊢
  simp [World.setCell, Array.getElem?_modify, h]
theorem Bl.far (h : Bl w g t cs) {p : Addr} (hp : g ≠ p.block) (u : Value) : Bl (w.setCell p u) g t cs := (Below.heap_setCell w p u g hp).trans h
theorem Bl.alloc (h : Bl w g t cs) (o : Obj) : Bl (w.alloc o) g t cs := (Below.heap_alloc w o g h.lt).trans h
theorem Bl.new (w : World) (t : TypeId) (cs : List Value) : Bl (w.alloc (.cells cs.toArray t)) w.heap.size t cs := heap_alloc_new w _
/-- A block of bytes as a slice. -/
theorem Bl.sl {l : List UInt8} {B : Nat} (h : Bl w g t (bvs l)) (hB : g < B) (hm : l.length ≤ maxLen) : SlB w B (some ⟨g, 0, none⟩) l.length l.length l := by
  refine ⟨rfl, Nat.le_refl _, hm, fun e => (by cases e), fun _ => ⟨g, 0, rfl, hB, fun j hj => ?_⟩⟩
  rw [Nat.zero_add, h.cell j]
  simp [bvs, List.getElem?_eq_getElem hj]
end

theorem below_drewN {B : Nat} {a w : World} (h : Below B a w) (n : Nat) : Below B a (w.drewN n) := ⟨h.os, h.tape, h.output, h.size, h.block⟩
/-- Only block g may have turned, of those that were there. -/
theorem only_refl (w : World) (r : Option Nat) : w.grownBy w r := ⟨rfl, rfl, rfl, Nat.le_refl _, fun _ _ _ => rfl⟩
theorem only_trans {a b c : World} {r : Option Nat} (h : a.grownBy b r) (k : b.grownBy c r) : a.grownBy c r :=
  ⟨k.os.trans h.os, k.tape.trans h.tape, k.output.trans h.output, Nat.le_trans h.size k.size, fun i hi hn => (k.block i (Nat.lt_of_lt_of_le hi h.size) hn).trans (h.block i hi hn)⟩
theorem only_of_below {a w : World} (h : Below a.heap.size a w) (r : Option Nat) : a.grownBy w r := ⟨h.os, h.tape, h.output, h.size, fun i hi _ => h.block i hi⟩
theorem only_drewN {a w : World} {r : Option Nat} (h : a.grownBy w r) (n : Nat) : a.grownBy (w.drewN n) r := ⟨h.os, h.tape, h.output, h.size, h.block⟩
theorem only_set {a w : World} {g : Nat} (h : a.grownBy w (some g)) {p : Addr} (hp : p.block = g) (u : Value) : a.grownBy (w.setCell p u) (some g) :=
  ⟨h.os, h.tape, h.output, by simpa [World.setCell] using h.size, fun i hi hn => (Below.heap_setCell w p u i (fun e => hn (by rw [e, hp]))).trans (h.block i hi hn)⟩
theorem below_of_only {a w : World} {g B : Nat} (h : a.grownBy w (some g)) (hB : B ≤ g) (hs : B ≤ a.heap.size) : Below B a w :=
  ⟨h.os, h.tape, h.output, h.size, fun i hi => h.block i (by omega) (fun e => by injection e; omega)⟩

theorem splice_front (a b : List Value) (_h : 0 + b.length ≤ a.length) : splice a 0 b = b ++ a.drop b.length := by simp [splice]
theorem run_make_bytes {P : Program} (t e : TypeId) (i : TypeInfo) (ht : P.underlying t = some (.slice e)) (hi : P.info? e = some i) (hz : i.zero = some (.int .u8 0)) (h1 : i.size = 1) (hb : i.bytes = 1) (n : Nat)
    (N : Int) (hN : N = (n : Int)) (h : n ≤ 140737488355328) (w : World) :
    (Instr.makeSlice t (.int .i64 N) (.int .i64 N)).run P w = .ok (.slice (some ⟨w.heap.size, 0, none⟩) n n) (w.alloc (.cells (bvs (List.replicate n 0)).toArray e)) := by
  subst hN
  have hr := run_make (P := P) w t e i _ ht hi hz .i64 .i64 (n : Int) (n : Int) (by omega) (by omega) (by rw [hb]; omega) (by omega)
  simp only [Int.toNat_natCast, h1, Nat.mul_one] at hr
  rw [hr]
  congr 3
  apply Array.ext
  · simp [madeCells, bvs]
  · intro i _ _
    simp [madeCells, bvs, bv, Value.cells, Nat.mod_one]
/-- A new block, and then nothing old. -/
theorem below_new {w w' : World} {o : Obj} (h : Below (w.alloc o).heap.size (w.alloc o) w') : Below w.heap.size w w' :=
  ((Below.refl _ _).alloc (Nat.le_refl _) _).trans (h.mono (by simp))
/-- 'append(dst, src...)' of bytes: dst the call's own, src nil or not. -/
theorem wpList_append_sl {P : Program} {w : World} {ops : Array Oper} {rest : List Oper} {o : Oper} {a : Act} {Q : Exit → Act → World → Prop} (hgd : o.guard = none) (s x : Operand) (t : TypeId)
    (ho : o.op = .call { callee := .builtin .append, args := #[s, x], argTypes := #[t, t] })
    (base : Nat) (e : TypeId) (i : TypeInfo) (ht : P.underlying t = some (.slice e)) (hi : P.info? e = some i) (hz : i.zero = some (.int .u8 0)) (hsize : i.size = 1) (hby : i.bytes = 1)
    (v : Value) (n : Nat) (l0 : List UInt8) (hs : a.eval s = v) (hown : w.ownsRow base e 1 v n (bvs l0))
    {B : Nat} {A : Option Addr} {m c : Nat} {l : List UInt8} (hx : a.eval x = .slice A m c) (hr : SlB w B A m c l) (h63 : n + m ≤ 140737488355328) (hbase : base ≤ w.heap.size)
    (h : ∀ v' w', w'.ownsRow base e 1 v' (n + m) (bvs (l0 ++ l)) → w.grownBy w' v.ownBlock → wpList P ops Q rest (a.put o.dst v') w') : wpList P ops Q (o :: rest) a w := by
  rcases A with _ | ad
  · obtain rfl : c = 0 := hr.non rfl
    obtain rfl : m = 0 := by have := hr.cap; omega
    obtain rfl : l = [] := List.eq_nil_of_length_eq_zero hr.len
    exact wpList_append_own_none hgd s x t ho base e i 1 ht hi v n (bvs l0) hs hown hx (h v w (by simpa using hown) (only_refl _ _))
  · have hc : ∀ j u, (bvs l)[j]? = some u → w.cell? (ad.add j) = some u := by
      intro j u hu
      rcases Nat.eq_zero_or_pos m with h0 | h0
      · subst h0
        obtain rfl : l = [] := List.eq_nil_of_length_eq_zero hr.len
        simp [bvs] at hu
      · obtain ⟨ad', e', hc⟩ := hr.src h0
        injection e' with e'
        subst e'
        exact hc j u hu
    refine wpList_append_own w hgd s x t ho base e i (.int .u8 0) 1 1 ht hi hz hsize hby rfl (by omega) v n (bvs l0) hs hown ad m c (bvs l) hx (by rw [bvs_len, hr.len, Nat.mul_one]) hc (bvs_one l) (by unfold maxLen; omega) (by omega) hbase fun v' w' h2 h3 _ => h v' w' (by rw [bvs_app]; exact h2) h3
/-- A row of the call's own has a slice's shape. -/
theorem own_form {w : World} {base : Nat} {e : TypeId} {v : Value} {n : Nat} {xs : List Value} (h : w.ownsRow base e 1 v n xs) : ∃ A c, v = .slice A n c := by
  rcases h.2 with ⟨rfl, rfl⟩ | ⟨g, cap, cur, rfl, _⟩
  · exact ⟨none, 0, rfl⟩
  · exact ⟨_, cap, rfl⟩
/-- AN ARGUMENT: a slice of bytes that came in. -/
theorem sl_arg {W : World} {x : Addr} {len cap : Nat} {zs : List Int} (hl : len ≤ cap) (hm : cap ≤ maxLen) (hz : zs.length = cap)
    (hcell : ∀ i, i < zs.length → W.cell? (x.add i) = some (.int .u8 (zs.getD i 0))) (hwz : ∀ n ∈ zs, (Lit.int .u8 n).wf = true) : ∃ l, SlB W W.heap.size (some x) len cap l := by
  refine ⟨(zs.take len).map fun z => UInt8.ofNat z.toNat, by simp; omega, hl, hm, fun e => (by cases e), fun h0 => ?_⟩
  obtain ⟨b, o, s⟩ := x
  have hc := hcell 0 (by omega)
  have hs : s = none := by simpa [Addr.add] using World.cell?_spot hc
  subst hs
  refine ⟨b, o, rfl, World.block_lt_of_cell? W _ hc, fun j hj => ?_⟩
  simp only [List.length_map, List.length_take] at hj
  have hcj := hcell j (by omega)
  rw [addr_add] at hcj
  rw [hcj]
  have hjl : j < zs.length := by omega
  have hb := bounds_u8 (hwz zs[j] (List.getElem_mem hjl))
  simp only [bv, List.getElem_map, List.getElem_take, List.getD_eq_getElem?_getD, List.getElem?_eq_getElem hjl, Option.getD_some, UInt8.toNat_ofNat']
  congr 2
  omega

/-- THE SLICE '.slice A n c' HOLDS THE VALUES vs (elements of one cell), in blocks below B. -/
structure SlV (w : World) (B : Nat) (A : Option Addr) (n c : Nat) (vs : List Value) : Prop where
  len : vs.length = n
  cap : n ≤ c
  max : c ≤ maxLen
  non : A = none → c = 0
  pos : 0 < n → ∃ b o, A = some ⟨b, o, none⟩ ∧ b < B ∧ ∀ j (h : j < vs.length), w.cell? ⟨b, o + j, none⟩ = some vs[j]

section
variable {w w' : World} {B B' n c : Nat} {A : Option Addr} {l : List Value}
theorem SlV.nil_ : SlV w B none 0 0 [] := ⟨rfl, Nat.le_refl _, Nat.zero_le _, fun _ => rfl, fun h => absurd h (by omega)⟩
theorem SlV.keep (h : SlV w B A n c l) (hk : ∀ p : Addr, p.block < B → w'.cell? p = w.cell? p) : SlV w' B A n c l :=
  ⟨h.len, h.cap, h.max, h.non, fun hn => by
    obtain ⟨b, o, e, hb, hc⟩ := h.pos hn
    exact ⟨b, o, e, hb, fun j hj => (hk _ hb).trans (hc j hj)⟩⟩
theorem SlV.more (h : SlV w B A n c l) (hB : B ≤ B') : SlV w B' A n c l :=
  ⟨h.len, h.cap, h.max, h.non, fun hn => by
    obtain ⟨b, o, e, hb, hc⟩ := h.pos hn
    exact ⟨b, o, e, by omega, hc⟩⟩
theorem SlV.below (h : SlV w B A n c l) (hb : Below B w w') : SlV w' B A n c l := h.keep fun _ hp => hb.cell hp
theorem SlV.drew (h : SlV w B A n c l) : SlV w.drew B A n c l := h.keep fun _ _ => rfl
theorem SlV.drewN (h : SlV w B A n c l) (k : Nat) : SlV (w.drewN k) B A n c l := h.keep fun _ _ => rfl
theorem SlV.take (h : SlV w B A n c l) {k : Nat} (hk : k ≤ n) : SlV w B A k c (l.take k) := by
  refine ⟨by have := h.len; simp; omega, by have := h.cap; omega, h.max, h.non, fun h0 => ?_⟩
  obtain ⟨b, o, e, hb, hc⟩ := h.pos (by omega)
  refine ⟨b, o, e, hb, fun j hj => ?_⟩
  rw [List.length_take] at hj
  rw [List.getElem_take]
  exact hc j (by omega)
end

/-- AN ARGUMENT: a slice of uint64 that came in. -/
def u64s (l : List Nat) : List Value := l.map fun z : Nat => .int .u64 (z : Int)
theorem slu_arg {W : World} {x : Addr} {len cap : Nat} {zs : List Int} (hl : len ≤ cap) (hm : cap ≤ maxLen) (hz : zs.length = cap)
    (hcell : ∀ i, i < zs.length → W.cell? (x.add i) = some (.int .u64 (zs.getD i 0))) (hwz : ∀ n ∈ zs, (Lit.int .u64 n).wf = true) : ∃ l : List Nat, SlV W W.heap.size (some x) len cap (u64s l) ∧ ∀ z ∈ l, z < 18446744073709551616 := by
  refine ⟨(zs.take len).map Int.toNat, ⟨by simp [u64s]; omega, hl, hm, fun e => (by cases e), fun h0 => ?_⟩, fun z hz => ?_⟩
  · obtain ⟨b, o, s⟩ := x
    have hc := hcell 0 (by omega)
    have hs : s = none := by simpa [Addr.add] using World.cell?_spot hc
    subst hs
    refine ⟨b, o, rfl, World.block_lt_of_cell? W _ hc, fun j hj => ?_⟩
    simp only [u64s, List.length_map, List.length_take] at hj
    have hcj := hcell j (by omega)
    rw [addr_add] at hcj
    rw [hcj]
    have hjl : j < zs.length := by omega
    have hb := bounds_u64 (hwz zs[j] (List.getElem_mem hjl))
    simp only [u64s, List.getElem_map, List.getElem_take, List.getD_eq_getElem?_getD, List.getElem?_eq_getElem hjl, Option.getD_some]
    congr 2
    omega
  · simp only [List.mem_map] at hz
    obtain ⟨y, hy, rfl⟩ := hz
    have hb := bounds_u64 (hwz y (List.mem_of_mem_take hy))
    omega
end Go.Proofs.Ytgdcahakefmakaa
