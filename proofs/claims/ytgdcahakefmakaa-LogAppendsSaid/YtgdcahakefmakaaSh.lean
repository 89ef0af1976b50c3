/-
  THE LAWS' OWN: what was cut once is not cut again; a list of one's own may be read and written over, byte by byte.
-/
import Derived.Test.YtgdcahakefmakaaSk
import Derived.Test.YtgdcahakefmakaaGy
import Derived.Test.YtgdcahakefmakaaArg
import Derived.Deep.DeepCutAuto
import Derived.Deep.CutBlock
namespace Go.Proofs.Ytgdcahakefmakaa
set_option linter.unusedVariables false
set_option linter.unusedSimpArgs false
open Go.RowKit Go.WideShapes Go.ChangeShapes Go.Deep Go.Shelf
attribute [local irreducible] wpQuiet

theorem capE_idem (e : Ev) : capE (capE e) = capE e := by
  unfold capE
  simp only [List.take_take, Nat.min_self]
theorem capL_idem (m : Nat) (l : List Ev) : capL m (capL m l) = capL m l := by
  unfold capL
  rw [← List.map_take, List.take_take, Nat.min_self, List.map_map]
  congr 1
  funext e
  exact capE_idem e
theorem capL_one {e : Ev} (h : e.d.length ≤ 1025) : capL 1 [e] = [e] := by
  unfold capL capE
  simp only [List.take_succ_cons, List.take_nil, List.map_cons, List.map_nil, List.take_zero]
  rw [List.take_of_length_le h]
theorem capL_mem {m : Nat} {l : List Ev} {e : Ev} (h : e ∈ capL m l) : e.d.length ≤ 1025 := by
  obtain ⟨y, _, rfl⟩ := List.mem_map.1 h
  unfold capE
  rw [List.length_take]
  omega
theorem OwnL.m {w : World} {base n c : Nat} {A : Option Addr} {l : List En} (h : OwnL w base A n c l) : OwnM w base A n c l :=
  ⟨h.row, fun x hx => by
    obtain ⟨g, e, hg, hb⟩ := h.f x hx
    have hm := (h.b x hx).2.2
    rw [e]
    show OwnB w base (some ⟨g, 0, none⟩) x.d.length x.d.length x.d
    exact OwnB.of_bl hb hg rfl (by unfold maxLen; omega), h.b⟩
theorem OwnM.dlen {w : World} {base n c : Nat} {A : Option Addr} {l : List En} (h : OwnM w base A n c l) {x : En} (hx : x ∈ l) : x.d.length = x.D.n := by
  have := (h.f x hx).1
  rw [bvs_len] at this
  omega
/-- A list whose Data is written over, its slices known. -/
structure Dat (w : World) (B : Nat) (A : Option Addr) (n c : Nat) (Ds : List Sl) (W : World) : Prop where
  ex : ∃ l', OwnM W B A n c l' ∧ l'.map En.D = Ds
  bel : Below B w W
section
variable {w W : World} {B n c : Nat} {A : Option Addr} {Ds : List Sl}
theorem Dat.peek (h : Dat w B A n c Ds W) {D : Sl} (hD : D ∈ Ds) {j : Nat} (hj : j < D.n) : ∃ g z, D.a = some ⟨g, 0, none⟩ ∧ W.cell? ⟨g, j, none⟩ = some (bv z) ∧ W.frozen? ⟨g, j, none⟩ = false ∧ (∃ cs, Bl W g 5 cs) ∧ B ≤ g := by
  obtain ⟨l', h1, h2⟩ := h.ex
  rw [← h2] at hD
  obtain ⟨y, hy, rfl⟩ := List.mem_map.1 hD
  have ho := h1.f y hy
  have hlen := h1.dlen hy
  have ho3 := ho
  obtain ⟨_, ⟨e1, e2⟩ | ⟨g, cap, cur, e1, hgb, hg, _⟩⟩ := ho
  · omega
  · have e0 := e1
    injection e1 with e1 e2 e3
    have ho2 := ho3
    rw [e1] at ho2
    refine ⟨g, y.d[j]'(by omega), e1, ?_, World.ownsRow.frozenAt ho2 j, ⟨cur.toList, hg⟩, hgb⟩
    rw [World.ownsRow.cellAt ho2 j (by omega)]
    simp [bvs, List.getElem?_eq_getElem (show j < y.d.length by omega)]
theorem Dat.poke (h : Dat w B A n c Ds W) {D : Sl} (hD : D ∈ Ds) {j g : Nat} (hj : j < D.n) (ha : D.a = some ⟨g, 0, none⟩) (z : UInt8) : Dat w B A n c Ds (W.setCell ⟨g, j, none⟩ (bv z)) := by
  obtain ⟨g', z', e1, _, _, _, hgb⟩ := h.peek hD hj
  rw [ha] at e1
  injection e1 with e1
  injection e1 with e1
  subst e1
  obtain ⟨l', h1, h2⟩ := h.ex
  rw [← h2] at hD
  obtain ⟨y, hy, rfl⟩ := List.mem_map.1 hD
  obtain ⟨l2, h3, h4⟩ := h1.poke hy ha hj z
  exact ⟨⟨l2, h3, h4.trans h2⟩, h.bel.setCell (p := ⟨g, j, none⟩) hgb _⟩
theorem Dat.next {W' : World} (h : Dat w B A n c Ds W) (hb : Below W.heap.size W W') (hB : B ≤ W.heap.size) : Dat w B A n c Ds W' := by
  obtain ⟨l', h1, h2⟩ := h.ex
  exact ⟨⟨l', h1.below hb, h2⟩, h.bel.trans (hb.mono hB)⟩
end
theorem one_own {w : World} {base c : Nat} {A : Option Addr} {l : List En} (h : OwnM w base A 1 c l) : ∃ y g, l = [y] ∧ A = some ⟨g, 0, none⟩ ∧ w.cell? ⟨g, 0, none⟩ = some (.int .u64 (y.t : Int)) ∧ w.cell? ⟨g, 1, none⟩ = some (.int .i64 y.k) ∧ w.cell? ⟨g, 2, none⟩ = some (.slice y.D.a y.D.n y.D.c) := by
  obtain ⟨y, rfl⟩ := List.length_eq_one_iff.1 h.len
  have hr := h.row
  obtain ⟨_, ⟨_, e2⟩ | ⟨g, cap, cur, e1, _⟩⟩ := hr
  · cases e2
  · have hr := h.row
    injection e1 with e1 e2 e3
    rw [e1] at hr
    exact ⟨y, g, rfl, e1, (World.ownsRow.cellAt hr 0 (by omega)), (World.ownsRow.cellAt hr 1 (by omega)), (World.ownsRow.cellAt hr 2 (by omega))⟩
theorem lg_cells {W : World} {b i t n c : Nat} {A : Option Addr} (h : Bl W b 27 (lgC i t A n c)) : W.cell? ⟨b, 0, none⟩ = some (.int .u64 (i : Int)) ∧ W.cell? ⟨b, 1, none⟩ = some (.int .u64 (t : Int)) ∧ W.cell? ⟨b, 2, none⟩ = some (.slice A n c) := ⟨h.cell 0, h.cell 1, h.cell 2⟩
theorem at_cells {W : World} {b i t : Nat} (h : Bl W b 24 (atC i t)) : W.cell? ⟨b, 0, none⟩ = some (.int .u64 (i : Int)) ∧ W.cell? ⟨b, 1, none⟩ = some (.int .u64 (t : Int)) := ⟨h.cell 0, h.cell 1⟩
theorem en_cells {W : World} {b : Nat} {x : En} (h : Bl W b 44 x.cells) : W.cell? ⟨b, 0, none⟩ = some (.int .u64 (x.t : Int)) ∧ W.cell? ⟨b, 1, none⟩ = some (.int .i64 x.k) ∧ W.cell? ⟨b, 2, none⟩ = some (.slice x.D.a x.D.n x.D.c) := ⟨h.cell 0, h.cell 1, h.cell 2⟩
end Go.Proofs.Ytgdcahakefmakaa
