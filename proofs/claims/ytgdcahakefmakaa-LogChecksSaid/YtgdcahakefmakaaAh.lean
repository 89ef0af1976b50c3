/-
  ROWS OF LOGS AND OF PLACES THAT COME IN.
-/
import Derived.Test.YtgdcahakefmakaaArg
namespace Go.Proofs.Ytgdcahakefmakaa
set_option linter.unusedVariables false
set_option linter.unusedSimpArgs false
open Go.RowKit Go.WideShapes Go.ChangeShapes Go.Deep Go.Shelf
/-- A log in a row. -/
structure Lv where
  i : Nat
  t : Nat
  A : Option Addr
  n : Nat
  c : Nat
  l : List En
def Lv.cells (x : Lv) : List Value := lgC x.i x.t x.A x.n x.c
structure LvIn (w : World) (B : Nat) (x : Lv) : Prop where
  i : x.i < 18446744073709551616
  t : x.t < 18446744073709551616
  s : SqE w B x.A x.n x.c x.l
theorem lv_sz (x : Lv) : x.cells.length = 3 := rfl
/-- A slice of logs. -/
structure SqLv (w : World) (B : Nat) (A : Option Addr) (n c : Nat) (l : List Lv) : Prop where
  s : Sq Lv.cells 3 w B A n c l
  e : ∀ x ∈ l, LvIn w B x
theorem SqLv.next {w w' : World} {B n c : Nat} {A : Option Addr} {l : List Lv} (h : SqLv w B A n c l) (hB : B ≤ w.heap.size) (hb : Below w.heap.size w w') : SqLv w' w'.heap.size A n c l :=
  ⟨(h.s.below (hb.mono hB)).more (Nat.le_trans hB hb.size), fun x hx => ⟨(h.e x hx).i, (h.e x hx).t, (h.e x hx).s.next hB hb⟩⟩
def InL (W : World) : Type := { x : Lv // LvIn W W.heap.size x }
def InA : Type := { x : Nat × Nat // x.1 < 18446744073709551616 ∧ x.2 < 18446744073709551616 }
section
variable {H : Type} {enc : TypeId × Value → H} {W : World}
theorem logs_arg {fuel : Nat} {v : Value} {x : DataW H × List MemPlace} (hf : DataW.trod enc Try.prog W 0 (fun _ => true) true fuel 64 [v] = some x) :
    ∃ A n c l, v = .slice A n c ∧ SqLv W W.heap.size A n c l := by
  have hC : Try.prog.cellsOf 27 = 3 := by kernel_rfl
  obtain ⟨A, n, c, l, rfl, h⟩ := slice_arg (fun x : InL W => x.1.cells) 3 (by omega) (fun x => lv_sz x.1) Try.underlying64 hC hf fun n cs y hcl h => by
    obtain ⟨i, t, A, m, c, l, e, hi, ht, hs⟩ := log_el hcl (.inl rfl) h
    exact ⟨⟨⟨i, t, A, m, c, l⟩, ⟨hi, ht, hs⟩⟩, e⟩
  refine ⟨A, n, c, l.map (·.1), rfl, ⟨by rw [List.length_map]; exact h.len, h.cap, h.max, h.non, lv_sz, fun hp => ?_⟩, fun x hx => ?_⟩
  · obtain ⟨b, o, e, hb, hr⟩ := h.pos hp
    refine ⟨b, o, e, hb, ?_⟩
    rwa [show (l.map (·.1)).flatMap Lv.cells = l.flatMap (fun x : InL W => x.1.cells) by rw [List.flatMap_map]]
  · obtain ⟨y, _, rfl⟩ := List.mem_map.1 hx
    exact y.2
/-- A slice of places. -/
theorem ats_arg {fuel : Nat} {v : Value} {x : DataW H × List MemPlace} (hf : DataW.trod enc Try.prog W 0 (fun _ => true) true fuel 52 [v] = some x) :
    ∃ A n c, ∃ l : List (Nat × Nat), v = .slice A n c ∧ Sq (fun p : Nat × Nat => atC p.1 p.2) 2 W W.heap.size A n c l ∧ ∀ p ∈ l, p.1 < 18446744073709551616 ∧ p.2 < 18446744073709551616 := by
  have hC : Try.prog.cellsOf 24 = 2 := by kernel_rfl
  obtain ⟨A, n, c, l, rfl, h⟩ := slice_arg (fun x : InA => atC x.1.1 x.1.2) 2 (by omega) (fun x => rfl) Try.underlying52 hC hf fun n cs y hcl h => by
    obtain ⟨i, t, e, hi, ht⟩ := at_el hcl h
    exact ⟨⟨(i, t), hi, ht⟩, e⟩
  refine ⟨A, n, c, l.map (·.1), rfl, ⟨by rw [List.length_map]; exact h.len, h.cap, h.max, h.non, fun _ => rfl, fun hp => ?_⟩, fun x hx => ?_⟩
  · obtain ⟨b, o, e, hb, hr⟩ := h.pos hp
    refine ⟨b, o, e, hb, ?_⟩
    rwa [show (l.map (·.1)).flatMap (fun p : Nat × Nat => atC p.1 p.2) = l.flatMap (fun x : InA => atC x.1.1 x.1.2) by rw [List.flatMap_map]]
  · obtain ⟨y, _, rfl⟩ := List.mem_map.1 hx
    exact y.2
end
end Go.Proofs.Ytgdcahakefmakaa
