/-
  LOGS THAT COME IN.
-/
import Derived.Test.YtgdcahakefmakaaGy
import Derived.ProofKit
import Derived.OpenShut
import Derived.ChangeOld
import Derived.Carry
import Derived.Deep.Slices
import Derived.Deep.Fields
import Derived.Lib.SmallJoins
import Derived.ChangeSame
namespace Go.Proofs.Ytgdcahakefmakaa
set_option linter.unusedVariables false
set_option linter.unusedSimpArgs false
open Go.RowKit Go.WideShapes Go.ChangeShapes Go.Deep Go.Shelf

theorem flat_get {α : Type} {f : α → List Value} {k : Nat} (hk : 0 < k) (hs : ∀ x, (f x).length = k) : ∀ (l : List α) (j : Nat) (hi : j / k < l.length), (l.flatMap f)[j]? = (f l[j / k])[j % k]?
  | [], j, hi => by simp at hi
  | x :: r, j, hi => by
    rw [List.flatMap_cons]
    by_cases hj : j < k
    · have e1 : j / k = 0 := Nat.div_eq_of_lt hj
      have e2 : j % k = j := Nat.mod_eq_of_lt hj
      rw [List.getElem?_append_left (by rw [hs]; exact hj)]
      simp [e1, e2]
    · have e1 : j / k = (j - k) / k + 1 := Nat.div_eq_sub_div hk (by omega)
      have e2 : j % k = (j - k) % k := Nat.mod_eq_sub_mod (by omega)
      rw [List.getElem?_append_right (by rw [hs]; omega), hs, flat_get hk hs r (j - k) (by rw [e1] at hi; simpa using hi)]
      simp [e1, e2]
/-- A slice that came in. -/
theorem slice_arg {α : Type} (f : α → List Value) (k : Nat) (hk : 0 < k) (hs : ∀ x, (f x).length = k) {T E : TypeId} (hu : Try.prog.underlying T = some (.slice E)) (hC : Try.prog.cellsOf E = k)
    {H : Type} {enc : TypeId × Value → H} {W : World} {fuel : Nat} {v : Value} {x : DataW H × List MemPlace} (hf : DataW.trod enc Try.prog W 0 (fun _ => true) true fuel T [v] = some x)
    (el : ∀ n cs y, cs.length = k → DataW.trod enc Try.prog W 0 (fun _ => true) true n E cs = some y → ∃ a : α, cs = f a) :
    ∃ A n c l, v = .slice A n c ∧ Sq f k W W.heap.size A n c l := by
  rcases open_slice hu hf with ⟨hcs, _⟩ | ⟨ad, len, cap, m, nn, D, Pl, hcs, _, hl, hm, hmm, _, hx⟩
  · injection hcs with hcs
    exact ⟨none, 0, 0, [], hcs, Sq.nil_ hs⟩
  · injection hcs with hcs
    simp only [if_true] at hmm
    subst hmm
    have each : ∀ i, i < len → ∃ a : α, ∀ j v, (f a)[j]? = some v → W.cell? (ad.add (i * k + j)) = some v := by
      intro i hi
      obtain ⟨cs', hcell, ht⟩ := hx i (by omega)
      rw [hC] at hcell
      obtain ⟨_, hcl, hat⟩ := World.cells?_some hcell
      obtain ⟨a, rfl⟩ := el _ _ _ hcl ht
      refine ⟨a, fun j v hj => ?_⟩
      have hj2 : j < k := by have := (List.getElem?_eq_some_iff.1 hj).1; rwa [hs] at this
      have := hat j hj2
      rw [Go.Deep.add_add] at this
      rw [this, hj]
    obtain ⟨b, o, s⟩ := ad
    rcases Nat.eq_zero_or_pos len with hn0 | hn0
    · subst hn0
      exact ⟨_, 0, _, [], hcs, rfl, hl, hm, (fun e => by cases e), hs, fun h => absurd h (by omega)⟩
    · obtain ⟨a0, ha0⟩ := each 0 hn0
      obtain ⟨v0, hv0⟩ : ∃ v, (f a0)[0]? = some v := ⟨_, List.getElem?_eq_getElem (by rw [hs]; exact hk)⟩
      have hss : s = none := by
        have := ha0 0 _ hv0
        simpa [Addr.add] using World.cell?_spot this
      subst hss
      have hlt : b < W.heap.size := by
        have := ha0 0 _ hv0
        rw [addr_add] at this
        exact World.block_lt_of_cell? W _ this
      obtain ⟨l, hlen, hall⟩ : ∃ l : List α, l.length = len ∧ ∀ i (h : i < l.length), ∀ j v, (f l[i])[j]? = some v → W.cell? ((⟨b, o, none⟩ : Addr).add (i * k + j)) = some v := by
        refine ⟨(List.range len).attach.map fun i => (each i.1 (List.mem_range.1 i.2)).choose, by simp, fun i hi j v hv => ?_⟩
        have hjn : i < len := by simpa using hi
        simp only [List.getElem_map, List.getElem_attach, List.getElem_range] at hv
        exact (each i hjn).choose_spec j v hv
      refine ⟨_, len, _, l, hcs, hlen, hl, hm, (fun e => by cases e), hs, fun _ => ⟨b, o, rfl, hlt, fun j v hv => ?_⟩⟩
      have hjl : j < l.length * k := by rw [← flat_len hs l]; exact (List.getElem?_eq_some_iff.1 hv).1
      have hi : j / k < l.length := by rw [Nat.div_lt_iff_lt_mul hk]; exact hjl
      rw [flat_get hk hs l j hi] at hv
      have := hall (j / k) hi (j % k) v hv
      have e := Nat.div_add_mod j k
      rwa [addr_add, show j / k * k + j % k = j by rw [Nat.mul_comm]; exact e] at this
section
variable {H : Type} {enc : TypeId × Value → H} {W : World}
theorem at_el {fuel : Nat} {cs : List Value} {y : DataW H × List MemPlace} (hcl : cs.length = 2) (hf : DataW.trod enc Try.prog W 0 (fun _ => true) true fuel 24 cs = some y) :
    ∃ i t : Nat, cs = [.int .u64 (i : Int), .int .u64 (t : Int)] ∧ i < 18446744073709551616 ∧ t < 18446744073709551616 := by
  obtain ⟨c0, c1, rfl⟩ : ∃ c0 c1, cs = [c0, c1] := by
    match cs, hcl with
    | [a, b], _ => exact ⟨a, b, rfl⟩
  obtain ⟨y0, y1, n', _, _, h0, h1⟩ := trod_struct2 Try.underlying24 hf
  have k9 : Try.prog.cellsOf 22 = 1 := by kernel_rfl
  simp only [k9, List.drop_zero, List.take_succ_cons, List.take_zero, List.drop_succ_cons] at h0 h1
  obtain ⟨a0, e0, _, w0⟩ := DataW.trod_int Try.underlying22 h0
  obtain ⟨a1, e1, _, w1⟩ := DataW.trod_int Try.underlying22 h1
  injection e0 with e0
  injection e1 with e1
  have b0 := bounds_u64 w0
  have b1 := bounds_u64 w1
  refine ⟨a0.toNat, a1.toNat, ?_, by omega, by omega⟩
  rw [e0, e1, show ((a0.toNat : Nat) : Int) = a0 by omega, show ((a1.toNat : Nat) : Int) = a1 by omega]
theorem data_el {fuel : Nat} {v : Value} {y : DataW H × List MemPlace} (hf : DataW.trod enc Try.prog W 0 (fun _ => true) true fuel 42 [v] = some y) : ∃ A n c l, v = .slice A n c ∧ SlB W W.heap.size A n c l := by
  rcases open_ints Try.underlying42 Try.underlying5 (by kernel_rfl) hf with ⟨hcs, _⟩ | ⟨x, l, c, zs, hcs, _, hl, hm, hz, _, hcell, hwz⟩
  · injection hcs with hcs
    exact ⟨none, 0, 0, [], hcs, SlB.nil_.more (Nat.zero_le _)⟩
  · injection hcs with hcs
    obtain ⟨l', hs'⟩ := sl_arg hl hm (by simpa using hz) hcell hwz
    exact ⟨_, _, _, l', hcs, hs'⟩
theorem en_el {fuel : Nat} {cs : List Value} {y : DataW H × List MemPlace} (hcl : cs.length = 3) (hf : DataW.trod enc Try.prog W 0 (fun _ => true) true fuel 44 cs = some y) :
    ∃ x : En, cs = x.cells ∧ EnIn W W.heap.size x := by
  obtain ⟨xs, n, _, _, hl, hlen, hfs⟩ := DataW.trod_struct Try.underlying44 hf
  have k1 : Try.prog.cellsOf 22 = 1 := by kernel_rfl
  have k2 : Try.prog.cellsOf 3 = 1 := by kernel_rfl
  have k3 : Try.prog.cellsOf 42 = 1 := by kernel_rfl
  obtain ⟨y0, y1, y2, rfl⟩ : ∃ y0 y1 y2, xs = [y0, y1, y2] := by
    match xs, hlen with
    | [y0, y1, y2], _ => exact ⟨y0, y1, y2, rfl⟩
  obtain ⟨c0, c1, c2, rfl⟩ : ∃ c0 c1 c2, cs = [c0, c1, c2] := by
    match cs, hcl with
    | [a, b, c], _ => exact ⟨a, b, c, rfl⟩
  have f0 := hfs 0 _ rfl
  have f1 := hfs 1 _ rfl
  have f2 := hfs 2 _ rfl
  simp only [Value.cells, List.getElem?_cons_zero, List.getElem?_cons_succ, List.getElem_toArray, List.getElem_cons_zero, List.getElem_cons_succ, k1, k2, k3, List.drop_zero, List.take_succ_cons, List.take_zero, List.drop_succ_cons] at f0 f1 f2
  obtain ⟨a0, e0, _, w0⟩ := DataW.trod_int Try.underlying22 f0
  obtain ⟨a1, e1, _, w1⟩ := DataW.trod_int Try.underlying3 f1
  injection e0 with e0
  injection e1 with e1
  obtain ⟨A, n2, c, l, rfl, hs⟩ := data_el f2
  have b0 := bounds_u64 w0
  have b1 := bounds_i64 w1
  refine ⟨⟨a0.toNat, a1, ⟨A, n2, c⟩, l⟩, ?_, hs, by show a0.toNat < _; omega, b1⟩
  rw [e0, e1]
  show _ = [Value.int .u64 ((a0.toNat : Nat) : Int), Value.int .i64 a1, .slice A n2 c]
  rw [show ((a0.toNat : Nat) : Int) = a0 by omega]
def InE (W : World) : Type := { x : En // EnIn W W.heap.size x }
theorem entries_arg {fuel : Nat} {v : Value} {x : DataW H × List MemPlace} (hf : DataW.trod enc Try.prog W 0 (fun _ => true) true fuel 25 [v] = some x) :
    ∃ A n c l, v = .slice A n c ∧ SqE W W.heap.size A n c l := by
  have hC : Try.prog.cellsOf 44 = 3 := by kernel_rfl
  obtain ⟨A, n, c, l, rfl, h⟩ := slice_arg (fun x : InE W => x.1.cells) 3 (by omega) (fun x => en_sz x.1) Try.underlying25 hC hf fun n cs y hcl h => by
    obtain ⟨x, e, hx⟩ := en_el hcl h
    exact ⟨⟨x, hx⟩, e⟩
  refine ⟨A, n, c, l.map (·.1), rfl, ⟨by rw [List.length_map]; exact h.len, h.cap, h.max, h.non, en_sz, fun hp => ?_⟩, fun x hx => ?_⟩
  · obtain ⟨b, o, e, hb, hr⟩ := h.pos hp
    refine ⟨b, o, e, hb, ?_⟩
    rwa [show (l.map (·.1)).flatMap En.cells = l.flatMap (fun x : InE W => x.1.cells) by rw [List.flatMap_map]]
  · obtain ⟨y, _, rfl⟩ := List.mem_map.1 hx
    exact y.2
theorem log_el {fuel : Nat} {cs : List Value} {y : DataW H × List MemPlace} (hcl : cs.length = 3) {T : TypeId} (hT : T = 27 ∨ T = 32) (hf : DataW.trod enc Try.prog W 0 (fun _ => true) true fuel T cs = some y) :
    ∃ (i t : Nat) (A : Option Addr) (n c : Nat) (l : List En), cs = lgC i t A n c ∧ i < 18446744073709551616 ∧ t < 18446744073709551616 ∧ SqE W W.heap.size A n c l := by
  obtain ⟨c0, c1, c2, rfl⟩ : ∃ c0 c1 c2, cs = [c0, c1, c2] := by
    match cs, hcl with
    | [a, b, c], _ => exact ⟨a, b, c, rfl⟩
  have k1 : Try.prog.cellsOf 24 = 2 := by kernel_rfl
  have k3 : Try.prog.cellsOf 25 = 1 := by kernel_rfl
  rcases hT with rfl | rfl
  · obtain ⟨y0, y1, n', _, _, h0, h1⟩ := trod_struct2 Try.underlying27 hf
    simp only [k1, k3, List.drop_zero, List.take_succ_cons, List.take_zero, List.drop_succ_cons] at h0 h1
    obtain ⟨i, t, e, hi, ht⟩ := at_el rfl h0
    obtain ⟨A, n, c, l, rfl, hs⟩ := entries_arg h1
    injection e with e1 e2
    injection e2 with e2
    exact ⟨i, t, A, n, c, l, by rw [e1, e2]; rfl, hi, ht, hs⟩
  · obtain ⟨y0, y1, n', _, _, h0, h1⟩ := trod_struct2 Try.underlying32 hf
    simp only [k1, k3, List.drop_zero, List.take_succ_cons, List.take_zero, List.drop_succ_cons] at h0 h1
    obtain ⟨i, t, e, hi, ht⟩ := at_el rfl h0
    obtain ⟨A, n, c, l, rfl, hs⟩ := entries_arg h1
    injection e with e1 e2
    injection e2 with e2
    exact ⟨i, t, A, n, c, l, by rw [e1, e2]; rfl, hi, ht, hs⟩
/-- A log that came in. -/
theorem log_arg {r : Reach} {b0 : Nat} {v : Value} {d : DataW H} {p : List MemPlace} (hv : Value.okWide Try.prog W r b0 27 v) (h : DataW.Trod enc Try.prog W 0 (fun _ => true) true 27 v d p) :
    ∃ (i t : Nat) (A : Option Addr) (n c : Nat) (l : List En), v = lgV i t A n c ∧ i < 18446744073709551616 ∧ t < 18446744073709551616 ∧ SqE W W.heap.size A n c l := by
  obtain ⟨cs, rfl, hsz⟩ := okWide_struct Try.underlying27 hv
  have hC : Try.prog.cellsOf 27 = 3 := by kernel_rfl
  obtain ⟨fuel, hf⟩ := h
  obtain ⟨i, t, A, n, c, l, e, hi, ht, hs⟩ := log_el (by simpa [Value.cells, hC] using hsz) (.inl rfl) hf
  refine ⟨i, t, A, n, c, l, ?_, hi, ht, hs⟩
  have e' : cs.toList = lgC i t A n c := by simpa [Value.cells] using e
  show Value.agg cs = .agg (lgC i t A n c).toArray
  rw [← e']
theorem piece_arg {r : Reach} {b0 : Nat} {v : Value} {d : DataW H} {p : List MemPlace} (hv : Value.okWide Try.prog W r b0 32 v) (h : DataW.Trod enc Try.prog W 0 (fun _ => true) true 32 v d p) :
    ∃ (i t : Nat) (A : Option Addr) (n c : Nat) (l : List En), v = lgV i t A n c ∧ i < 18446744073709551616 ∧ t < 18446744073709551616 ∧ SqE W W.heap.size A n c l := by
  obtain ⟨cs, rfl, hsz⟩ := okWide_struct Try.underlying32 hv
  have hC : Try.prog.cellsOf 32 = 3 := by kernel_rfl
  obtain ⟨fuel, hf⟩ := h
  obtain ⟨i, t, A, n, c, l, e, hi, ht, hs⟩ := log_el (by simpa [Value.cells, hC] using hsz) (.inr rfl) hf
  refine ⟨i, t, A, n, c, l, ?_, hi, ht, hs⟩
  have e' : cs.toList = lgC i t A n c := by simpa [Value.cells] using e
  show Value.agg cs = .agg (lgC i t A n c).toArray
  rw [← e']
end
end Go.Proofs.Ytgdcahakefmakaa
