/-
  THE ARGUMENTS OF STAGE 5's STATEMENTS: maps; whether two maps are the same; whether a map is more than is gone through.
  THE ARGUMENTS OF STAGE 5's STATEMENTS: maps; whether two maps are the same; whether a map is more than is gone through.
-/
import Derived.Test.YtkdmlffnkomdhaaPe
import Derived.Deep.Slices
import Derived.Deep.Fields
import Derived.Lib.SmallJoins
import Derived.ChangeSame
namespace Go.Proofs.Ytkdmlffnkomdhaa
set_option linter.unusedVariables false
set_option linter.unusedSimpArgs false
open Go.RowKit Go.WideShapes Go.ChangeShapes Go.Deep

/-- A slice of rows that came in. -/
theorem rows_arg {H : Type} {enc : TypeId × Value → H} {W : World} {fuel : Nat} {v : Value} {x : DataW H × List MemPlace} (hf : DataW.trod enc Try.prog W 0 (fun _ => true) true fuel 22 [v] = some x) :
    ∃ A n c l, v = .slice A n c ∧ SqR W W.heap.size A n c l := by
  have hC : Try.prog.cellsOf 70 = 2 := by kernel_rfl
  rcases open_slice Try.underlying22 hf with ⟨hcs, _⟩ | ⟨ad, len, cap, m, nn, D, Pl, hcs, _, hl, hm, hmm, _, hx⟩
  · injection hcs with hcs
    exact ⟨none, 0, 0, [], hcs, Sq.nil_ rw_sz⟩
  · injection hcs with hcs
    simp only [if_true] at hmm
    subst hmm
    have each : ∀ i, i < len → ∃ a : Rw, ∀ j v, a.cells[j]? = some v → W.cell? (ad.add (i * 2 + j)) = some v := by
      intro i hi
      obtain ⟨cs', hcell, ht⟩ := hx i (by omega)
      rw [hC] at hcell
      obtain ⟨_, hcl, hat⟩ := World.cells?_some hcell
      obtain ⟨c0, c1, rfl⟩ : ∃ c0 c1, cs' = [c0, c1] := by
        match cs', hcl with
        | [a, b], _ => exact ⟨a, b, rfl⟩
      obtain ⟨y0, y1, n', _, _, h0, h1⟩ := trod_struct2 Try.underlying70 ht
      have k9 : Try.prog.cellsOf 9 = 1 := by kernel_rfl
      simp only [k9, List.drop_zero, List.take_succ_cons, List.take_zero, List.drop_succ_cons] at h0 h1
      obtain ⟨s0, e0, _, _⟩ := DataW.trod_string Try.underlying9 h0
      obtain ⟨s1, e1, _, _⟩ := DataW.trod_string Try.underlying9 h1
      injection e0 with e0
      injection e1 with e1
      refine ⟨⟨s0, s1⟩, fun j v hj => ?_⟩
      have hj2 : j < 2 := by have := (List.getElem?_eq_some_iff.1 hj).1; simpa [Rw.cells] using this
      have := hat j hj2
      rw [Go.Deep.add_add] at this
      rw [this, ← hj, e0, e1]
      rfl
    obtain ⟨b, o, s⟩ := ad
    rcases Nat.eq_zero_or_pos len with hn0 | hn0
    · subst hn0
      exact ⟨_, 0, _, [], hcs, rfl, hl, hm, (fun e => by cases e), rw_sz, fun h => absurd h (by omega)⟩
    · obtain ⟨a0, ha0⟩ := each 0 hn0
      have hs : s = none := by
        have := ha0 0 _ rfl
        simpa [Addr.add] using World.cell?_spot this
      subst hs
      have hlt : b < W.heap.size := by
        have := ha0 0 _ rfl
        exact World.block_lt_of_cell? W _ this
      obtain ⟨l, hlen, hall⟩ : ∃ l : List Rw, l.length = len ∧ ∀ i (h : i < l.length), ∀ j v, l[i].cells[j]? = some v → W.cell? ((⟨b, o, none⟩ : Addr).add (i * 2 + j)) = some v := by
        refine ⟨(List.range len).attach.map fun i => (each i.1 (List.mem_range.1 i.2)).choose, by simp, fun i hi j v hv => ?_⟩
        have hjn : i < len := by simpa using hi
        simp only [List.getElem_map, List.getElem_attach, List.getElem_range] at hv
        exact (each i hjn).choose_spec j v hv
      refine ⟨_, len, _, l, hcs, hlen, hl, hm, (fun e => by cases e), rw_sz, fun _ => ⟨b, o, rfl, hlt, fun j v hv => ?_⟩⟩
      have hjl : j < l.length * 2 := by rw [← flat_len rw_sz l]; exact (List.getElem?_eq_some_iff.1 hv).1
      have hi : j / 2 < l.length := by omega
      have hget : ∀ (l : List Rw) (j : Nat) (hi : j / 2 < l.length), (l.flatMap Rw.cells)[j]? = (l[j / 2]).cells[j % 2]? := by
        intro l
        induction l with
        | nil => intro j hi; simp at hi
        | cons x r ih =>
          intro j hi
          rw [List.flatMap_cons]
          by_cases hj2 : j < 2
          · have e1 : j / 2 = 0 := by omega
            have e2 : j % 2 = j := by omega
            rw [List.getElem?_append_left (by rw [rw_sz]; exact hj2)]
            simp [e1, e2]
          · rw [List.getElem?_append_right (by rw [rw_sz]; omega), rw_sz]
            have hi' : (j - 2) / 2 < r.length := by simp at hi; omega
            rw [ih (j - 2) hi']
            have e1 : j / 2 = (j - 2) / 2 + 1 := by omega
            have e2 : j % 2 = (j - 2) % 2 := by omega
            simp [e1, e2]
      rw [hget l j hi] at hv
      have := hall (j / 2) hi (j % 2) v hv
      rwa [addr_add, show j / 2 * 2 + j % 2 = j by omega] at this
theorem size_one {cs : Array Value} (h : cs.size = 1) : ∃ c0, cs = #[c0] := by
  obtain ⟨ls⟩ := cs
  match ls, h with
  | [a], _ => exact ⟨a, rfl⟩
set_option maxRecDepth 100000 in
/-- A map that came in. -/
theorem map_arg {H : Type} {enc : TypeId × Value → H} {W : World} {r : Reach} {b0 : Nat} {v : Value} {d : DataW H} {p : List MemPlace} (hv : Value.okWide Try.prog W r b0 24 v) (h : DataW.Trod enc Try.prog W 0 (fun _ => true) true 24 v d p) :
    ∃ A n c l, v = .agg #[.slice A n c] ∧ SqR W W.heap.size A n c l := by
  obtain ⟨cs, rfl, hsz⟩ := okWide_struct Try.underlying24 hv
  have hC : Try.prog.cellsOf 24 = 1 := by kernel_rfl
  obtain ⟨c0, rfl⟩ := size_one (hsz.trans hC)
  obtain ⟨fuel, hf⟩ := h
  obtain ⟨y0, n, _, _, h0⟩ := trod_struct1 Try.underlying24 hf
  have k1 : Try.prog.cellsOf 22 = 1 := by kernel_rfl
  simp only [Value.cells, k1, List.drop_zero, List.take_succ_cons, List.take_zero] at h0
  obtain ⟨A, n, c, l, rfl, hs⟩ := rows_arg h0
  exact ⟨A, n, c, l, rfl, hs⟩
end Go.Proofs.Ytkdmlffnkomdhaa
namespace Go.Proofs.Ytkdmlffnkomdhaa
set_option linter.unusedVariables false
set_option linter.unusedSimpArgs false
open Go.RowKit Go.WideShapes Go.ChangeShapes Go.Deep

/-- A slice of rows that came in. -/
theorem chgs_arg {H : Type} {enc : TypeId × Value → H} {W : World} {fuel : Nat} {v : Value} {x : DataW H × List MemPlace} (hf : DataW.trod enc Try.prog W 0 (fun _ => true) true fuel 34 [v] = some x) :
    ∃ A n c l, v = .slice A n c ∧ SqC W W.heap.size A n c l := by
  have hC : Try.prog.cellsOf 81 = 3 := by kernel_rfl
  rcases open_slice Try.underlying34 hf with ⟨hcs, _⟩ | ⟨ad, len, cap, m, nn, D, Pl, hcs, _, hl, hm, hmm, _, hx⟩
  · injection hcs with hcs
    exact ⟨none, 0, 0, [], hcs, Sq.nil_ ch_sz⟩
  · injection hcs with hcs
    simp only [if_true] at hmm
    subst hmm
    have each : ∀ i, i < len → ∃ a : Ch, ∀ j v, a.cells[j]? = some v → W.cell? (ad.add (i * 3 + j)) = some v := by
      intro i hi
      obtain ⟨cs', hcell, ht⟩ := hx i (by omega)
      rw [hC] at hcell
      obtain ⟨_, hcl, hat⟩ := World.cells?_some hcell
      obtain ⟨c0, c1, c2, rfl⟩ : ∃ c0 c1 c2, cs' = [c0, c1, c2] := by
        match cs', hcl with
        | [a, b, c], _ => exact ⟨a, b, c, rfl⟩
      obtain ⟨y0, y1, y2, n', _, _, h0, h1, h2⟩ := trod_struct3 Try.underlying81 ht
      have k9 : Try.prog.cellsOf 9 = 1 := by kernel_rfl
      have k8 : Try.prog.cellsOf 4 = 1 := by kernel_rfl
      simp only [k8, k9, List.drop_zero, List.take_succ_cons, List.take_zero, List.drop_succ_cons] at h0 h1 h2
      obtain ⟨s0, e0, _, _⟩ := DataW.trod_string Try.underlying9 h0
      obtain ⟨s1, e1, _, _⟩ := DataW.trod_bool Try.underlying4 h1
      obtain ⟨s2, e2, _, _⟩ := DataW.trod_string Try.underlying9 h2
      injection e0 with e0
      injection e1 with e1
      injection e2 with e2
      refine ⟨⟨s0, s1, s2⟩, fun j v hj => ?_⟩
      have hj3 : j < 3 := by have := (List.getElem?_eq_some_iff.1 hj).1; simpa [Ch.cells] using this
      have := hat j hj3
      rw [Go.Deep.add_add] at this
      rw [this, ← hj, e0, e1, e2]
      rfl
    obtain ⟨b, o, s⟩ := ad
    rcases Nat.eq_zero_or_pos len with hn0 | hn0
    · subst hn0
      exact ⟨_, 0, _, [], hcs, rfl, hl, hm, (fun e => by cases e), ch_sz, fun h => absurd h (by omega)⟩
    · obtain ⟨a0, ha0⟩ := each 0 hn0
      have hs : s = none := by
        have := ha0 0 _ rfl
        simpa [Addr.add] using World.cell?_spot this
      subst hs
      have hlt : b < W.heap.size := by
        have := ha0 0 _ rfl
        exact World.block_lt_of_cell? W _ this
      obtain ⟨l, hlen, hall⟩ : ∃ l : List Ch, l.length = len ∧ ∀ i (h : i < l.length), ∀ j v, l[i].cells[j]? = some v → W.cell? ((⟨b, o, none⟩ : Addr).add (i * 3 + j)) = some v := by
        refine ⟨(List.range len).attach.map fun i => (each i.1 (List.mem_range.1 i.2)).choose, by simp, fun i hi j v hv => ?_⟩
        have hjn : i < len := by simpa using hi
        simp only [List.getElem_map, List.getElem_attach, List.getElem_range] at hv
        exact (each i hjn).choose_spec j v hv
      refine ⟨_, len, _, l, hcs, hlen, hl, hm, (fun e => by cases e), ch_sz, fun _ => ⟨b, o, rfl, hlt, fun j v hv => ?_⟩⟩
      have hjl : j < l.length * 3 := by rw [← flat_len ch_sz l]; exact (List.getElem?_eq_some_iff.1 hv).1
      have hi : j / 3 < l.length := by omega
      have hget : ∀ (l : List Ch) (j : Nat) (hi : j / 3 < l.length), (l.flatMap Ch.cells)[j]? = (l[j / 3]).cells[j % 3]? := by
        intro l
        induction l with
        | nil => intro j hi; simp at hi
        | cons x r ih =>
          intro j hi
          rw [List.flatMap_cons]
          by_cases hj3 : j < 3
          · have e1 : j / 3 = 0 := by omega
            have e2 : j % 3 = j := by omega
            rw [List.getElem?_append_left (by rw [ch_sz]; exact hj3)]
            simp [e1, e2]
          · rw [List.getElem?_append_right (by rw [ch_sz]; omega), ch_sz]
            have hi' : (j - 3) / 3 < r.length := by simp at hi; omega
            rw [ih (j - 3) hi']
            have e1 : j / 3 = (j - 3) / 3 + 1 := by omega
            have e2 : j % 3 = (j - 3) % 3 := by omega
            simp [e1, e2]
      rw [hget l j hi] at hv
      have := hall (j / 3) hi (j % 3) v hv
      rwa [addr_add, show j / 3 * 3 + j % 3 = j by omega] at this
set_option maxRecDepth 100000 in
/-- A map that came in. -/
theorem edit_arg {H : Type} {enc : TypeId × Value → H} {W : World} {r : Reach} {b0 : Nat} {v : Value} {d : DataW H} {p : List MemPlace} (hv : Value.okWide Try.prog W r b0 36 v) (h : DataW.Trod enc Try.prog W 0 (fun _ => true) true 36 v d p) :
    ∃ A n c l, v = .agg #[.slice A n c] ∧ SqC W W.heap.size A n c l := by
  obtain ⟨cs, rfl, hsz⟩ := okWide_struct Try.underlying36 hv
  have hC : Try.prog.cellsOf 36 = 1 := by kernel_rfl
  obtain ⟨c0, rfl⟩ := size_one (hsz.trans hC)
  obtain ⟨fuel, hf⟩ := h
  obtain ⟨y0, n, _, _, h0⟩ := trod_struct1 Try.underlying36 hf
  have k1 : Try.prog.cellsOf 34 = 1 := by kernel_rfl
  simp only [Value.cells, k1, List.drop_zero, List.take_succ_cons, List.take_zero] at h0
  obtain ⟨A, n, c, l, rfl, hs⟩ := chgs_arg h0
  exact ⟨A, n, c, l, rfl, hs⟩
end Go.Proofs.Ytkdmlffnkomdhaa
