/-
  THE ARGUMENTS OF STAGE 2's STATEMENTS: acts; what six sectors hold.
-/
import Derived.Test.YtionbjocfepkaaaLawb
namespace Go.Proofs.Ytionbjocfepkaaa
set_option linter.unusedVariables false
open Go.RowKit Go.WideShapes Go.ChangeShapes Go.Deep

/-- A slice of acts. -/
structure Acts (w : World) (B : Nat) (A : Option Addr) (n c : Nat) (l : List Ac) : Prop where
  len : l.length = n
  cap : n ≤ c
  max : c ≤ maxLen
  pos : 0 < n → ∃ b o, A = some ⟨b, o, none⟩ ∧ b < B ∧ ∀ j (h : j < l.length), w.rangeAt b (o + j * 4) l[j].cells
  ok : ∀ a ∈ l, a.Ok w B
theorem Acts.below {w w' : World} {B : Nat} {A : Option Addr} {n c : Nat} {l : List Ac} (h : Acts w B A n c l) (hb : Below B w w') : Acts w' B A n c l :=
  ⟨h.len, h.cap, h.max, fun hn => by
    obtain ⟨b, o, e, hlt, hc⟩ := h.pos hn
    exact ⟨b, o, e, hlt, fun j hj => rangeAt_keep (hc j hj) (hb.block b hlt)⟩, fun a ha => ⟨(h.ok a ha).n, (h.ok a ha).ks.below hb⟩⟩
theorem Acts.take {w : World} {B : Nat} {A : Option Addr} {n c : Nat} {l : List Ac} (h : Acts w B A n c l) {k : Nat} (hk : k ≤ n) : Acts w B A k c (l.take k) :=
  ⟨by have := h.len; simp; omega, by have := h.cap; omega, h.max, fun hn => by
    obtain ⟨b, o, e, hlt, hc⟩ := h.pos (by omega)
    refine ⟨b, o, e, hlt, fun j hj => ?_⟩
    rw [List.length_take] at hj
    rw [List.getElem_take]
    exact hc j (by omega), fun a ha => h.ok a (List.mem_of_mem_take ha)⟩
theorem acts_arg {H : Type} {enc : TypeId × Value → H} {W : World} {r : Reach} {b0 : Nat} {v : Value} {d : DataW H} {p : List MemPlace} (hv : Value.okWide Try.prog W r b0 22 v) (h : DataW.Trod enc Try.prog W 0 (fun _ => true) true 22 v d p) :
    ∃ A n c l, v = .slice A n c ∧ Acts W W.heap.size A n c l := by
  obtain ⟨A, n, c, rfl⟩ := okWide_slice Try.underlying22 hv
  obtain ⟨fuel, hf⟩ := h
  have hC : Try.prog.cellsOf 35 = 4 := by kernel_rfl
  rcases open_slice Try.underlying22 hf with ⟨hcs, _⟩ | ⟨ad, len, cap, m, nn, D, Pl, hcs, _, hl, hm, hmm, _, hx⟩
  · simp [Value.cells] at hcs
    obtain ⟨rfl, rfl, rfl⟩ := hcs
    exact ⟨none, 0, 0, [], rfl, rfl, Nat.le_refl _, Nat.zero_le _, fun h => absurd h (by omega), fun a ha => by cases ha⟩
  · simp [Value.cells] at hcs
    obtain ⟨rfl, rfl, rfl⟩ := hcs
    simp only [if_true] at hmm
    subst hmm
    have each : ∀ i, i < n → ∃ a : Ac, (∀ j v, a.cells[j]? = some v → W.cell? (ad.add (i * 4 + j)) = some v) ∧ a.Ok W W.heap.size := by
      intro i hi
      obtain ⟨cs', hcell, ht⟩ := hx i (by omega)
      rw [hC] at hcell
      obtain ⟨_, hcl, hat⟩ := World.cells?_some hcell
      obtain ⟨c0, c1, c2, c3, rfl⟩ : ∃ c0 c1 c2 c3, cs' = [c0, c1, c2, c3] := by
        match cs', hcl with
        | [a, b, c, d], _ => exact ⟨a, b, c, d, rfl⟩
      obtain ⟨y0, y1, y2, y3, n', _, _, h0, h1, h2, h3⟩ := Go.Joins.trod_struct4 Try.underlying35 ht
      have k3 : Try.prog.cellsOf 3 = 1 := by kernel_rfl
      have k5 : Try.prog.cellsOf 5 = 1 := by kernel_rfl
      have k34 : Try.prog.cellsOf 33 = 1 := by kernel_rfl
      simp only [k3, k5, k34, List.drop_zero, List.take_succ_cons, List.take_zero, List.drop_succ_cons] at h0 h1 h2 h3
      obtain ⟨a, ha, hok⟩ := act_cells h0 h1 h2 h3
      refine ⟨a, fun j v hj => ?_, hok⟩
      rw [ha] at hj
      have hj4 : j < 4 := by have := (List.getElem?_eq_some_iff.1 hj).1; simpa using this
      have := hat j hj4
      rw [Go.Deep.add_add] at this
      rw [this, hj]
    obtain ⟨b, o, s⟩ := ad
    rcases Nat.eq_zero_or_pos n with hn0 | hn0
    · subst hn0
      exact ⟨_, 0, _, [], rfl, rfl, hl, hm, fun h => absurd h (by omega), fun a ha => by cases ha⟩
    · obtain ⟨a0, ha0, _⟩ := each 0 hn0
      have hs : s = none := by
        have := ha0 0 _ rfl
        simpa [Addr.add] using World.cell?_spot this
      subst hs
      have hlt : b < W.heap.size := by
        have := ha0 0 _ rfl
        exact World.block_lt_of_cell? W _ this
      refine ⟨_, n, _, (List.range n).attach.map fun i => (each i.1 (List.mem_range.1 i.2)).choose, rfl, by simp, hl, hm, fun _ => ⟨b, o, rfl, hlt, fun j hj => ?_⟩, fun a ha => ?_⟩
      · intro i v hv
        have hjn : j < n := by simpa using hj
        have hsp := (each j hjn).choose_spec.1
        simp only [List.getElem_map, List.getElem_attach, List.getElem_range] at hv
        have := hsp i v hv
        rwa [addr_add, ← Nat.add_assoc] at this
      · simp only [List.mem_map, List.mem_attach, true_and] at ha
        obtain ⟨i, rfl⟩ := ha
        exact (each i.1 (List.mem_range.1 i.2)).choose_spec.2

theorem some_any (A : Option Addr) (n c : Nat) (hn : n ≤ c) (hc : c ≤ maxLen) (w : World) :
    Calls Try.prog 8 #[.slice A n c] w fun e w' => e = .returned (.slice A (min n 100) c) ∧ w = w' := by
  unfold maxLen at hc
  have hn0 : (0 : Int) ≤ (n : Int) := Int.natCast_nonneg _
  by_cases h : n ≤ 100
  · have h' : (n : Int) ≤ 100 := by omega
    rw [Nat.min_eq_left h]
    go_enter Try.func8, Try.ntmps8
    go_wp2
    go_ret
    exact ⟨rfl, rfl⟩
  · have h' : (100 : Int) < (n : Int) := by omega
    rw [Nat.min_eq_right (by omega)]
    go_enter Try.func8, Try.ntmps8
    go_wp2
    go_ret
    exact ⟨rfl, rfl⟩
end Go.Proofs.Ytionbjocfepkaaa
