/-
  LOGS: lists of entries one behind the other, in a row of one's own.
-/
import Derived.Test.YtgdcahakefmakaaGi
import Derived.Lib.AppendZeros
namespace Go.Proofs.Ytgdcahakefmakaa
set_option linter.unusedVariables false
set_option linter.unusedSimpArgs false
open Go.RowKit Go.WideShapes Go.ChangeShapes Go.Deep Go.Shelf
attribute [local irreducible] wpQuiet

theorem own_sq {α : Type} {f : α → List Value} {k : Nat} {w : World} {base : Nat} {e : TypeId} {A : Option Addr} {n c : Nat} {l : List α} (h : w.ownsRow base e k (.slice A n c) n (l.flatMap f)) (hs : ∀ x, (f x).length = k) (hk : 0 < k) : Sq f k w w.heap.size A n c l := by
  have hn : l.length = n := by
    have h1 := h.1
    rw [flat_len hs] at h1
    exact Nat.eq_of_mul_eq_mul_right hk h1
  rcases h.2 with ⟨h2, h3⟩ | ⟨g, cap, cur, h2, hb, hg, hnc, hcm, hcs, htk⟩
  · injection h2 with h4 h5 h6
    subst h3 h4 h6
    obtain rfl := List.eq_nil_of_length_eq_zero hn
    exact Sq.nil_ hs
  · injection h2 with h4 h5 h6
    subst h4 h6
    refine ⟨hn, hnc, hcm, (fun e => by cases e), hs, fun _ => ⟨g, 0, rfl, (Array.getElem?_eq_some_iff.1 hg).1, fun j u hu => ?_⟩⟩
    have := h.cells (g := g) rfl j u hu
    rwa [addr_add] at this
/-- Rows behind one's own: nil, empty or not. -/
theorem wpList_append_sq {α : Type} {f : α → List Value} {k : Nat} {P : Program} {w : World} {ops : Array Oper} {rest : List Oper} {o : Oper} {a : Act} {Q : Exit → Act → World → Prop} (hgd : o.guard = none) (s x : Operand) (t : TypeId)
    (ho : o.op = .call { callee := .builtin .append, args := #[s, x], argTypes := #[t, t] })
    (base : Nat) (e : TypeId) (i : TypeInfo) (z : Value) (bytes : Nat) (ht : P.underlying t = some (.slice e)) (hi : P.info? e = some i) (hz : i.zero = some z) (hsize : i.size = k) (hby : i.bytes = bytes) (hzs : z.cells.size = k) (hk : 0 < k)
    (v : Value) (n : Nat) (l0 : List α) (hs : a.eval s = v) (hown : w.ownsRow base e k v n (l0.flatMap f))
    {B : Nat} {A : Option Addr} {m c : Nat} {l : List α} (hx : a.eval x = .slice A m c) (hr : Sq f k w B A m c l) (h1 : ∀ u ∈ l.flatMap f, u.oneCell' = true) (h63 : n + m ≤ 1000000) (hb : bytes ≤ 1000) (hbase : base ≤ w.heap.size)
    (h : ∀ v' w', w'.ownsRow base e k v' (n + m) ((l0 ++ l).flatMap f) → w.grownBy w' v.ownBlock → wpList P ops Q rest (a.put o.dst v') w') : wpList P ops Q (o :: rest) a w := by
  rcases A with _ | ad
  · obtain rfl : c = 0 := by have := hr.non rfl; omega
    obtain rfl : m = 0 := by have := hr.cap; omega
    obtain rfl : l = [] := List.eq_nil_of_length_eq_zero hr.len
    exact wpList_append_own_none hgd s x t ho base e i k ht hi v n _ hs hown hx (h v w (by simpa using hown) (only_refl _ _))
  · have hc : ∀ j u, (l.flatMap f)[j]? = some u → w.cell? (ad.add j) = some u := by
      intro j u hu
      rcases Nat.eq_zero_or_pos m with h0 | h0
      · subst h0
        obtain rfl : l = [] := List.eq_nil_of_length_eq_zero hr.len
        simp at hu
      · obtain ⟨b, o', e', hlt, hc⟩ := hr.pos h0
        injection e' with e'
        subst e'
        rw [addr_add]
        exact hc j u hu
    refine wpList_append_own w hgd s x t ho base e i z k bytes ht hi hz hsize hby hzs hk v n _ hs hown ad m c (l.flatMap f) hx (by rw [flat_len hr.sz, hr.len]) hc h1 (by unfold maxLen; omega) (Nat.le_trans (Nat.mul_le_mul h63 hb) (by omega)) hbase fun v' w' h2 h3 _ => h v' w' (by rw [List.flatMap_append]; exact h2) h3
theorem own_base {w : World} {base base' : Nat} {e : TypeId} {k : Nat} {v : Value} {n : Nat} {xs : List Value} (h : w.ownsRow base e k v n xs) (hb : base' ≤ base) : w.ownsRow base' e k v n xs := by
  rcases h with ⟨h1, h2 | ⟨g, cap, cur, h2, h3, h4⟩⟩
  · exact ⟨h1, .inl h2⟩
  · exact ⟨h1, .inr ⟨g, cap, cur, h2, Nat.le_trans hb h3, h4⟩⟩
theorem own_shape {w : World} {base : Nat} {e : TypeId} {k : Nat} {v : Value} {n : Nat} {xs : List Value} (h : w.ownsRow base e k v n xs) : ∃ A c, v = .slice A n c := by
  rcases h.2 with ⟨rfl, rfl⟩ | ⟨g, cap, cur, rfl, _⟩
  · exact ⟨none, 0, rfl⟩
  · exact ⟨_, cap, rfl⟩
theorem info_en : (Try.prog.info? 44).map (fun i => (i.zero, i.size, i.bytes)) = some (some (.agg zEn.cells.toArray), 3, 40) := by kernel_rfl
theorem run_grow (w : World) (n : Nat) (h0 : 0 < n) (hn : n ≤ 100000) : ∃ c w', (Builtin.append_ #[25, 3] 25 #[.slice none 0 0, .int .i64 n]).run Try.prog w = .ok (.slice (some ⟨w.heap.size, 0, none⟩) n c) w' ∧ w'.ownsRow w.heap.size 44 3 (.slice (some ⟨w.heap.size, 0, none⟩) 0 c) 0 [] ∧ n ≤ c ∧ c ≤ maxLen ∧ Below w.heap.size w w' := by
  obtain ⟨i0, hi, hz, hz1, hz2⟩ := info_parts info_en
  have hr := Lib.run_append_nil_zeros w 25 3 25 44 i0 _ .i64 .i64 Try.underlying25 Try.underlying3 hi hz n h0 (by omega) (by omega) (by rw [hz2]; omega)
  have hge := grownCap_ge w n 0 44
  have hle := grownCap_le_maxLen w n 0 44 (by unfold maxLen; omega)
  refine ⟨_, _, hr, ⟨rfl, .inr ⟨w.heap.size, grownCap w n 0 44, _, rfl, Nat.le_refl _, heap_alloc_new w.drew _, Nat.zero_le _, hle, ?_, by simp⟩⟩, hge, hle, ?_⟩
  · have e1 : ∀ k, (Builtin.zeroCells (Value.agg zEn.cells.toArray).cells k).size = k * 3 := fun k => by
      have : (Value.agg zEn.cells.toArray).cells.size = 3 := rfl
      simp [Builtin.zeroCells, this]
    rw [Array.size_append, e1, e1, ← Nat.add_mul, Nat.add_sub_cancel' hge]
  · exact (Below.refl _ _).drew.trans ((Below.refl w.heap.size w.drew).alloc (Nat.le_refl _) _)
set_option maxRecDepth 100000 in
set_option maxHeartbeats 1000000 in
theorem Grow_any (w : World) (n : Nat) (hn : n ≤ 100000) : Calls Try.prog 60 #[.slice none 0 0, .int .i64 (n : Int)] w fun e w' => ∃ A c, e = .returned (.slice A 0 c) ∧ w'.ownsRow w.heap.size 44 3 (.slice A 0 c) 0 [] ∧ Below w.heap.size w w' := by
  by_cases h0 : 0 < n
  · obtain ⟨c, w', hr, ho, h1, h2, hb⟩ := run_grow w n h0 hn
    have d0 : decide ((0 : Int) < (n : Int)) = true := by simpa using h0
    have d1 : decide (0 < n) = true := by simpa using h0
    have HO := Lib.hid ho
    have HB := Lib.hid hb
    have HR := Lib.hid hr

    clear ho hb hr h1 h2
    go_enter Try.func60, Try.ntmps60
    go_wp2_with (first | (at_builtin; refine Lib.wpList_append_run w rfl (.tmp 20) (.tmp 21) 25 3 rfl (.slice none 0 0) (.int .i64 (n : Int)) rfl rfl _ _ HR.out ?_) | fail)
    go_ret
    exact ⟨_, _, rfl, HO.out, HB.out⟩
  · obtain rfl : n = 0 := by omega
    go_enter Try.func60, Try.ntmps60
    go_wp2_with fail
    go_ret
    exact ⟨_, _, rfl, World.ownsRow_nil _ _ _ _, Below.refl _ _⟩
end Go.Proofs.Ytgdcahakefmakaa
