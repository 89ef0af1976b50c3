/-
  STAGE 5's STATEMENTS: a map, and an edit, in memory of its own.
-/
import Derived.Test.YtjcegafidiifkaaPj
namespace Go.Proofs.Ytjcegafidiifkaa
set_option linter.unusedVariables false
set_option linter.unusedSimpArgs false
open Go.RowKit Go.WideShapes Go.ChangeShapes Go.Deep

/-- Rows behind one's own: nil, empty or not. -/
theorem wpList_append_sq {α : Type} {f : α → List Value} {k : Nat} {P : Program} {w : World} {ops : Array Oper} {rest : List Oper} {o : Oper} {a : Act} {Q : Exit → Act → World → Prop} (hgd : o.guard = none) (s x : Operand) (t : TypeId)
    (ho : o.op = .call { callee := .builtin .append, args := #[s, x], argTypes := #[t, t] })
    (base : Nat) (e : TypeId) (i : TypeInfo) (z : Value) (bytes : Nat) (ht : P.underlying t = some (.slice e)) (hi : P.info? e = some i) (hz : i.zero = some z) (hsize : i.size = k) (hby : i.bytes = bytes) (hzs : z.cells.size = k) (hk : 0 < k)
    (v : Value) (n : Nat) (l0 : List α) (hs : a.eval s = v) (hown : w.ownsRow base e k v n (l0.flatMap f))
    {B : Nat} {A : Option Addr} {m c : Nat} {l : List α} (hx : a.eval x = .slice A m c) (hr : Sq f k w B A m c l) (h1 : ∀ u ∈ l.flatMap f, u.oneCell' = true) (h63 : n + m ≤ 1000000) (hb : bytes ≤ 1000) (hbase : base ≤ w.heap.size)
    (h : ∀ v' w', w'.ownsRow base e k v' (n + m) ((l0 ++ l).flatMap f) → w.grownBy w' v.ownBlock → wpList P ops Q rest (a.put o.dst v') w') : wpList P ops Q (o :: rest) a w := by
  rcases A with _ | ad
  · obtain rfl : c = 0 := by have := hr.non rfl; omega
    obtain rfl : m = 0 := by have := hr.cap; omega
    obtain rfl : l = [] := List.eq_nil_of_length_eq_zero hr.len
    exact wpList_append_own_none hgd s x t ho base e i k ht hi v n _ hs hown hx (h v w (by simpa using hown) (only_refl _ _))
  · have hc : ∀ j u, (l.flatMap f)[j]? = some u → w.cell? (ad.add j) = some u := by
      intro j u hu
      rcases Nat.eq_zero_or_pos m with h0 | h0
      · subst h0
        obtain rfl : l = [] := List.eq_nil_of_length_eq_zero hr.len
        simp at hu
      · obtain ⟨b, o', e', hlt, hc⟩ := hr.pos h0
        injection e' with e'
        subst e'
        rw [addr_add]
        exact hc j u hu
    refine wpList_append_own w hgd s x t ho base e i z k bytes ht hi hz hsize hby hzs hk v n _ hs hown ad m c (l.flatMap f) hx (by rw [flat_len hr.sz, hr.len]) hc h1 (by unfold maxLen; omega) (Nat.le_trans (Nat.mul_le_mul h63 hb) (by omega)) hbase fun v' w' h2 h3 _ => h v' w' (by rw [List.flatMap_append]; exact h2) h3
theorem own_base {w : World} {base base' : Nat} {e : TypeId} {k : Nat} {v : Value} {n : Nat} {xs : List Value} (h : w.ownsRow base e k v n xs) (hb : base' ≤ base) : w.ownsRow base' e k v n xs := by
  rcases h with ⟨h1, h2 | ⟨g, cap, cur, h2, h3, h4⟩⟩
  · exact ⟨h1, .inl h2⟩
  · exact ⟨h1, .inr ⟨g, cap, cur, h2, Nat.le_trans hb h3, h4⟩⟩
theorem own_shape {w : World} {base : Nat} {e : TypeId} {k : Nat} {v : Value} {n : Nat} {xs : List Value} (h : w.ownsRow base e k v n xs) : ∃ A c, v = .slice A n c := by
  rcases h.2 with ⟨rfl, rfl⟩ | ⟨g, cap, cur, rfl, _⟩
  · exact ⟨none, 0, rfl⟩
  · exact ⟨_, cap, rfl⟩

set_option maxRecDepth 100000 in
set_option maxHeartbeats 1600000 in
theorem copied_any {w : World} {A : Option Addr} {n c : Nat} {l : List Rw} (h : SqR w w.heap.size A n c l) (hn : n ≤ 1000000) :
    Calls Try.prog 12 #[.agg #[.slice A n c]] w fun e w' => ∃ A' c', e = .returned (.agg #[.slice A' n c']) ∧ w'.ownsRow w.heap.size 56 2 (.slice A' n c') n (l.flatMap Rw.cells) ∧ Below w.heap.size w w' := by
  obtain ⟨i0, hi, hz, hz1, hz2⟩ := info_parts info_row
  obtain ⟨w2, hw2⟩ : ∃ w2, (w.alloc (.cells #[.slice A n c] 24)).alloc (.cells #[.slice none 0 0] 24) = w2 := ⟨_, rfl⟩
  have B2 : Hid (Below w.heap.size w w2) := Lib.hid (by rw [← hw2]; exact ((Below.refl _ _).alloc (Nat.le_refl _) _).alloc (by simp) _)
  have X0 : Hid (Lies w2 w.heap.size 1 [.slice A n c]) := Lib.hid (by rw [← hw2]; exact (Lies.new w [.slice A n c] 24).alloc _)
  have X1 : Hid (Lies w2 (w.heap.size + 1) 1 [.slice none 0 0]) := Lib.hid (by
    rw [← hw2]
    have := Lies.new (w.alloc (.cells #[.slice A n c] 24)) [.slice none 0 0] 24
    rwa [World.size_alloc] at this)
  have Z2 : Hid (w2.heap.size = w.heap.size + 2) := Lib.hid (by rw [← hw2]; simp)
  have HS := Lib.hid (h.below B2.out)
  have HW := Lib.hid hw2
  clear hw2 h
  obtain ⟨w3, hw3⟩ : ∃ w3, w2.alloc (.cells #[] 56) = w3 := ⟨_, rfl⟩
  have B3 : Below w2.heap.size w2 w3 := by rw [← hw3]; exact (Below.refl _ _).alloc (Nat.le_refl _) _
  have h0 : w3.ownsRow w2.heap.size 56 2 (.slice (some ⟨w2.heap.size, 0, none⟩) 0 0) 0 ([].flatMap Rw.cells) := by
    rw [← hw3]
    exact World.ownsRow_made (base := w2.heap.size) (e := 56) (size := 2) w2 #[] 0 (Nat.le_refl _) (Nat.zero_le _) rfl
  have HB3 := Lib.hid B3
  have ht1 := HS.out.below (B3.mono B2.out.size)
  have hsz3 : w2.heap.size ≤ w3.heap.size := B3.size
  have HW3 := Lib.hid hw3
  clear hw3 B3
  go_enter Try.func12, Try.ntmps12
  go_upto_region 1 with fail
  rw [HW.out]
  clear HW
  have q0 := (X0.out.below HB3.out (by rw [Z2.out]; omega)).cell (j := 0) rfl
  rw [← HW3.out] at q0
  go_wp2_with
    first
    | (at_builtin; rw [HW3.out]; refine wpList_append_sq rfl (.tmp 3) (.tmp 5) 22 rfl w2.heap.size 56 i0 _ _ Try.underlying22 hi hz hz1 hz2 (by simp [Value.cells]) (by omega) _ 0 [] rfl h0 rfl ht1 (rw_one l) (by omega) (by omega) hsz3 ?_; intro v1 w4 hown hg; obtain ⟨A', c', rfl⟩ := own_shape hown; rw [Nat.zero_add] at hown ⊢; rw [List.nil_append] at hown; have B4 := HB3.out.trans (below_of_only (g := w2.heap.size) (B := w2.heap.size) hg (Nat.le_refl _) hsz3); have x0 := (X1.out.below B4 (by rw [Z2.out]; omega)).cell (j := 0) rfl; have x1 := (X1.out.below B4 (by rw [Z2.out]; omega)).frozen (j := 0) (by omega); have HOWN := Lib.hid hown; have HB4 := Lib.hid B4; clear hown hg B4)
    | fail
  have HF := World.cell?_setCell_same' w4 ⟨w.heap.size + 1, 0, none⟩ (.slice A' n c') (by rw [x0]; rfl)
  have HO1 := ownsRow_setCell_below HOWN.out (a := ⟨w.heap.size + 1, 0, none⟩) (by show w.heap.size + 1 < _; rw [Z2.out]; omega) (.slice A' n c')
  have HO2 := own_base (base' := w.heap.size) HO1 (by rw [Z2.out]; omega)
  have HBB := (B2.out.trans (HB4.out.mono B2.out.size)).setCell (p := ⟨w.heap.size + 1, 0, none⟩) (by show w.heap.size ≤ w.heap.size + 1; omega) (.slice A' n c')
  have HQ := Lib.hid HO2
  have HBQ := Lib.hid HBB
  clear HO1 HO2 HBB x0 x1
  refine bodyPost_ret (results_cell_mid rfl _ _ (w.heap.size + 1) 0 [.slice A' n c'] _ rfl ?_ Try.underlying24 rfl (by show _ = some 1; kernel_rfl)) rfl ⟨A', c', rfl, HQ.out, HBQ.out⟩
  intro j u hu
  rcases j with _ | j
  · obtain rfl : _ = u := by simpa using hu
    exact HF
  · simp at hu

set_option maxRecDepth 100000 in
set_option maxHeartbeats 1600000 in
theorem copiedE_any {w : World} {A : Option Addr} {n c : Nat} {l : List Ch} (h : SqC w w.heap.size A n c l) (hn : n ≤ 1000000) :
    Calls Try.prog 14 #[.agg #[.slice A n c]] w fun e w' => ∃ A' c', e = .returned (.agg #[.slice A' n c']) ∧ w'.ownsRow w.heap.size 38 3 (.slice A' n c') n (l.flatMap Ch.cells) ∧ Below w.heap.size w w' := by
  obtain ⟨i0, hi, hz, hz1, hz2⟩ := info_parts info_chg
  obtain ⟨w2, hw2⟩ : ∃ w2, (w.alloc (.cells #[.slice A n c] 27)).alloc (.cells #[.slice none 0 0] 27) = w2 := ⟨_, rfl⟩
  have B2 : Hid (Below w.heap.size w w2) := Lib.hid (by rw [← hw2]; exact ((Below.refl _ _).alloc (Nat.le_refl _) _).alloc (by simp) _)
  have X0 : Hid (Lies w2 w.heap.size 1 [.slice A n c]) := Lib.hid (by rw [← hw2]; exact (Lies.new w [.slice A n c] 27).alloc _)
  have X1 : Hid (Lies w2 (w.heap.size + 1) 1 [.slice none 0 0]) := Lib.hid (by
    rw [← hw2]
    have := Lies.new (w.alloc (.cells #[.slice A n c] 27)) [.slice none 0 0] 27
    rwa [World.size_alloc] at this)
  have Z2 : Hid (w2.heap.size = w.heap.size + 2) := Lib.hid (by rw [← hw2]; simp)
  have HS := Lib.hid (h.below B2.out)
  have HW := Lib.hid hw2
  clear hw2 h
  obtain ⟨w3, hw3⟩ : ∃ w3, w2.alloc (.cells #[] 38) = w3 := ⟨_, rfl⟩
  have B3 : Below w2.heap.size w2 w3 := by rw [← hw3]; exact (Below.refl _ _).alloc (Nat.le_refl _) _
  have h0 : w3.ownsRow w2.heap.size 38 3 (.slice (some ⟨w2.heap.size, 0, none⟩) 0 0) 0 ([].flatMap Ch.cells) := by
    rw [← hw3]
    exact World.ownsRow_made (base := w2.heap.size) (e := 38) (size := 3) w2 #[] 0 (Nat.le_refl _) (Nat.zero_le _) rfl
  have HB3 := Lib.hid B3
  have ht1 := HS.out.below (B3.mono B2.out.size)
  have hsz3 : w2.heap.size ≤ w3.heap.size := B3.size
  have HW3 := Lib.hid hw3
  clear hw3 B3
  go_enter Try.func14, Try.ntmps14
  go_upto_region 1 with fail
  rw [HW.out]
  clear HW
  have q0 := (X0.out.below HB3.out (by rw [Z2.out]; omega)).cell (j := 0) rfl
  rw [← HW3.out] at q0
  go_wp2_with
    first
    | (at_builtin; rw [HW3.out]; refine wpList_append_sq rfl (.tmp 3) (.tmp 5) 25 rfl w2.heap.size 38 i0 _ _ Try.underlying25 hi hz hz1 hz2 (by simp [Value.cells]) (by omega) _ 0 [] rfl h0 rfl ht1 (ch_one l) (by omega) (by omega) hsz3 ?_; intro v1 w4 hown hg; obtain ⟨A', c', rfl⟩ := own_shape hown; rw [Nat.zero_add] at hown ⊢; rw [List.nil_append] at hown; have B4 := HB3.out.trans (below_of_only (g := w2.heap.size) (B := w2.heap.size) hg (Nat.le_refl _) hsz3); have x0 := (X1.out.below B4 (by rw [Z2.out]; omega)).cell (j := 0) rfl; have x1 := (X1.out.below B4 (by rw [Z2.out]; omega)).frozen (j := 0) (by omega); have HOWN := Lib.hid hown; have HB4 := Lib.hid B4; clear hown hg B4)
    | fail
  have HF := World.cell?_setCell_same' w4 ⟨w.heap.size + 1, 0, none⟩ (.slice A' n c') (by rw [x0]; rfl)
  have HO1 := ownsRow_setCell_below HOWN.out (a := ⟨w.heap.size + 1, 0, none⟩) (by show w.heap.size + 1 < _; rw [Z2.out]; omega) (.slice A' n c')
  have HO2 := own_base (base' := w.heap.size) HO1 (by rw [Z2.out]; omega)
  have HBB := (B2.out.trans (HB4.out.mono B2.out.size)).setCell (p := ⟨w.heap.size + 1, 0, none⟩) (by show w.heap.size ≤ w.heap.size + 1; omega) (.slice A' n c')
  have HQ := Lib.hid HO2
  have HBQ := Lib.hid HBB
  clear HO1 HO2 HBB x0 x1
  refine bodyPost_ret (results_cell_mid rfl _ _ (w.heap.size + 1) 0 [.slice A' n c'] _ rfl ?_ Try.underlying27 rfl (by show _ = some 1; kernel_rfl)) rfl ⟨A', c', rfl, HQ.out, HBQ.out⟩
  intro j u hu
  rcases j with _ | j
  · obtain rfl : _ = u := by simpa using hu
    exact HF
  · simp at hu
end Go.Proofs.Ytjcegafidiifkaa
