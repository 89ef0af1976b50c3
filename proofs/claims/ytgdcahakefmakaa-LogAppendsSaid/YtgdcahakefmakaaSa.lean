/-
  THE LAWS' OWN: spoil writes over a log's entries, and over nothing else.
-/
import Derived.Test.YtgdcahakefmakaaGx
import Derived.Test.YtgdcahakefmakaaGs
import Derived.Laws.BitsAllLaws
namespace Go.Proofs.Ytgdcahakefmakaa
set_option linter.unusedVariables false
set_option linter.unusedSimpArgs false
open Go.RowKit Go.WideShapes Go.ChangeShapes Go.Deep Go.Shelf
attribute [local irreducible] wpQuiet

theorem own_poke_at {w : World} {base n k g n' c j : Nat} {e : TypeId} {xs : List Value} (h : w.ownsRow base e k (.slice (some ⟨g, 0, none⟩) n' c) n xs) (u : Value) : (w.setCell ⟨g, j, none⟩ u).ownsRow base e k (.slice (some ⟨g, 0, none⟩) n' c) n (xs.set j u) := by
  obtain ⟨hl, ⟨e1, _⟩ | ⟨g', cap, cur, e1, hb, hg, h1, h2, h3, h4⟩⟩ := h
  · cases e1
  · have e2 := e1
    injection e1 with e1
    injection e1 with e1
    injection e1 with e1
    subst e1
    refine ⟨by simpa using hl, .inr ⟨g, cap, cur.setIfInBounds j u, e2, hb, ?_, h1, h2, by simpa using h3, ?_⟩⟩
    · simp [World.setCell, Array.getElem?_modify, hg]
    · rw [Array.toList_setIfInBounds, List.take_set, h4]
theorem own_poke {w : World} {base n k g j m c : Nat} {e : TypeId} {A : Option Addr} {xs : List Value} (h : w.ownsRow base e k (.slice A m c) n xs) (u : Value) : ∃ xs', (xs' = xs ∨ xs' = xs.set j u) ∧ (w.setCell ⟨g, j, none⟩ u).ownsRow base e k (.slice A m c) n xs' := by
  have hk : ∀ b, Value.ownBlock (.slice A m c) = b → b ≠ some g → (w.setCell ⟨g, j, none⟩ u).ownsRow base e k (.slice A m c) n xs := fun b hb hne => by
    refine h.kept (row := some g) (only_set (only_refl w (some g)) rfl u) ?_
    rcases b with _ | b
    · exact .inl hb
    · right; rw [hb]; exact hne
  have h0 := h
  obtain ⟨hl, ⟨e1, _⟩ | ⟨g', cap, cur, e1, _⟩⟩ := h
  · exact ⟨xs, .inl rfl, hk none (by rw [e1]; rfl) (by simp)⟩
  · injection e1 with e1 e2 e3
    subst e1 e2 e3
    by_cases hbg : g' = g
    · subst hbg
      exact ⟨_, .inr rfl, own_poke_at h0 u⟩
    · exact ⟨xs, .inl rfl, hk (some g') rfl (fun hh => by injection hh with hh; exact hbg hh)⟩
theorem flat_set0 {v : Value} {x' : En} : ∀ {l : List En} {k : Nat} (h : k < l.length), (l[k].cells.set 0 v = x'.cells) → (l.flatMap En.cells).set (k * 3) v = (l.set k x').flatMap En.cells
  | a :: r, 0, _, e => by
    simp only [List.getElem_cons_zero] at e
    rw [List.flatMap_cons, List.set_cons_zero, List.flatMap_cons, ← e]
    rw [List.set_append_left _ _ (by rw [en_sz]; omega)]
  | a :: r, k + 1, h, e => by
    have ih := flat_set0 (l := r) (k := k) (by simpa using h) (by simpa using e)
    rw [List.flatMap_cons, List.set_cons_succ, List.flatMap_cons, ← ih]
    rw [List.set_append_right _ _ (by rw [en_sz]; omega), en_sz, show (k + 1) * 3 - 3 = k * 3 by omega]
theorem bvs_set (d : List UInt8) (j : Nat) (z : UInt8) : (bvs d).set j (bv z) = bvs (d.set j z) := by simp [bvs, List.map_set]
theorem all_ex {W : World} {base : Nat} : ∀ (l : List En), (∀ y ∈ l, ∃ d' : List UInt8, d'.length = y.d.length ∧ OwnB W base y.D.a y.D.n y.D.c d') →
    ∃ l' : List En, l'.map En.D = l.map En.D ∧ l'.flatMap En.cells = l.flatMap En.cells ∧ ∀ z ∈ l', OwnB W base z.D.a z.D.n z.D.c z.d ∧ ∃ y ∈ l, z.t = y.t ∧ z.k = y.k ∧ z.d.length = y.d.length
  | [], _ => ⟨[], rfl, rfl, fun _ h => by cases h⟩
  | y :: r, h => by
    obtain ⟨d', h1, h2⟩ := h y (by simp)
    obtain ⟨l', e1, e2, h3⟩ := all_ex r (fun z hz => h z (by simp [hz]))
    refine ⟨⟨y.t, y.k, y.D, d'⟩ :: l', by simp [e1], by rw [List.flatMap_cons, List.flatMap_cons, e2]; rfl, fun z hz => ?_⟩
    rcases List.mem_cons.1 hz with rfl | hz
    · exact ⟨h2, y, by simp, rfl, rfl, h1⟩
    · obtain ⟨q, y0, hy0, q1⟩ := h3 z hz
      exact ⟨q, y0, by simp [hy0], q1⟩
/-- A list whose entries may be written over, as it has become. -/
theorem OwnM.poke {w : World} {base n c : Nat} {A : Option Addr} {l : List En} (h : OwnM w base A n c l) {x : En} (hx : x ∈ l) {g j : Nat} (ha : x.D.a = some ⟨g, 0, none⟩) (hj : j < x.D.n) (z : UInt8) : ∃ l', OwnM (w.setCell ⟨g, j, none⟩ (bv z)) base A n c l' ∧ l'.map En.D = l.map En.D := by
  have hbx := h.f x hx
  have hblk : ∃ cs, Bl w g 5 cs := by
    obtain ⟨_, ⟨e1, e2⟩ | ⟨g', cap, cur, e1, _, hg, _⟩⟩ := hbx
    · omega
    · injection e1 with e1
      rw [ha] at e1
      injection e1 with e1
      injection e1 with e1
      subst e1
      exact ⟨cur.toList, hg⟩
  obtain ⟨cs, hcs⟩ := hblk
  have hrow := own_set h.row hcs (by decide) j (bv z)
  have key : ∀ y ∈ l, ∃ d', d'.length = y.d.length ∧ OwnB (w.setCell ⟨g, j, none⟩ (bv z)) base y.D.a y.D.n y.D.c d' := fun y hy => by
    obtain ⟨xs', e1 | e1, ho⟩ := own_poke (g := g) (j := j) (h.f y hy) (bv z)
    · subst e1
      exact ⟨y.d, rfl, ho⟩
    · subst e1
      rw [bvs_set] at ho
      exact ⟨y.d.set j z, by simp, ho⟩
  have := all_ex l key
  obtain ⟨l', e1, e2, h3⟩ := this
  refine ⟨l', ⟨by rw [e2]; exact hrow, fun y hy => (h3 y hy).1, fun y hy => ?_⟩, e1⟩
  obtain ⟨_, y0, hy0, q1, q2, q3⟩ := h3 y hy
  have hb := h.b y0 hy0
  exact ⟨by rw [q1]; exact hb.1, by rw [q2]; exact hb.2.1, by rw [q3]; exact hb.2.2⟩
/-- A Term, written over. -/
theorem OwnM.term {w : World} {base n c g : Nat} {l : List En} (h : OwnM w base (some ⟨g, 0, none⟩) n c l) {i : Nat} (hi : i < l.length) (u : Nat) (hu : u < 18446744073709551616) : OwnM (w.setCell ⟨g, i * 3, none⟩ (.int .u64 (u : Int))) base (some ⟨g, 0, none⟩) n c (l.set i ⟨u, l[i].k, l[i].D, l[i].d⟩) ∧ (l.set i ⟨u, l[i].k, l[i].D, l[i].d⟩).map En.D = l.map En.D := by
  have hlen := h.len
  have hblk : ∃ cs, Bl w g 44 cs := by
    obtain ⟨_, ⟨e1, e2⟩ | ⟨g', cap, cur, e1, _, hg, _⟩⟩ := h.row
    · cases e1
    · injection e1 with e1
      injection e1 with e1
      injection e1 with e1
      subst e1
      exact ⟨cur.toList, hg⟩
  obtain ⟨cs, hcs⟩ := hblk
  have hset : (l.flatMap En.cells).set (i * 3) (.int .u64 (u : Int)) = (l.set i ⟨u, l[i].k, l[i].D, l[i].d⟩).flatMap En.cells := flat_set0 hi rfl
  have hmem : ∀ x ∈ l.set i ⟨u, l[i].k, l[i].D, l[i].d⟩, ∃ y ∈ l, x.k = y.k ∧ x.D = y.D ∧ x.d = y.d ∧ (x.t = u ∨ x.t = y.t) := fun x hx => by
    rcases List.mem_or_eq_of_mem_set hx with hx | rfl
    · exact ⟨x, hx, rfl, rfl, rfl, .inr rfl⟩
    · exact ⟨l[i], List.getElem_mem hi, rfl, rfl, rfl, .inl rfl⟩
  refine ⟨⟨?_, fun x hx => ?_, fun x hx => ?_⟩, ?_⟩
  · have ho := own_poke_at (j := i * 3) h.row (.int .u64 (u : Int))
    rw [hset] at ho
    exact ho
  · obtain ⟨y, hy, q1, q2, q3, _⟩ := hmem x hx
    have := own_set (h.f y hy) hcs (by decide) (i * 3) (.int .u64 (u : Int))
    rw [q2, q3]
    exact this
  · obtain ⟨y, hy, q1, q2, q3, q4⟩ := hmem x hx
    have hb := h.b y hy
    exact ⟨by rcases q4 with q4 | q4 <;> rw [q4]; exact hu; exact hb.1, by rw [q1]; exact hb.2.1, by rw [q3]; exact hb.2.2⟩
  · apply List.ext_getElem?
    intro j
    rw [List.getElem?_map, List.getElem?_map]
    by_cases hij : i = j
    · subst hij
      rw [List.getElem?_set_self hi, List.getElem?_eq_getElem hi]
      rfl
    · rw [List.getElem?_set_ne hij]
theorem xor_ee (b : UInt8) : bits .xor .u8 (b.toNat : Int) 238 = ((b ^^^ 238).toNat : Int) := by
  have h := u8_xor_nat b.toNat 238 b.toNat_lt (by decide)
  rw [UInt8.toNat_xor]
  exact h
/-- The list as it is on its way, the Terms and Data whatever. -/
structure Spl (w : World) (base X i t : Nat) (A : Option Addr) (n c : Nat) (Ds : List Sl) (W : World) : Prop where
  ex : ∃ l', OwnM W base A n c l' ∧ l'.map En.D = Ds
  bel : Below base w W
  x : Bl W X 27 (lgC i t A n c)
section
variable {w W : World} {base X i t n c : Nat} {A : Option Addr} {Ds : List Sl}
theorem Spl.row (h : Spl w base X i t A n c Ds W) {k : Nat} {D : Sl} (hk : Ds[k]? = some D) : ∃ g, A = some ⟨g, 0, none⟩ ∧ W.cell? ⟨g, k * 3 + 2, none⟩ = some (.slice D.a D.n D.c) ∧ W.frozen? ⟨g, k * 3, none⟩ = false ∧ (∃ u, W.cell? ⟨g, k * 3, none⟩ = some u) ∧ k < n ∧ base ≤ g := by
  obtain ⟨l', h1, h2⟩ := h.ex
  have hkl : k < l'.length := by
    have := (List.getElem?_eq_some_iff.1 hk).1
    rw [← h2] at this
    simpa using this
  have hn := h1.len
  have hkn : k < n := by omega
  obtain ⟨b, o, hA, hb, hrg⟩ := h1.sq.s.at_ hkn
  obtain ⟨_, ⟨e1, _⟩ | ⟨g, cap, cur, e1, hgb, hg, _⟩⟩ := h1.row
  · rw [show A = none by injection e1] at hA; cases hA
  · injection e1 with e1 e2 e3
    subst e1
    injection hA with hA
    injection hA with hA1 hA2
    subst hA1 hA2
    have hd : (l'[k]'hkl).D = D := by
      rw [← h2, List.getElem?_map, List.getElem?_eq_getElem hkl] at hk
      injection hk
    refine ⟨g, rfl, ?_, ?_, ⟨.int .u64 ((l'[k]'hkl).t : Int), ?_⟩, hkn, hgb⟩
    · have := hrg 2 _ rfl
      rw [Nat.zero_add] at this
      rw [this, hd]
    · exact World.ownsRow.frozenAt h1.row (k * 3)
    · have := hrg 0 _ rfl
      rw [Nat.zero_add] at this
      exact this
theorem Spl.read (h : Spl w base X i t A n c Ds W) {D : Sl} (hD : D ∈ Ds) {j : Nat} (hj : j < D.n) : ∃ g z, D.a = some ⟨g, 0, none⟩ ∧ W.cell? ⟨g, j, none⟩ = some (bv z) ∧ W.frozen? ⟨g, j, none⟩ = false := by
  obtain ⟨l', h1, h2⟩ := h.ex
  rw [← h2] at hD
  obtain ⟨y, hy, rfl⟩ := List.mem_map.1 hD
  have ho := h1.f y hy
  have hlen : y.d.length = y.D.n := by have := ho.1; rw [bvs_len] at this; omega
  obtain ⟨_, ⟨e1, e2⟩ | ⟨g, cap, cur, e1, hgb, hg, _⟩⟩ := ho
  · omega
  · injection e1 with e1 e2 e3
    refine ⟨g, y.d[j]'(by omega), e1, ?_, ?_⟩
    · have ho2 := h1.f y hy
      rw [e1] at ho2
      rw [ho2.cellAt j (by omega)]
      simp [bvs, List.getElem?_eq_getElem (show j < y.d.length by omega)]
    · have ho2 := h1.f y hy
      rw [e1] at ho2
      exact ho2.frozenAt j
theorem Spl.poke (h : Spl w base X i t A n c Ds W) {D : Sl} (hD : D ∈ Ds) {j g : Nat} (hj : j < D.n) (ha : D.a = some ⟨g, 0, none⟩) (z : UInt8) : Spl w base X i t A n c Ds (W.setCell ⟨g, j, none⟩ (bv z)) := by
  obtain ⟨l', h1, h2⟩ := h.ex
  have hD' := hD
  rw [← h2] at hD
  obtain ⟨y, hy, rfl⟩ := List.mem_map.1 hD
  obtain ⟨l2, h3, h4⟩ := h1.poke hy ha hj z
  have hb : ∃ cs, Bl W g 5 cs ∧ base ≤ g := by
    obtain ⟨_, ⟨e1, e2⟩ | ⟨g', cap, cur, e1, hgb, hg, _⟩⟩ := h1.f y hy
    · omega
    · injection e1 with e1
      rw [ha] at e1
      injection e1 with e1
      injection e1 with e1
      subst e1
      exact ⟨cur.toList, hg, hgb⟩
  obtain ⟨cs, hcs, hgb⟩ := hb
  exact ⟨⟨l2, h3, h4.trans h2⟩, h.bel.setCell (p := ⟨g, j, none⟩) hgb _, h.x.far (p := ⟨g, j, none⟩) (bl_ne h.x hcs (by decide)) _⟩
theorem Spl.term {g : Nat} (h : Spl w base X i t (some ⟨g, 0, none⟩) n c Ds W) {k : Nat} {D : Sl} (hk : Ds[k]? = some D) (u : Nat) (hu : u < 18446744073709551616) : Spl w base X i t (some ⟨g, 0, none⟩) n c Ds (W.setCell ⟨g, k * 3, none⟩ (.int .u64 (u : Int))) := by
  obtain ⟨l', h1, h2⟩ := h.ex
  have hkl : k < l'.length := by
    have := (List.getElem?_eq_some_iff.1 hk).1
    rw [← h2] at this
    simpa using this
  obtain ⟨h3, h4⟩ := h1.term hkl u hu
  have hb : ∃ cs, Bl W g 44 cs ∧ base ≤ g := by
    obtain ⟨_, ⟨e1, e2⟩ | ⟨g', cap, cur, e1, hgb, hg, _⟩⟩ := h1.row
    · cases e1
    · injection e1 with e1
      injection e1 with e1
      injection e1 with e1
      subst e1
      exact ⟨cur.toList, hg, hgb⟩
  obtain ⟨cs, hcs, hgb⟩ := hb
  exact ⟨⟨_, h3, h4.trans h2⟩, h.bel.setCell (p := ⟨g, k * 3, none⟩) hgb _, h.x.far (p := ⟨g, k * 3, none⟩) (bl_ne h.x hcs (by decide)) _⟩
end
set_option maxRecDepth 100000 in
set_option maxHeartbeats 8000000 in
theorem spoil_any {w : World} {base : Nat} {A : Option Addr} {n c : Nat} {l : List En} (h : OwnM w base A n c l) (hb : base ≤ w.heap.size) (hn : n ≤ 1000) (i t : Nat) :
    Calls Try.prog 18 #[lgV i t A n c] w fun e w' => e = .returned (.tuple #[]) ∧ Below base w w' := by
  obtain ⟨w1, hw1⟩ : ∃ w1, (w.alloc (.cells #[.int .u64 (i : Int), .int .u64 (t : Int), .slice A n c] 27)) = w1 := ⟨_, rfl⟩
  have L0 : Bl w1 (w.heap.size) 27 [.int .u64 (i : Int), .int .u64 (t : Int), .slice A n c] := by
    rw [← hw1]
    have h := Bl.new w 27 [.int .u64 (i : Int), .int .u64 (t : Int), .slice A n c]
    (try simp only [World.size_alloc] at h)
    exact h
  have B1 : Below w.heap.size w w1 := by
    rw [← hw1]
    exact ((Below.refl _ _).alloc (by simp <;> omega) _)
  have Z1 : w1.heap.size = w.heap.size + 1 := by rw [← hw1]; simp
  have hlen := h.len
  have hqn : ∀ D ∈ l.map En.D, D.n ≤ 100000 := fun D hD => by
    obtain ⟨y, hy, rfl⟩ := List.mem_map.1 hD
    have h1 := (h.f y hy).1
    have h2 := (h.b y hy).2.2
    rw [bvs_len] at h1
    omega
  obtain ⟨Ds, hDs⟩ : ∃ Ds, l.map En.D = Ds := ⟨_, rfl⟩
  have hDl : Ds.length = n := by rw [← hDs]; simp; omega
  have S1 : Hid (Spl w base w.heap.size i t A n c Ds w1) := Lib.hid ⟨⟨l, h.below B1, hDs⟩, B1.mono hb, L0⟩
  have HW := Lib.hid hw1
  have HDL := Lib.hid hDl
  rw [hDs] at hqn
  have HQN := Lib.hid hqn
  clear h hb hw1 L0 B1 Z1 hDs hDl hqn hlen
  have hn63 : (n : Int) ≤ 9223372036854775807 := by omega
  go_enter Try.func18, Try.ntmps18
  go_upto_region 1 with fail
  rw [HW.out]
  have c2 := S1.out.x.cell 2
  simp only [lgC, List.getElem?_cons_zero, List.getElem?_cons_succ] at c2
  go_wp2_with fail
  clear c2
  go_loopw [7] (fun i1 wr => ∃ k : Nat, k ≤ n ∧ i1 = .int .i64 (k : Int) ∧ Hid (Spl w base w.heap.size i t A n c Ds wr)) (fun i1 _ => n - (intOf i1).toNat)
  case atStart => exact ⟨0, Nat.zero_le _, rfl, S1⟩
  case round =>
    obtain ⟨k, hk, rfl, hj⟩ := hrel
    have hk0 : (0 : Int) ≤ (k : Int) := Int.natCast_nonneg _
    by_cases hlt : k < n
    · have hd : decide ((k : Int) < (n : Int)) = true := by simp; omega
      have hk1 : (k : Int) < (n : Int) := by omega
      obtain ⟨D, hkD⟩ : ∃ D, Ds[k]? = some D := ⟨_, List.getElem?_eq_getElem (by rw [HDL.out]; exact hlt)⟩
      have hDm : D ∈ Ds := List.mem_of_getElem? hkD
      have hDn := HQN.out _ hDm
      obtain ⟨g, rfl, p2, -, -, -, -⟩ := hj.out.row hkD
      have c2 := hj.out.x.cell 2
      simp only [lgC, List.getElem?_cons_zero, List.getElem?_cons_succ] at c2
      have HKD := Lib.hid hkD
      have HDM := Lib.hid hDm
      obtain ⟨q, hq⟩ : ∃ q, D.n = q := ⟨_, rfl⟩
      rw [hq] at p2 hDn
      have HQ := Lib.hid hq
      have hq0 : (0 : Int) ≤ (q : Int) := Int.natCast_nonneg _
      have hkw : wrap64 ((k : Int) + 1) = (k : Int) + 1 := by unfold wrap64; omega
      clear hkD hDm hq
      go_upto_region 5 with fail
      clear c2 p2
      obtain ⟨wo, rfl⟩ : ∃ wo, wo = wr := ⟨_, rfl⟩
      go_loopw [17] (fun i2 wv => ∃ j : Nat, j ≤ q ∧ i2 = .int .i64 (j : Int) ∧ Hid (Spl w base w.heap.size i t (some ⟨g, 0, none⟩) n c Ds wv)) (fun i2 _ => q - (intOf i2).toNat)
      case atStart => exact ⟨0, Nat.zero_le _, rfl, hj⟩
      case round =>
        obtain ⟨j, hjq, rfl, hj2⟩ := hrel
        have hj0 : (0 : Int) ≤ (j : Int) := Int.natCast_nonneg _
        have HJ2 := hj2
        obtain ⟨g', e', p2, pf, ⟨u, pu⟩, -, -⟩ := hj2.out.row HKD.out
        injection e' with e'
        injection e' with e'
        subst e'
        have c2 := hj2.out.x.cell 2
        simp only [lgC, List.getElem?_cons_zero, List.getElem?_cons_succ] at c2
        by_cases hl2 : j < q
        · have hd2 : decide ((j : Int) < (q : Int)) = true := by simp; omega
          have hj1 : (j : Int) < (q : Int) := by omega
          obtain ⟨gd, z, ed, pz, pzf⟩ := hj2.out.read HDM.out (j := j) (by rw [HQ.out]; exact hl2)
          rw [ed] at p2
          rw [HQ.out] at p2
          have HP := Lib.hid (hj2.out.poke HDM.out (by rw [HQ.out]; exact hl2) ed (z ^^^ 238))
          have HX : Hid (Value.int .u8 (bits .xor .u8 (z.toNat : Int) 238) = bv (z ^^^ 238)) := Lib.hid (by rw [xor_ee]; rfl)
          simp only [bv] at pz
          have hjw : wrap64 ((j : Int) + 1) = (j : Int) + 1 := by unfold wrap64; omega
          clear pf pu ed
          go_wp2_with fail
          rw [HX.out]
          refine ⟨⟨j + 1, by omega, by go_num, HP⟩, ?_⟩
          simp [intOf]; omega
        · have hd2 : decide ((j : Int) < (q : Int)) = false := by simp; omega
          have HT := Lib.hid (hj2.out.term HKD.out 99 (by omega))
          rw [show ((99 : Nat) : Int) = 99 from rfl] at HT
          go_wp2_with fail
          refine ⟨⟨k + 1, by omega, by go_num, HT⟩, ?_⟩
          simp [intOf]; omega
    · have hd : decide ((k : Int) < (n : Int)) = false := by simp; omega
      go_wp2_with fail
      go_end0
      exact ⟨rfl, hj.out.bel⟩
end Go.Proofs.Ytgdcahakefmakaa
