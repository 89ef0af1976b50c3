/-
  PATHMAP: rows of one's own; the variable in which a map or an edit is made; both.
-/
import Derived.RangeFuncBox
import Derived.Deep.AppendLies
import Derived.Great.BuildSlice
import Derived.Great.FillDense
import Derived.Test.YtkdmlffnkomdhaaPi
import Derived.Test.YtkdmlffnkomdhaaRr
namespace Go.Proofs.Ytkdmlffnkomdhaa
set_option linter.unusedVariables false
set_option linter.unusedSimpArgs false
open Go.RowKit Go.WideShapes Go.ChangeShapes Go.Deep Go.Shelf

theorem own_sq {α : Type} {f : α → List Value} {k : Nat} {w : World} {base : Nat} {e : TypeId} {A : Option Addr} {n c : Nat} {l : List α} (h : w.ownsRow base e k (.slice A n c) n (l.flatMap f)) (hs : ∀ x, (f x).length = k) (hk : 0 < k) : Sq f k w w.heap.size A n c l := by
  have hn : l.length = n := by
    have h1 := h.1
    rw [flat_len hs] at h1
    exact Nat.eq_of_mul_eq_mul_right hk h1
  rcases h.2 with ⟨h2, h3⟩ | ⟨g, cap, cur, h2, hb, hg, hnc, hcm, hcs, htk⟩
  · injection h2 with h4 h5 h6
    subst h3 h4 h6
    obtain rfl := List.eq_nil_of_length_eq_zero hn
    exact Sq.nil_ hs
  · injection h2 with h4 h5 h6
    subst h4 h6
    refine ⟨hn, hnc, hcm, (fun e => by cases e), hs, fun _ => ⟨g, 0, rfl, (Array.getElem?_eq_some_iff.1 hg).1, fun j u hu => ?_⟩⟩
    have := h.cells (g := g) rfl j u hu
    rwa [addr_add] at this

/-- The variable in block b holds a slice v of one's own; of the world V only that block has turned. -/
structure Md (V : World) (b : Nat) (tm e : TypeId) (k : Nat) (v : Value) (n : Nat) (xs : List Value) (W : World) : Prop where
  bx : Boxed W b tm v
  own : W.ownsRow V.heap.size e k v n xs
  mv : Mv (fun x => x = b) V W
  lt : b < V.heap.size
section
variable {V W W' : World} {b : Nat} {tm e : TypeId} {k n : Nat} {v : Value} {xs : List Value}
theorem Md.turn (h : Md V b tm e k v n xs W) {row : Option Nat} (hg : W.grownBy W' row) (hr : ∀ r, row = some r → V.heap.size ≤ r ∧ ∃ o : Obj, W.heap[r]? = some o ∧ o.isCells = false) : Md V b tm e k v n xs W' := by
  refine ⟨h.bx.kept hg (fun e' => ?_), h.own.kept hg ?_, ?_, h.lt⟩
  · have := (hr b e'.symm).1
    have := h.lt
    omega
  · rcases h.own.2 with ⟨rfl, _⟩ | ⟨g, cap, cur, rfl, _, hgb, _⟩
    · exact .inl rfl
    · refine .inr fun e' => ?_
      obtain ⟨_, o, ho, hc⟩ := hr g (by simpa [Value.ownBlock] using e'.symm)
      rw [hgb] at ho; cases ho; cases hc
  · exact h.mv.then (S' := fun x => V.heap.size ≤ x) (Mv.of_grown hg fun g e' => .inl (hr g e').1) (fun x hx => .inr hx)
theorem Md.below (h : Md V b tm e k v n xs W) (hb : Below W.heap.size W W') : Md V b tm e k v n xs W' := h.turn (only_of_below hb none) (fun r e => by cases e)
/-- Behind an append, and the store of what it gives back. -/
theorem Md.app (h : Md V b tm e k v n xs W) {tmp : Obj} {w1 : World} {v' : Value} {m : Nat} {ys : List Value} (hown : w1.ownsRow V.heap.size e k v' m ys) (hg : (W.alloc tmp).grownBy w1 v.ownBlock) :
    Boxed w1 b tm v ∧ Md V b tm e k v' m ys (w1.setCell ⟨b, 0, none⟩ v') ∧ KeepsFrom V.heap.size W (w1.setCell ⟨b, 0, none⟩ v') ∧ Mv (fun x => x = b ∨ V.heap.size ≤ x) W (w1.setCell ⟨b, 0, none⟩ v') := by
  have hge : ∀ g, v.ownBlock = some g → V.heap.size ≤ g := fun g e' => (h.own.lt g e').1
  have hge' : ∀ g, v'.ownBlock = some g → V.heap.size ≤ g := fun g e' => (hown.lt g e').1
  have hlt := h.lt
  have hv1 : Boxed w1 b tm v := (h.bx.alloc tmp).kept hg (fun e' => by have := hge b e'.symm; omega)
  have hmv : Mv (fun x => x = b ∨ V.heap.size ≤ x) W (w1.setCell ⟨b, 0, none⟩ v') := by
    have h1 : Mv (fun x => x = b ∨ V.heap.size ≤ x) W (W.alloc tmp) := (Mv.refl _ _).alloc tmp
    have h2 : Mv (fun x => x = b ∨ V.heap.size ≤ x) (W.alloc tmp) w1 := Mv.of_grown hg fun g e' => .inl (.inr (hge g e'))
    exact (h1.trans h2).set_ (p := ⟨b, 0, none⟩) (.inl (.inl rfl)) v'
  refine ⟨hv1, ⟨hv1.set v', hown.kept (grownBy_setCell' w1 b v') ?_, h.mv.then hmv fun x hx => hx, h.lt⟩, ⟨hmv.size, fun j o hB hj hc => ?_⟩, hmv⟩
  · rcases hq : v'.ownBlock with _ | g
    · exact .inl rfl
    · exact .inr (fun e' => by injection e' with e'; have := hge' g hq; omega)
  · have hjl := (Array.getElem?_eq_some_iff.1 hj).1
    have h1 : (W.alloc tmp).heap[j]? = some o := (Below.heap_alloc W tmp j hjl).trans hj
    have h2 : w1.heap[j]? = some o := (hg.block j (by simp; omega) (fun e' => by
      rcases h.own.2 with ⟨rfl, _⟩ | ⟨g, cap, cur, rfl, _, hgb, _⟩
      · simp [Value.ownBlock] at e'
      · obtain rfl : j = g := by simpa [Value.ownBlock] using e'
        rw [hgb] at hj; cases hj; cases hc)).trans h1
    exact (Below.heap_setCell w1 ⟨b, 0, none⟩ v' j (fun e' => by have e2 : j = b := e'; omega)).trans h2
end
theorem md_own {V : World} {b : Nat} {tm e : TypeId} {k : Nat} {β : Type} (L : β → Nat) (X : β → List Value) : OwnFrom V.heap.size (fun (s : β) W => ∃ v, Md V b tm e k v (L s) (X s) W) := by
  rintro s W W' row ⟨v, h⟩ hg hr
  exact ⟨v, h.turn hg hr⟩

/-- A literal slice of one. -/
theorem one_row (r : Rw) (w : World) : (Instr.buildSlice 22 1 #[(0, rwV r)]).run Try.prog w = .ok (.slice (some ⟨w.heap.size, 0, none⟩) 1 1) (w.alloc (.cells r.cells.toArray 70)) := by
  obtain ⟨i0, hi, hz, hz1, hz2⟩ := info_parts info_row
  have hcl : r.cells.length = 2 := rfl
  have hs : (rwV r).cells.size = 2 := by simp [Value.cells]
  obtain ⟨x, hr, hrs, hrk⟩ := Great.fill_dense (s := 2) (by omega) [rwV r] 0 ((Array.range (1 * i0.size)).map ((rwV ⟨⟨#[]⟩, ⟨#[]⟩⟩).cells[· % (rwV ⟨⟨#[]⟩, ⟨#[]⟩⟩).cells.size]!)) (by intro v hv; simp at hv; subst hv; exact hs) (by rw [hz1]; simp)
  have hre : x = r.cells.toArray := by
    apply Array.ext_getElem?
    intro k
    rw [hrk k]
    by_cases hk : k < 2
    · rw [if_pos ⟨by omega, by simp; omega⟩]
      have h1 : k / 2 - 0 = 0 := by omega
      have h2 : k % 2 = k := by omega
      rw [h1, h2]
      simp [Value.cells, Rw.cells]
    · rw [if_neg (by simp; omega)]
      rw [Array.getElem?_eq_none (by simp [hz1]; omega), Array.getElem?_eq_none (by simp [hcl]; omega)]
  rw [hre] at hr
  exact run_buildSlice w _ _ 1 _ _ i0 _ Try.underlying22 hi hz (by rw [hz1]; omega) (by rw [hz1]; omega) (by rw [hz1] at hr ⊢; exact hr)
theorem wp_one_row {o : Oper} {a : Act} {w : World} {K : Act → World → Prop} {Q : Exit → Act → World → Prop} (x : Operand) (ho : o.op = .buildSlice 22 1 #[(0, x)]) (r : Rw) (hx : a.eval x = rwV r)
    (h : K (a.put o.dst (.slice (some ⟨w.heap.size, 0, none⟩) 1 1)) (w.alloc (.cells r.cells.toArray 70))) : o.wp Try.prog a w K Q := by
  unfold Oper.wp execOp
  simp only [ho, List.map_toArray, List.map_cons, List.map_nil, hx, one_row, Sem.run_bind, Result.andThen_ok]
  exact h

/-- A literal slice of one. -/
theorem one_chg (r : Ch) (w : World) : (Instr.buildSlice 34 1 #[(0, chV r)]).run Try.prog w = .ok (.slice (some ⟨w.heap.size, 0, none⟩) 1 1) (w.alloc (.cells r.cells.toArray 81)) := by
  obtain ⟨i0, hi, hz, hz1, hz2⟩ := info_parts info_chg
  have hcl : r.cells.length = 3 := rfl
  have hs : (chV r).cells.size = 3 := by simp [Value.cells]
  obtain ⟨x, hr, hrs, hrk⟩ := Great.fill_dense (s := 3) (by omega) [chV r] 0 ((Array.range (1 * i0.size)).map ((chV ⟨⟨#[]⟩, false, ⟨#[]⟩⟩).cells[· % (chV ⟨⟨#[]⟩, false, ⟨#[]⟩⟩).cells.size]!)) (by intro v hv; simp at hv; subst hv; exact hs) (by rw [hz1]; simp)
  have hre : x = r.cells.toArray := by
    apply Array.ext_getElem?
    intro k
    rw [hrk k]
    by_cases hk : k < 3
    · rw [if_pos ⟨by omega, by simp; omega⟩]
      have h1 : k / 3 - 0 = 0 := by omega
      have h2 : k % 3 = k := by omega
      rw [h1, h2]
      simp [Value.cells, Ch.cells]
    · rw [if_neg (by simp; omega)]
      rw [Array.getElem?_eq_none (by simp [hz1]; omega), Array.getElem?_eq_none (by simp [hcl]; omega)]
  rw [hre] at hr
  exact run_buildSlice w _ _ 1 _ _ i0 _ Try.underlying34 hi hz (by rw [hz1]; omega) (by rw [hz1]; omega) (by rw [hz1] at hr ⊢; exact hr)
theorem wp_one_chg {o : Oper} {a : Act} {w : World} {K : Act → World → Prop} {Q : Exit → Act → World → Prop} (x : Operand) (ho : o.op = .buildSlice 34 1 #[(0, x)]) (r : Ch) (hx : a.eval x = chV r)
    (h : K (a.put o.dst (.slice (some ⟨w.heap.size, 0, none⟩) 1 1)) (w.alloc (.cells r.cells.toArray 81))) : o.wp Try.prog a w K Q := by
  unfold Oper.wp execOp
  simp only [ho, List.map_toArray, List.map_cons, List.map_nil, hx, one_chg, Sem.run_bind, Result.andThen_ok]
  exact h

theorem Calm.normal {Q : Exit → Act → World → Prop} {a : Act} {w : World} (h : Q .normal a w) : Calm Q .normal a w := h

set_option maxHeartbeats 1600000 in
theorem bothRC_any (A : Option Addr) (n c : Nat) (A' : Option Addr) (n' c' : Nat) (w : World) : Calls Try.prog 58 #[tbR A n c, tbC A' n' c'] w fun e w' =>
    e = .returned (.func (.func 76) #[] #[.pointer (some ⟨w.heap.size, 0, none⟩), .pointer (some ⟨w.heap.size + 1, 0, none⟩)]) ∧ w' = (w.alloc (.cells #[.slice A n c, .func (.func 70) #[] #[]] 95)).alloc (.cells #[.slice A' n' c', .func (.func 78) #[] #[]] 106) := by
  go_enter Try.func58, Try.ntmps58
  go_wp2
  go_ret
  exact ⟨rfl, rfl⟩
theorem bothRC_stops (n : Nat) (hn1 : 1 ≤ n) {V : World} {Ba Bb n₀ : Nat} {Aa : Option Addr} {na ca : Nat} {la : List Rw} {Ab : Option Addr} {nb cb : Nat} {lb : List Ch} (hT : Tb Ch.cells 3 tbLC V n₀ Ba Bb Aa na ca la Ab nb cb lb) {ba oa bb ob : Nat} (hba : 0 < na → Aa = some ⟨ba, oa, none⟩) (hbb : 0 < nb → Ab = some ⟨bb, ob, none⟩) (hna : na ≤ 1000000) (hnb : nb ≤ 1000000) :
    SeqStopsK Fence.wide n Try.prog 76 #[.pointer (some ⟨Ba, 0, none⟩), .pointer (some ⟨Bb, 0, none⟩)] (enC ba oa bb ob) (Mv (Tn n₀ Ba Bb)) (fun ys => ys = allW Rw.p Ch.p la lb) (fun pre => pre <+: allW Rw.p Ch.p la lb) (la.length + lb.length) V :=
  fun l J Jx W hW hJ _ hY h0 => bothRC1 n hn1 l Ba Bb n₀ Aa na ca la Ab nb cb lb ba oa bb ob hba hbb hna hnb J Jx W hJ hY (hT.mv (Mv.of_below hW _)) h0

end Go.Proofs.Ytkdmlffnkomdhaa
