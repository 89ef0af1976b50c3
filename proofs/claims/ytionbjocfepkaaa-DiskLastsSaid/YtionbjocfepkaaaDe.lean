/-
  CONTRACTS OF PACKAGE disk: sector.holds; Read.
-/
import Derived.Test.YtionbjocfepkaaaDm
namespace Go.Proofs.Ytionbjocfepkaaa
set_option linter.unusedVariables false
open Go.RowKit Go.WideShapes Go.ChangeShapes

theorem size_block : (Try.prog.info? 37).map (·.size) = some 64 := by kernel_rfl
/-- The block of noughts. -/
def Zb : List UInt8 := List.replicate 64 0
theorem Zb_len : Zb.length = 64 := List.length_replicate
theorem Zb_at (j : Nat) (h : j < Zb.length) : Zb[j] = 0 := List.getElem_replicate _
def Z64 : Array Value := (bvs Zb).toArray
theorem zero_block (w : World) : (zeroValue 37).run Try.prog w = .ok (.agg Z64) w := by kernel_rfl
theorem Z64_new (w : World) : (w.alloc (.cells Z64 37)).rowIs w.heap.size 37 64 (fun _ => bv 0) :=
  World.rowIs_alloc w Z64 _ _ (fun i hi => by
    have hs : Z64.size = 64 := by simp [Z64, bvs, Zb_len]
    rw [hs] at hi
    simp only [Z64, List.getElem?_toArray, bvs, Zb, List.getElem?_map, List.getElem?_replicate, if_pos hi, Option.map_some])
theorem size_of {l : List UInt8} (hl : l.length = 64) : (Try.prog.info? 37).map (·.size) = some (bvs l).length := by rw [bvs_len, hl]; exact size_block
theorem bvs_all {l : List UInt8} : (bvs l).toArray.all (·.oneCell') = true := all_oneCell_toArray (bvs_one l)


theorem ld_block {ops : Array Oper} {rest : List Oper} {op : Oper} {a : Act} {w : World} {Q : Exit → Act → World → Prop} (hgd : op.guard = none) (x : Operand) (ho : op.op = .load 37 x)
    (b o : Nat) (l : List UInt8) (hl : Hid (l.length = 64)) (hx : a.eval x = .pointer (some ⟨b, o, none⟩)) (hc : w.rangeAt b o (bvs l))
    (h : wpList Try.prog ops Q rest (a.put op.dst (.agg (bvs l).toArray)) w) : wpList Try.prog ops Q (op :: rest) a w :=
  wpList_load_mid hgd _ x ho b o hx (bvs l) _ hc Try.underlying37 rfl (size_of hl.out) h
theorem st_block {ops : Array Oper} {rest : List Oper} {op : Oper} {a : Act} {w : World} {Q : Exit → Act → World → Prop} (hgd : op.guard = none) (x y : Operand) (ho : op.op = .store 37 x y)
    (b o : Nat) (l : List UInt8) (hl : Hid (l.length = 64)) (hx : a.eval x = .pointer (some ⟨b, o, none⟩)) (hy : a.eval y = .agg (bvs l).toArray) (ht : w.there b o 64)
    (h : wpList Try.prog ops Q rest (a.put op.dst undef) (w.setCells b o (bvs l))) : wpList Try.prog ops Q (op :: rest) a w :=
  wpList_store_mid hgd _ x y ho b o (bvs l).toArray hx hy (by have e := bvs_len l; rw [hl.out] at e; simpa [e] using ht) (by have := size_of hl.out; simpa using this) bvs_all h
theorem al_block {ops : Array Oper} {rest : List Oper} {op : Oper} {a : Act} {w : World} {Q : Exit → Act → World → Prop} (hgd : op.guard = none) (ho : op.op = .alloc 37)
    (h : wpList Try.prog ops Q rest (a.put op.dst (.pointer (some ⟨w.heap.size, 0, none⟩))) (w.alloc (.cells Z64 37))) : wpList Try.prog ops Q (op :: rest) a w :=
  wpList_alloc_as hgd _ ho Z64 zero_block h
theorem there_set {w : World} {b : Nat} {l : List UInt8} (hl : l.length = 64) (ht : w.there b 0 64) : (w.setCells b 0 (bvs l)).rangeAt b 0 (bvs l) := World.rangeAt_setCells_same _ _ _ _ (by rw [bvs_len, hl]; exact ht)
theorem Z64_there (w : World) : (w.alloc (.cells Z64 37)).there w.heap.size 0 64 := rowIs_there (Z64_new w) 0 64 (by omega)
theorem below_setCells {B : Nat} {a w : World} (h : Below B a w) {b : Nat} (hb : B ≤ b) (o : Nat) (vs : List Value) : Below B a (w.setCells b o vs) := by
  obtain ⟨h1, h2, h3, h4, h5⟩ := setCells_os b vs o w
  exact ⟨h1.trans h.os, h2.trans h.tape, h3.trans h.output, by rw [h4]; exact h.size, fun k hk => (h5 k (by omega)).trans (h.block k hk)⟩

set_option maxHeartbeats 400000 in
theorem holds_none {w : World} {ga q : Nat} {sf : List UInt8} (hsl : sf.length = 64) (hr : w.rangeAt ga q (bvs sf)) (hv : w.cell? ⟨ga, q + 64, none⟩ = some (.slice none 0 0)) :
    Calls Try.prog 45 #[.pointer (some ⟨ga, q, none⟩)] w fun e w' => e = .returned (.agg (bvs sf).toArray) ∧ Below w.heap.size w w' := by
  have hga := block_lt_of_cell hv
  simp only at hga
  have hlen := Lib.hid hsl
  clear hsl
  go_enter Try.func45, Try.ntmps45
  go_wp2_with (first
    | (with_reducible refine al_block rfl rfl ?_)
    | (with_reducible refine ld_block rfl _ rfl ga q sf hlen rfl (World.rangeAt_alloc hr _) ?_)
    | (with_reducible refine st_block rfl _ _ rfl w.heap.size 0 sf hlen rfl rfl (Z64_there w) ?_))
  exact bodyPost_ret (results_cell_mid rfl _ _ w.heap.size 0 (bvs sf) _ rfl (there_set hlen.out (Z64_there w)) Try.underlying37 rfl (size_of hlen.out)) rfl ⟨rfl, below_setCells ((Below.refl _ _).alloc (Nat.le_refl _) _) (Nat.le_refl _) _ _⟩

theorem fl_at {w : World} {b : Nat} : ∀ (l : List (List UInt8)) (o : Nat), w.rangeAt b o (fl l) → (∀ x ∈ l, x.length = 64) → ∀ k x, l[k]? = some x → w.rangeAt b (o + k * 64) (bvs x)
  | y :: r, o, h, hl, k, x, hk => by
    rw [fl_cons, rangeAt_app] at h
    rw [bvs_len, hl y (by simp)] at h
    cases k with
    | zero => simp at hk; subst hk; simpa using h.1
    | succ k =>
      have := fl_at r (o + 64) h.2 (fun z hz => hl z (by simp [hz])) k x (by simpa using hk)
      rwa [show o + 64 + k * 64 = o + (k + 1) * 64 by omega] at this

set_option maxHeartbeats 400000 in
theorem holds_some {w : World} {ga q b o n c : Nat} {x : List UInt8} (hsl : x.length = 64) (hr : w.rangeAt b (o + n * 64) (bvs x)) (hn : n < 9223372036854775807) (hv : w.cell? ⟨ga, q + 64, none⟩ = some (.slice (some ⟨b, o, none⟩) (n + 1) c)) :
    Calls Try.prog 45 #[.pointer (some ⟨ga, q, none⟩)] w fun e w' => e = .returned (.agg (bvs x).toArray) ∧ Below w.heap.size w w' := by
  have hga := block_lt_of_cell hv
  simp only at hga
  have hlen := Lib.hid hsl
  clear hsl
  go_enter Try.func45, Try.ntmps45
  go_wp2_with (first
    | (with_reducible refine al_block rfl rfl ?_)
    | (with_reducible refine ld_block rfl _ rfl b (o + n * 64) x hlen rfl (World.rangeAt_alloc hr _) ?_)
    | (with_reducible refine st_block rfl _ _ rfl w.heap.size 0 x hlen rfl rfl (Z64_there w) ?_))
  exact bodyPost_ret (results_cell_mid rfl _ _ w.heap.size 0 (bvs x) _ rfl (there_set hlen.out (Z64_there w)) Try.underlying37 rfl (size_of hlen.out)) rfl ⟨rfl, below_setCells ((Below.refl _ _).alloc (Nat.le_refl _) _) (Nat.le_refl _) _ _⟩

theorem holds_any {w : World} {S : Nat → Prop} {ga q : Nat} {sf : List UInt8} {v : Value} {l : List (List UInt8)} (hsl : sf.length = 64) (hr : w.rangeAt ga q (bvs sf)) (hv : w.cell? ⟨ga, q + 64, none⟩ = some v) (hw : Wv w S v l) (hl : ∀ x ∈ l, x.length = 64) :
    Calls Try.prog 45 #[.pointer (some ⟨ga, q, none⟩)] w fun e w' => e = .returned (.agg (bvs (l.getLast?.getD sf)).toArray) ∧ Below w.heap.size w w' := by
  rcases hw with ⟨rfl, rfl⟩ | ⟨b, o, c, cur, hne, rfl, hS, hlc, hm, hrg, _⟩
  · exact holds_none hsl hr hv
  · obtain ⟨n, hn⟩ : ∃ n, l.length = n + 1 := ⟨l.length - 1, by have := List.length_pos_iff.2 hne; omega⟩
    have hx : l[n]? = some (l[n]'(by omega)) := List.getElem?_eq_getElem _
    have hlast : l.getLast?.getD sf = l[n]'(by omega) := by
      rw [List.getLast?_eq_getElem?, show l.length - 1 = n by omega, hx]
      rfl
    rw [hlast]
    rw [hn] at hv
    exact holds_some (hl _ (List.getElem_mem _)) (fl_at l o hrg hl n _ hx) (by unfold maxLen at hm; omega) hv
end Go.Proofs.Ytionbjocfepkaaa
