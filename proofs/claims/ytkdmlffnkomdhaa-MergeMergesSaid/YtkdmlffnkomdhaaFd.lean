/-
  MERGE'S REFERENCE: its merge is the layer's (pure); boxes beside an own row that grows.
-/
import Derived.Test.YtkdmlffnkomdhaaFc
import Derived.Test.YtkdmlffnkomdhaaRg
namespace Go.Proofs.Ytkdmlffnkomdhaa
set_option linter.unusedVariables false
set_option linter.unusedSimpArgs false
open Go.RowKit Go.WideShapes Go.ChangeShapes Go.Deep

theorem Fw.grown {w0 w w' : World} {k : Nat} {obs : List (Option (Nat × List Value))} (p : Fw w0 k obs w) {g : Nat} (hg : w.grownBy w' (some g)) (h0 : w0.heap.size ≤ g) (hb : Blk w g 0) (hk : 0 < k) : Fw w0 k obs w' := by
  have hne : ∀ (i B : Nat) (v : List Value), obs[i]? = some (some (B, v)) → B ≠ g := fun i B v e e2 => by
    subst e2
    obtain ⟨u, T, fr, h1, h2⟩ := hb
    obtain ⟨u', T', fr', h1', h2'⟩ := p.bk i B v e
    rw [h1] at h1'
    injection h1' with h1'
    injection h1' with e1
    subst e1
    omega
  have hkp : ∀ (i B : Nat) (v : List Value), obs[i]? = some (some (B, v)) → w'.heap[B]? = w.heap[B]? := fun i B v e => hg.block B (p.bk i B v e).lt (fun e2 => hne i B v e (by cases e2; rfl))
  refine ⟨⟨p.below.grown hg p.below.size (fun x hx => by cases hx; exact h0), fun i B v e => ⟨(p.fr.bx i B v e).1.kp (hkp i B v e) hg.size, (p.fr.bx i B v e).2⟩, p.fr.ne⟩, fun i B v e => (p.bk i B v e).keep (hkp i B v e)⟩
theorem rw_noint {k : Int} (x : Rw) : Value.int .i64 k ∉ x.cells := by simp [Rw.cells]
theorem refMo_agreed {x : Pl} (h : conflW x = false) : refMo x = agreedW x := by
  unfold refMo agreedW
  unfold conflW at h
  cases h1 : sameSd x.o x.t with
  | true =>
    have e := sameSd_iff.1 h1
    simp only [Bool.not_true, Bool.false_and, Bool.false_eq_true, if_false]
    rw [← e]
    split <;> rfl
  | false => simp
theorem refM_eq {l1 l2 l3 : List Rw} {e : List Ch} (h : eqW (confW l1 l2 l3) e = true) : (plsW l1 l2 l3).flatMap (refMp e) = mergedW l1 l2 l3 e := by
  have hp : e.map Ch.p = (confW l1 l2 l3).map Pl.p := by
    unfold eqW at h
    exact of_decide_eq_true h
  unfold mergedW madeM
  have key : ∀ x ∈ plsW l1 l2 l3, refMp e x = pieceM e x := by
    intro x hx
    have hs : refMs e x = hasM e x := by
      unfold refMs hasM
      cases hc : conflW x with
      | true =>
        have hm : x.p ∈ e.map Ch.p := by
          rw [hp]
          exact List.mem_map.2 ⟨x, List.mem_filter.2 ⟨hx, hc⟩, rfl⟩
        obtain ⟨c, hc1, hc2⟩ := List.mem_map.1 hm
        have hf : (findW Ch.p e x.p).isSome = true := by
          cases hq : findW Ch.p e x.p with
          | none => exact absurd hc2 (findW_none_iff.1 hq c hc1)
          | some _ => rfl
        rw [hf]
        simp
      | false =>
        have hf : findW Ch.p e x.p = none := by
          rw [findW_none_iff]
          intro c hc1 hc2
          have hm : x.p ∈ (confW l1 l2 l3).map Pl.p := by
            rw [← hp]
            exact List.mem_map.2 ⟨c, hc1, hc2⟩
          obtain ⟨y, hy1, hy2⟩ := List.mem_map.1 hm
          obtain ⟨hy3, hy4⟩ := List.mem_filter.1 hy1
          unfold plsW at hx hy3
          obtain ⟨s, _, rfl⟩ := List.mem_map.1 hx
          obtain ⟨s', _, rfl⟩ := List.mem_map.1 hy3
          have e1 : s' = s := hy2
          subst e1
          rw [hc] at hy4
          cases hy4
        rw [hf]
        simp [refMo_agreed hc]
    unfold refMp pieceM
    rw [hs]
  generalize plsW l1 l2 l3 = P at key
  induction P with
  | nil => rfl
  | cons a P ih => rw [List.flatMap_cons, List.flatMap_cons, key a (by simp), ih fun x hx => key x (by simp [hx])]
end Go.Proofs.Ytkdmlffnkomdhaa
