/-
  WHAT AN EDIT MAKES OF A MAP, PATH BY PATH, AND ONCE MORE, PURE; a set of texts in memory.
-/
import Derived.Test.YtkdmlffnkomdhaaPw
import Derived.Test.YtkdmlffnkomdhaaPn
import Derived.StringKeys
import Derived.Maps.Own
import Derived.Maps.OwnOps
import Derived.Maps.Views
namespace Go.Proofs.Ytkdmlffnkomdhaa
set_option linter.unusedVariables false
set_option linter.unusedSimpArgs false
open Go.RowKit Go.WideShapes Go.ChangeShapes Go.Deep Go.Maps Go.WideMaps

theorem find_cons_no {a : Rw} {l : List Rw} {s : ByteArray} (h : a.p ≠ s) : findW Rw.p (a :: l) s = findW Rw.p l s := by
  unfold findW
  rw [List.find?_cons_of_neg]
  simpa using fun e => h (bytes_ext e)
theorem find_cons_yes {a : Rw} {l : List Rw} {s : ByteArray} (h : a.p = s) : findW Rw.p (a :: l) s = some a := by
  unfold findW
  rw [List.find?_cons_of_pos]
  simp [h]
theorem find_app_no : ∀ {a : List Rw} {l : List Rw} {s : ByteArray}, (∀ r ∈ a, r.p ≠ s) → findW Rw.p (a ++ l) s = findW Rw.p l s
  | [], l, s, _ => rfl
  | x :: a, l, s, h => by
    rw [List.cons_append, find_cons_no (h x (by simp)), find_app_no fun r hr => h r (by simp [hr])]
theorem find_flat {g : ByteArray → List Rw} (hg : ∀ t, ∀ r ∈ g t, r.p = t) {s : ByteArray} : ∀ {L : List ByteArray}, (s ∈ L ∨ g s = []) → findW Rw.p (L.flatMap g) s = (g s).head?
  | [], h => by
    rcases h with h | h
    · cases h
    · rw [h]; rfl
  | t :: L, h => by
    rw [List.flatMap_cons]
    by_cases e : t = s
    · subst e
      cases hs : g t with
      | nil =>
        rw [List.nil_append]
        have := find_flat hg (s := t) (L := L) (.inr hs)
        rw [this, hs]
      | cons a r =>
        rw [List.cons_append, find_cons_yes (hg t a (by rw [hs]; simp))]
        rfl
    · rw [find_app_no fun r hr e2 => e ((hg t r hr).symm.trans e2)]
      refine find_flat hg ?_
      rcases h with h | h
      · rcases List.mem_cons.1 h with h | h
        · exact absurd h.symm e
        · exact .inl h
      · exact .inr h
theorem refA_path {la : List Rw} {lb : List Ch} (t : ByteArray) : ∀ r ∈ refA la lb t, r.p = t := by
  intro r hr
  unfold refA at hr
  split at hr
  · split at hr
    · obtain rfl : r = _ := by simpa using hr
      rfl
    · cases hr
  · split at hr
    · obtain rfl : r = _ := by simpa using hr
      rfl
    · cases hr
theorem findW_mem {α : Type} {p : α → ByteArray} {l : List α} {s : ByteArray} {r : α} (h : findW p l s = some r) : r ∈ l := List.mem_of_find?_eq_some h
theorem findW_none_iff {α : Type} {p : α → ByteArray} {l : List α} {s : ByteArray} : findW p l s = none ↔ ∀ r ∈ l, p r ≠ s := by
  unfold findW
  rw [List.find?_eq_none]
  constructor
  · intro h r hr e
    exact h r hr (by simp [e])
  · intro h r hr e
    exact h r hr (bytes_ext (by simpa using e))
theorem up_mem_eq {α : Type} {p : α → ByteArray} {l : List α} (h : Up p l) {a b : α} (ha : a ∈ l) (hb : b ∈ l) (e : p a = p b) : a = b := by
  obtain ⟨i, hi, rfl⟩ := List.getElem_of_mem ha
  obtain ⟨j, hj, rfl⟩ := List.getElem_of_mem hb
  have hp := List.pairwise_iff_getElem.1 h
  rcases Nat.lt_trichotomy i j with hij | hij | hij
  · have := hp i j hi hj hij
    rw [e, lt_irrefl'] at this
    cases this
  · subst hij; rfl
  · have := hp j i hj hi hij
    rw [e, lt_irrefl'] at this
    cases this
theorem findW_self {α : Type} {p : α → ByteArray} {l : List α} (h : Up p l) {a : α} (ha : a ∈ l) : findW p l (p a) = some a := by
  cases hf : findW p l (p a) with
  | none => exact absurd rfl (findW_none_iff.1 hf a ha)
  | some b => rw [up_mem_eq h (findW_mem hf) ha (find_path hf)]
/-- What an edit's outcome has at a path. -/
def atA (la : List Rw) (lb : List Ch) (s : ByteArray) : Option Rw :=
  match findW Ch.p lb s with
  | some c => if c.is then some ⟨s, c.t⟩ else none
  | none => findW Rw.p la s
theorem refA_head (la : List Rw) (lb : List Ch) (s : ByteArray) : (refA la lb s).head? = atA la lb s := by
  unfold refA atA
  cases hy : findW Ch.p lb s with
  | some c => cases hi : c.is <;> simp [hi]
  | none =>
    cases hx : findW Rw.p la s with
    | none => simp
    | some a =>
      have := find_path hx
      obtain ⟨p, t⟩ := a
      simp only at this
      subst this
      simp [textR]
theorem app_at {la : List Rw} {lb : List Ch} (ha : Up Rw.p la) (hb : Up Ch.p lb) (s : ByteArray) : findW Rw.p (app la lb) s = atA la lb s := by
  rw [app_paths ha hb, find_flat refA_path, refA_head]
  by_cases hs : s ∈ pathsW Ch.p (pathsW Rw.p [] la) lb
  · exact .inl hs
  · refine .inr ?_
    rw [pathsW_mem, pathsW_mem] at hs
    have h1 : findW Ch.p lb s = none := findW_none_iff.2 fun r hr e => hs (.inr ⟨r, hr, e⟩)
    have h2 : findW Rw.p la s = none := findW_none_iff.2 fun r hr e => hs (.inl (.inr ⟨r, hr, e⟩))
    unfold refA
    rw [h1, h2]
    rfl
theorem up_flat {g : ByteArray → List Rw} (hg : ∀ t, ∀ r ∈ g t, r.p = t) (h1 : ∀ t, (g t).length ≤ 1) : ∀ {L : List ByteArray}, L.Pairwise (fun x y => lt x y = true) → Up Rw.p (L.flatMap g)
  | [], _ => List.Pairwise.nil
  | t :: L, h => by
    rw [List.pairwise_cons] at h
    unfold Up
    rw [List.flatMap_cons, List.pairwise_append]
    refine ⟨?_, up_flat hg h1 h.2, fun x hx y hy => ?_⟩
    · have := h1 t
      match hgt : g t, this with
      | [], _ => exact List.Pairwise.nil
      | [a], _ => exact List.pairwise_singleton _ _
    · obtain ⟨u, hu, hyu⟩ := List.mem_flatMap.1 hy
      rw [hg t x hx, hg u y hyu]
      exact h.1 u hu
theorem refA_len (la : List Rw) (lb : List Ch) (t : ByteArray) : (refA la lb t).length ≤ 1 := by
  unfold refA
  split
  · split <;> simp
  · split <;> simp
theorem app_up {la : List Rw} {lb : List Ch} (ha : Up Rw.p la) (hb : Up Ch.p lb) : Up Rw.p (app la lb) := by
  rw [app_paths ha hb]
  exact up_flat refA_path (refA_len la lb) (pathsW_up _ _ (pathsW_up _ _ (by simp)))
/-- Two rising maps that have the same everywhere are one. -/
theorem up_ext {a b : List Rw} (ha : Up Rw.p a) (hb : Up Rw.p b) (h : ∀ s, findW Rw.p a s = findW Rw.p b s) : a = b := by
  have hm : a.map Rw.p = b.map Rw.p := by
    refine up_eq _ _ (by rw [List.pairwise_map]; exact ha) (by rw [List.pairwise_map]; exact hb) fun x => ?_
    have key : ∀ l : List Rw, x ∈ l.map Rw.p ↔ findW Rw.p l x ≠ none := fun l => by
      rw [ne_eq, findW_none_iff]
      simp
    rw [key, key, h x]
  have hs : ∀ l : List Rw, Up Rw.p l → l.map some = (l.map Rw.p).map (findW Rw.p l) := fun l hl => by
    rw [List.map_map]
    exact List.map_congr_left fun r hr => (findW_self hl hr).symm
  have h2 : a.map some = b.map some := by
    rw [hs a ha, hs b hb, hm]
    exact List.map_congr_left fun x _ => h x
  exact (List.map_inj_right (fun x y e => by injection e)).1 h2
theorem app_twice {la : List Rw} {lb : List Ch} (ha : Up Rw.p la) (hb : Up Ch.p lb) : app (app la lb) lb = app la lb := by
  have hx := app_up ha hb
  refine up_ext (app_up hx hb) hx fun s => ?_
  rw [app_at hx hb, app_at ha hb]
  unfold atA
  cases hy : findW Ch.p lb s with
  | some c => rfl
  | none => simp only; rw [app_at ha hb]; unfold atA; rw [hy]
theorem rightC_parts {l : List Ch} (h : rightC l = true) : Up Ch.p l ∧ l.length ≤ 32 ∧ ∀ c ∈ l, fitP c.p c.t = true ∧ mud c = false := by
  unfold rightC at h
  rw [Bool.and_eq_true, Bool.and_eq_true] at h
  obtain ⟨h1, h2⟩ := fitW_mem h.1.1
  refine ⟨(up_iff Ch.p l).1 h.1.2, h1, fun c hc => ⟨h2 c hc, ?_⟩⟩
  have h3 := h.2
  unfold mudW at h3
  rw [Bool.not_eq_true', List.any_eq_false] at h3
  simpa using h3 c hc
theorem applyE_parts {la : List Rw} {lb : List Ch} (h : applyE la lb = 0) : rightR la = true ∧ rightC lb = true ∧ (applyW la lb).length ≤ 32 := by
  unfold applyE at h
  cases h1 : rightR la with
  | false => rw [h1] at h; simp at h
  | true =>
    cases h2 : rightC lb with
    | false => rw [h1, h2] at h; simp at h
    | true =>
      rw [h1, h2] at h
      simp only [Bool.true_eq_false, if_false] at h
      refine ⟨rfl, rfl, ?_⟩
      by_cases h3 : 32 < (applyW la lb).length
      · rw [if_pos h3] at h; simp at h
      · omega
/-- Once more changes nothing; what comes is a map that may be. -/
theorem apply_once {la : List Rw} {lb : List Ch} (h : applyE la lb = 0) : rightR (applyW la lb) = true ∧ applyE (applyW la lb) lb = 0 ∧ applyW (applyW la lb) lb = applyW la lb := by
  obtain ⟨h1, h2, h3⟩ := applyE_parts h
  obtain ⟨ua, fa⟩ := rightR_up h1
  obtain ⟨ub, lb32, fb⟩ := rightC_parts h2
  have hfa := (fitW_mem fa).2
  rw [applyW_app] at h3 ⊢
  have hr : rightR (app la lb) = true := by
    unfold rightR
    rw [Bool.and_eq_true]
    refine ⟨?_, (up_iff Rw.p _).2 (app_up ua ub)⟩
    unfold fitW
    rw [Bool.and_eq_true, decide_eq_true_eq, List.all_eq_true]
    refine ⟨h3, fun r hr => ?_⟩
    have hs := findW_self (app_up ua ub) hr
    rw [app_at ua ub] at hs
    unfold atA at hs
    cases hy : findW Ch.p lb r.p with
    | some c =>
      rw [hy] at hs
      simp only at hs
      cases hi : c.is with
      | false => rw [hi] at hs; cases hs
      | true =>
        rw [hi] at hs
        simp only [if_true] at hs
        injection hs with hs
        have hc := (fb c (findW_mem hy)).1
        have e1 := find_path hy
        rw [← hs]
        simp only
        rw [← e1]
        exact hc
    | none =>
      rw [hy] at hs
      exact hfa r (findW_mem hs)
  refine ⟨hr, ?_, by rw [applyW_app, app_twice ua ub]⟩
  unfold applyE
  rw [hr, h2, applyW_app, app_twice ua ub]
  simp only [Bool.true_eq_false, if_false]
  rw [if_neg (by omega)]
theorem apply_said {la : List Rw} {lb : List Ch} (h : applyE la lb = 0) {c : Ch} (hc : c ∈ lb) : (findW Rw.p (applyW la lb) c.p).isSome = c.is ∧ textR (findW Rw.p (applyW la lb) c.p) = c.t := by
  obtain ⟨h1, h2, h3⟩ := applyE_parts h
  obtain ⟨ua, fa⟩ := rightR_up h1
  obtain ⟨ub, lb32, fb⟩ := rightC_parts h2
  rw [applyW_app, app_at ua ub]
  unfold atA
  rw [findW_self ub hc]
  simp only
  cases hi : c.is with
  | true => exact ⟨rfl, rfl⟩
  | false =>
    refine ⟨rfl, ?_⟩
    have := (fb c hc).2
    unfold mud at this
    rw [hi] at this
    simp only [Bool.not_false, Bool.true_and, Bool.not_eq_false', List.isEmpty_iff] at this
    exact bytes_ext (by rw [this]; rw [ByteArray.toList_eq]; rfl)
theorem apply_unsaid {la : List Rw} {lb : List Ch} (h : applyE la lb = 0) {s : ByteArray} (hs : ∀ c ∈ lb, c.p ≠ s) : findW Rw.p (applyW la lb) s = findW Rw.p la s := by
  obtain ⟨h1, h2, h3⟩ := applyE_parts h
  obtain ⟨ua, fa⟩ := rightR_up h1
  obtain ⟨ub, lb32, fb⟩ := rightC_parts h2
  rw [applyW_app, app_at ua ub]
  unfold atA
  rw [findW_none_iff.2 hs]
theorem fitP_size {p t : ByteArray} (h : fitP p t = true) : p.size ≤ maxLen := by
  unfold fitP at h
  simp only [Bool.and_eq_true, decide_eq_true_eq] at h
  unfold maxLen
  omega

def memB (l : List ByteArray) (s : ByteArray) : Bool := l.any fun x => x.toList == s.toList
theorem memB_iff {l : List ByteArray} {s : ByteArray} : memB l s = true ↔ s ∈ l := by
  unfold memB
  rw [List.any_eq_true]
  constructor
  · rintro ⟨x, hx, e⟩
    rw [← bytes_ext (a := x) (b := s) (by simpa using e)]
    exact hx
  · exact fun h => ⟨s, h, by simp⟩
theorem memB_app (l : List ByteArray) (x s : ByteArray) : memB (l ++ [x]) s = (memB l s || x.toList == s.toList) := by
  unfold memB
  simp
/-- How a bool reads. -/
def boolR (v : Value) : Option (DataW Unit × List MemPlace) := match v with | .bool x => some (.lit (.bool x), []) | _ => none
theorem boolR_inv {v : Value} {d : DataW Unit} {ps : List MemPlace} (h : boolR v = some (d, ps)) : ∃ x, v = .bool x ∧ d = .lit (.bool x) := by
  unfold boolR at h
  split at h
  · injection h with h; injection h with h1 h2; exact ⟨_, rfl, h1.symm⟩
  · cases h
theorem zero_bool (w : World) : (zeroValue 4).run Try.prog w = .ok (.bool false) w := by kernel_rfl
/-- A set of texts. -/
structure Said (w : World) (b : Nat) (n : Nat) (l : List ByteArray) : Prop where
  ex : ∃ D : DataW Unit, w.ownsMap Try.prog 9 boolR b n D ∧ IsMap D ∧ ∀ s : ByteArray, s.size ≤ maxLen → D.atKey (.string s.data.toList) (.lit (.bool false)) = .lit (.bool (memB l s))
theorem Said.made (w : World) : Said (w.alloc (.map #[] 0)) w.heap.size 0 [] :=
  ⟨⟨_, World.ownsMap_made w _ _ _, ⟨_, rfl⟩, fun s _ => rfl⟩⟩
theorem Said.below {w w' : World} {b n : Nat} {l : List ByteArray} (h : Said w b n l) (hb : Below w.heap.size w w') : Said w' b n l := by
  obtain ⟨D, hown, h2⟩ := h.ex
  exact ⟨⟨D, hown.kept (row := none) ⟨hb.os, hb.tape, hb.output, hb.size, fun i hi _ => hb.block i hi⟩ (by simp), h2⟩⟩
theorem Said.lt {w : World} {b n : Nat} {l : List ByteArray} (h : Said w b n l) : b < w.heap.size := by
  obtain ⟨D, hown, h2⟩ := h.ex
  exact hown.lt
end Go.Proofs.Ytkdmlffnkomdhaa
