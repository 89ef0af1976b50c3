/-
  WHAT LEADS FROM ONE MAP TO ANOTHER: pure.
-/
import Derived.Test.YtkdmlffnkomdhaaPk
import Derived.Test.YtkdmlffnkomdhaaPl
namespace Go.Proofs.Ytkdmlffnkomdhaa
set_option linter.unusedVariables false
set_option linter.unusedSimpArgs false
open Go.RowKit Go.WideShapes Go.ChangeShapes Go.Deep

theorem lt_irrefl' (a : ByteArray) : lt a a = false := less_irrefl _
theorem lt_trans' {a b c : ByteArray} (h : lt a b = true) (k : lt b c = true) : lt a c = true := less_trans h k
theorem bytes_ext {a b : ByteArray} (h : a.toList = b.toList) : a = b := by
  rw [ByteArray.toList_eq, ByteArray.toList_eq] at h
  cases a
  cases b
  simpa [Array.toList_inj] using h
theorem lt_eq {a b : ByteArray} (h : lt a b = false) (k : lt b a = false) : a = b := bytes_ext (less_total h k)
theorem lt_asymm' {a b : ByteArray} (h : lt a b = true) : lt b a = false := by
  cases hb : lt b a with
  | false => rfl
  | true => have := lt_trans' h hb; rw [lt_irrefl'] at this; cases this
theorem le_lt {a b : ByteArray} : le a b = !lt b a := by
  cases h : lt b a with
  | true => rw [lt_not_le h]; rfl
  | false =>
    unfold le
    cases h2 : lt a b with
    | true => rfl
    | false => rw [lt_eq h2 h]; simp

/-- Both lists at once, by their heads. -/
def mergeL {α β : Type} (fa : α → ByteArray) (fb : β → ByteArray) : List α → List β → List (Option α × Option β)
  | [], [] => []
  | a :: la, [] => (some a, none) :: mergeL fa fb la []
  | [], b :: lb => (none, some b) :: mergeL fa fb [] lb
  | a :: la, b :: lb => if lt (fa a) (fb b) then (some a, none) :: mergeL fa fb la (b :: lb) else if lt (fb b) (fa a) then (none, some b) :: mergeL fa fb (a :: la) lb else (some a, some b) :: mergeL fa fb la lb
  termination_by la lb => la.length + lb.length

section
variable {α β : Type} (fa : α → ByteArray) (fb : β → ByteArray) (la : List α) (lb : List β)
def val (x : Mi la.length lb.length) : Option α × Option β := (x.i.map fun i => la[i], x.k.map fun k => lb[k])
theorem run_merge : ∀ (f i k : Nat), i ≤ la.length → k ≤ lb.length → la.length + lb.length ≤ f + i + k → (runW fa fb la lb f i k).map (val la lb) = mergeL fa fb (la.drop i) (lb.drop k)
  | 0, i, k, hi, hk, hf => by
    rw [List.drop_of_length_le (by omega), List.drop_of_length_le (by omega)]
    simp [runW, mergeL]
  | f + 1, i, k, hi, hk, hf => by
    by_cases h1 : i < la.length
    · rw [List.drop_eq_getElem_cons h1]
      by_cases h2 : k < lb.length
      · rw [List.drop_eq_getElem_cons h2]
        obtain ⟨ha, hb⟩ := nx_le fa fb la lb h1 h2 (h := .inl h1)
        rw [le_lt] at ha hb
        rw [mergeL]
        cases c1 : lt (fa la[i]) (fb lb[k]) with
        | true =>
          have c2 := lt_asymm' c1
          rw [c2] at ha
          rw [c1] at hb
          have ih := run_merge f (i + 1) k (by omega) hk (by omega)
          rw [List.drop_eq_getElem_cons h2] at ih
          rw [run_step fa fb la lb (.inl h1) (nx_t fa fb la lb ha hb (h := .inl h1)) ha hb (i' := i + 1) (k' := k) (by simp) (by simp), List.map_cons, ih]
          simp [val]
        | false =>
          rw [c1] at hb
          cases c2 : lt (fb lb[k]) (fa la[i]) with
          | true =>
            rw [c2] at ha
            have ih := run_merge f i (k + 1) hi (by omega) (by omega)
            rw [List.drop_eq_getElem_cons h1] at ih
            rw [run_step fa fb la lb (.inl h1) (nx_t fa fb la lb ha hb (h := .inl h1)) ha hb (i' := i) (k' := k + 1) (by simp) (by simp), List.map_cons, ih]
            simp [val]
          | false =>
            rw [c2] at ha
            have ih := run_merge f (i + 1) (k + 1) (by omega) (by omega) (by omega)
            rw [run_step fa fb la lb (.inl h1) (nx_t fa fb la lb ha hb (h := .inl h1)) ha hb (i' := i + 1) (k' := k + 1) (by simp) (by simp), List.map_cons, ih]
            simp [val]
      · rw [List.drop_of_length_le (show lb.length ≤ k by omega), runW, dif_pos (.inl h1)]
        obtain ⟨hx, ha, hb⟩ := nx_a fa fb la lb h1 (show lb.length ≤ k by omega) (h := .inl h1)
        rw [List.map_cons, hx, ha, hb, mergeL]
        have ih := run_merge f (i + 1) k (by omega) hk (by omega)
        rw [List.drop_of_length_le (show lb.length ≤ k by omega)] at ih
        simpa [val] using ih
    · rw [List.drop_of_length_le (show la.length ≤ i by omega)]
      by_cases h2 : k < lb.length
      · rw [List.drop_eq_getElem_cons h2, runW, dif_pos (.inr h2)]
        obtain ⟨hx, ha, hb⟩ := nx_b fa fb la lb (show la.length ≤ i by omega) h2 (h := .inr h2)
        rw [List.map_cons, hx, ha, hb, mergeL]
        have ih := run_merge f i (k + 1) hi (by omega) (by omega)
        rw [List.drop_of_length_le (show la.length ≤ i by omega)] at ih
        simpa [val] using ih
      · rw [List.drop_of_length_le (show lb.length ≤ k by omega), runW, dif_neg (by omega)]
        simp [mergeL]
theorem all_merge : (allW fa fb la lb).map (val la lb) = mergeL fa fb la lb := by
  have := run_merge fa fb la lb (la.length + lb.length) 0 0 (Nat.zero_le _) (Nat.zero_le _) (by omega)
  simpa [allW] using this
end

def pA : Option Rw × Option Ch → List Rw
  | (_, some c) => if c.is then [⟨c.p, c.t⟩] else []
  | (some a, none) => [a]
  | (none, none) => []
def pD : Option Rw × Option Rw → List Ch
  | (none, some b) => [⟨b.p, true, b.t⟩]
  | (some a, some b) => if a.t.toList == b.t.toList then [] else [⟨b.p, true, b.t⟩]
  | (some a, none) => [⟨a.p, false, ⟨#[]⟩⟩]
  | (none, none) => []
theorem partA_val (la : List Rw) (lb : List Ch) (x : Mi la.length lb.length) : partA la lb x = pA (val la lb x) := by
  obtain ⟨i, k, h⟩ := x
  cases i <;> cases k <;> rfl
theorem partD_val (la lb : List Rw) (x : Mi la.length lb.length) : partD la lb x = pD (val la lb x) := by
  obtain ⟨i, k, h⟩ := x
  cases i <;> cases k <;> rfl
def app (la : List Rw) (lb : List Ch) : List Rw := (mergeL Rw.p Ch.p la lb).flatMap pA
def dif (la lb : List Rw) : List Ch := (mergeL Rw.p Rw.p la lb).flatMap pD
theorem applyW_app (la : List Rw) (lb : List Ch) : applyW la lb = app la lb := by
  unfold applyW madeA app
  rw [← all_merge, List.flatMap_map]
  congr 1
  funext x
  exact partA_val la lb x
theorem diffW_dif (la lb : List Rw) : diffW la lb = dif la lb := by
  unfold diffW madeD dif
  rw [← all_merge, List.flatMap_map]
  congr 1
  funext x
  exact partD_val la lb x

/-- Each path ahead of those that follow. -/
def Up {α : Type} (p : α → ByteArray) (l : List α) : Prop := l.Pairwise fun x y => lt (p x) (p y) = true
theorem up_iff {α : Type} (p : α → ByteArray) : ∀ (l : List α), riseW (l.map p) = true ↔ Up p l
  | [] => by simp [riseW, Up]
  | [a] => by simp [riseW, Up]
  | a :: b :: r => by
    have ih := up_iff p (b :: r)
    simp only [List.map_cons, riseW, Bool.and_eq_true] at ih ⊢
    rw [ih]
    constructor
    · rintro ⟨h1, h2⟩
      refine List.pairwise_cons.2 ⟨fun y hy => ?_, h2⟩
      rcases List.mem_cons.1 hy with rfl | hy
      · exact h1
      · exact lt_trans' h1 ((List.pairwise_cons.1 h2).1 y hy)
    · intro h
      obtain ⟨h1, h2⟩ := List.pairwise_cons.1 h
      exact ⟨h1 b (by simp), h2⟩

theorem mem_merge {α β : Type} {fa : α → ByteArray} {fb : β → ByteArray} : ∀ {la : List α} {lb : List β} {o : Option α × Option β}, o ∈ mergeL fa fb la lb → (∀ a, o.1 = some a → a ∈ la) ∧ (∀ b, o.2 = some b → b ∈ lb)
  | [], [], o, h => by simp [mergeL] at h
  | a :: la, [], o, h => by
    rw [mergeL] at h
    rcases List.mem_cons.1 h with rfl | h
    · exact ⟨fun x hx => by simp at hx; simp [hx], fun x hx => by simp at hx⟩
    · obtain ⟨h1, h2⟩ := mem_merge h
      exact ⟨fun x hx => List.mem_cons_of_mem _ (h1 x hx), h2⟩
  | [], b :: lb, o, h => by
    rw [mergeL] at h
    rcases List.mem_cons.1 h with rfl | h
    · exact ⟨fun x hx => by simp at hx, fun x hx => by simp at hx; simp [hx]⟩
    · obtain ⟨h1, h2⟩ := mem_merge h
      exact ⟨h1, fun x hx => List.mem_cons_of_mem _ (h2 x hx)⟩
  | a :: la, b :: lb, o, h => by
    rw [mergeL] at h
    split at h
    · rcases List.mem_cons.1 h with rfl | h
      · exact ⟨fun x hx => by simp at hx; simp [hx], fun x hx => by simp at hx⟩
      · obtain ⟨h1, h2⟩ := mem_merge h
        exact ⟨fun x hx => List.mem_cons_of_mem _ (h1 x hx), h2⟩
    · split at h
      · rcases List.mem_cons.1 h with rfl | h
        · exact ⟨fun x hx => by simp at hx, fun x hx => by simp at hx; simp [hx]⟩
        · obtain ⟨h1, h2⟩ := mem_merge h
          exact ⟨h1, fun x hx => List.mem_cons_of_mem _ (h2 x hx)⟩
      · rcases List.mem_cons.1 h with rfl | h
        · exact ⟨fun x hx => by simp at hx; simp [hx], fun x hx => by simp at hx; simp [hx]⟩
        · obtain ⟨h1, h2⟩ := mem_merge h
          exact ⟨fun x hx => List.mem_cons_of_mem _ (h1 x hx), fun x hx => List.mem_cons_of_mem _ (h2 x hx)⟩
  termination_by la lb => la.length + lb.length
/-- Each change of a difference: of a row that goes, or of one that is to be. -/
theorem mem_dif {la lb : List Rw} {c : Ch} (h : c ∈ dif la lb) : (∃ a ∈ la, c = ⟨a.p, false, ⟨#[]⟩⟩) ∨ (∃ b ∈ lb, c = ⟨b.p, true, b.t⟩) := by
  unfold dif at h
  obtain ⟨o, ho, hc⟩ := List.mem_flatMap.1 h
  obtain ⟨h1, h2⟩ := mem_merge ho
  obtain ⟨oa, ob⟩ := o
  cases oa with
  | none =>
    cases ob with
    | none => simp [pD] at hc
    | some b => simp [pD] at hc; exact .inr ⟨b, h2 b rfl, hc⟩
  | some a =>
    cases ob with
    | none => simp [pD] at hc; exact .inl ⟨a, h1 a rfl, hc⟩
    | some b =>
      unfold pD at hc
      dsimp only at hc
      split at hc
      · cases hc
      · simp at hc; exact .inr ⟨b, h2 b rfl, hc⟩
theorem dif_above {la lb : List Rw} {x : ByteArray} (ha : ∀ a ∈ la, lt x a.p = true) (hb : ∀ b ∈ lb, lt x b.p = true) : ∀ c ∈ dif la lb, lt x c.p = true := fun c hc => by
  rcases mem_dif hc with ⟨a, h, rfl⟩ | ⟨b, h, rfl⟩
  · exact ha a h
  · exact hb b h
theorem app_nil : ∀ (la : List Rw), app la [] = la
  | [] => by simp [app, mergeL]
  | a :: la => by
    have := app_nil la
    unfold app at this ⊢
    rw [mergeL, List.flatMap_cons, this]
    rfl
/-- A row ahead of all that the edit speaks of stays. -/
theorem app_keep {a : Rw} {la : List Rw} {d : List Ch} (h : ∀ c ∈ d, lt a.p c.p = true) : app (a :: la) d = a :: app la d := by
  cases d with
  | nil => rw [app_nil, app_nil]
  | cons c d =>
    have h1 := h c (by simp)
    unfold app
    rw [mergeL, if_pos h1, List.flatMap_cons]
    rfl
theorem app_here {a : Rw} {la : List Rw} {c : Ch} {d : List Ch} (h : a.p = c.p) : app (a :: la) (c :: d) = (if c.is then [⟨c.p, c.t⟩] else []) ++ app la d := by
  unfold app
  rw [mergeL, if_neg (by rw [h, lt_irrefl']; simp), if_neg (by rw [h, lt_irrefl']; simp), List.flatMap_cons]
  rfl
theorem app_new {la : List Rw} {c : Ch} {d : List Ch} (h : ∀ a ∈ la, lt c.p a.p = true) (hc : c.is = true) : app la (c :: d) = ⟨c.p, c.t⟩ :: app la d := by
  cases la with
  | nil =>
    unfold app
    rw [mergeL, List.flatMap_cons]
    simp [pA, hc]
  | cons a la =>
    have h1 := h a (by simp)
    unfold app
    rw [mergeL, if_neg (by rw [lt_asymm' h1]; simp), if_pos h1, List.flatMap_cons]
    simp [pA, hc]
theorem up_cons {α : Type} {p : α → ByteArray} {a : α} {l : List α} (h : Up p (a :: l)) : (∀ y ∈ l, lt (p a) (p y) = true) ∧ Up p l := List.pairwise_cons.1 h
/-- The difference leads there, and its paths rise. -/
theorem leads : ∀ (la lb : List Rw), Up Rw.p la → Up Rw.p lb → app la (dif la lb) = lb ∧ Up Ch.p (dif la lb)
  | [], [], _, _ => by simp [app, dif, mergeL, Up]
  | a :: la, [], ha, hb => by
    obtain ⟨h1, h2⟩ := up_cons ha
    obtain ⟨i1, i2⟩ := leads la [] h2 hb
    have e : dif (a :: la) [] = ⟨a.p, false, ⟨#[]⟩⟩ :: dif la [] := by unfold dif; rw [mergeL, List.flatMap_cons]; rfl
    rw [e, app_here rfl, i1]
    exact ⟨rfl, List.pairwise_cons.2 ⟨dif_above h1 (by simp), i2⟩⟩
  | [], b :: lb, ha, hb => by
    obtain ⟨h1, h2⟩ := up_cons hb
    obtain ⟨i1, i2⟩ := leads [] lb ha h2
    have e : dif [] (b :: lb) = ⟨b.p, true, b.t⟩ :: dif [] lb := by unfold dif; rw [mergeL, List.flatMap_cons]; rfl
    rw [e, app_new (by simp) rfl, i1]
    exact ⟨rfl, List.pairwise_cons.2 ⟨dif_above (by simp) h1, i2⟩⟩
  | a :: la, b :: lb, ha, hb => by
    obtain ⟨h1, h2⟩ := up_cons ha
    obtain ⟨k1, k2⟩ := up_cons hb
    cases c1 : lt a.p b.p with
    | true =>
      obtain ⟨i1, i2⟩ := leads la (b :: lb) h2 hb
      have e : dif (a :: la) (b :: lb) = ⟨a.p, false, ⟨#[]⟩⟩ :: dif la (b :: lb) := by unfold dif; rw [mergeL, if_pos c1, List.flatMap_cons]; rfl
      rw [e, app_here rfl, i1]
      refine ⟨rfl, List.pairwise_cons.2 ⟨dif_above h1 fun y hy => ?_, i2⟩⟩
      rcases List.mem_cons.1 hy with rfl | hy
      · exact c1
      · exact lt_trans' c1 (k1 y hy)
    | false =>
      cases c2 : lt b.p a.p with
      | true =>
        obtain ⟨i1, i2⟩ := leads (a :: la) lb ha k2
        have e : dif (a :: la) (b :: lb) = ⟨b.p, true, b.t⟩ :: dif (a :: la) lb := by unfold dif; rw [mergeL, if_neg (by rw [c1]; simp), if_pos c2, List.flatMap_cons]; rfl
        have hab : ∀ y ∈ a :: la, lt b.p y.p = true := fun y hy => by
          rcases List.mem_cons.1 hy with rfl | hy
          · exact c2
          · exact lt_trans' c2 (h1 y hy)
        rw [e, app_new hab rfl, i1]
        exact ⟨rfl, List.pairwise_cons.2 ⟨dif_above hab k1, i2⟩⟩
      | false =>
        have he : a.p = b.p := lt_eq c1 c2
        obtain ⟨i1, i2⟩ := leads la lb h2 k2
        have hd : ∀ c ∈ dif la lb, lt a.p c.p = true := dif_above h1 (fun y hy => by rw [he]; exact k1 y hy)
        have e : dif (a :: la) (b :: lb) = (if a.t.toList == b.t.toList then [] else [⟨b.p, true, b.t⟩]) ++ dif la lb := by unfold dif; rw [mergeL, if_neg (by rw [c1]; simp), if_neg (by rw [c2]; simp), List.flatMap_cons]; rfl
        rw [e]
        cases ht : a.t.toList == b.t.toList with
        | true =>
          have e2 : a.t = b.t := bytes_ext (by simpa using ht)
          have e3 : a = b := by cases a; cases b; simp_all
          rw [if_pos rfl, List.nil_append, app_keep hd, i1, e3]
          exact ⟨rfl, i2⟩
        | false =>
          rw [if_neg (by simp), List.singleton_append, app_here he, i1]
          refine ⟨rfl, List.pairwise_cons.2 ⟨fun y hy => ?_, i2⟩⟩
          show lt b.p y.p = true
          rw [← he]
          exact hd y hy
  termination_by la lb => la.length + lb.length
theorem dif_same : ∀ (l : List Rw), dif l l = []
  | [] => by simp [dif, mergeL]
  | a :: l => by
    have := dif_same l
    unfold dif at this ⊢
    rw [mergeL, if_neg (by rw [lt_irrefl']; simp), if_neg (by rw [lt_irrefl']; simp), List.flatMap_cons, this]
    simp [pD]
end Go.Proofs.Ytkdmlffnkomdhaa
