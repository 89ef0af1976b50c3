/-
  LOGS, PURE: which may be, their places, what a splice, an append and a cut make of them.
-/
import Derived.Test.YtgdcahakefmakaaRows
namespace Go.Proofs.Ytgdcahakefmakaa
set_option linter.unusedVariables false
set_option linter.unusedSimpArgs false

/-- An entry; a log. -/
structure Ev where
  t : Nat
  k : Int
  d : List UInt8
structure Lg where
  bi : Nat
  bt : Nat
  es : List Ev
theorem Ev.ext_ {a b : Ev} (h1 : a.t = b.t) (h2 : a.k = b.k) (h3 : a.d = b.d) : a = b := by cases a; cases b; cases h1; cases h2; cases h3; rfl
theorem Lg.ext_ {a b : Lg} (h1 : a.bi = b.bi) (h2 : a.bt = b.bt) (h3 : a.es = b.es) : a = b := by cases a; cases b; cases h1; cases h2; cases h3; rfl
def zLg : Lg := ⟨0, 0, []⟩
/-- The greatest index. -/
def topI : Nat := 18446744073709551614
def mostD (k : Int) : Nat := if k = 1 then 0 else 1024
def kindOk (k : Int) : Bool := k == 1 || k == 2 || k == 3
def okE (e : Ev) : Bool := kindOk e.k && (decide (0 < e.t) && decide (e.d.length ≤ mostD e.k))
def riseE : Nat → List Ev → Bool
  | _, [] => true
  | f, e :: r => okE e && (decide (f ≤ e.t) && riseE e.t r)
def mayW (pi pt : Nat) (es : List Ev) : Bool := decide (pi ≤ topI) && (decide (es.length ≤ topI - pi) && riseE pt es)
def isLogW (l : Lg) : Bool := (decide (l.bi = 0) == decide (l.bt = 0)) && (decide (l.es.length ≤ 16) && mayW l.bi l.bt l.es)
/-- The Term of the place with an index. -/
def placeW (l : Lg) (i : Nat) : Option Nat := if i = l.bi then some l.bt else if l.bi < i then (l.es[i - l.bi - 1]?).map Ev.t else none
def hasW (l : Lg) (i t : Nat) : Bool := placeW l i == some t
def lastT : Nat → List Ev → Nat
  | f, [] => f
  | _, e :: r => lastT e.t r
def lastI (l : Lg) : Nat := l.bi + l.es.length
def knownW (l : Lg) : Nat → List Ev → Nat
  | _, [] => 0
  | p, e :: r => if decide (p + 1 ≤ l.bi) || hasW l (p + 1) e.t then knownW l (p + 1) r + 1 else 0
/-- What a splice makes: the log, the last index, the error. -/
def spliceW (l : Lg) (pi pt : Nat) (es : List Ev) : Lg × Nat × Int :=
  if isLogW l = false then (zLg, 0, 220) else if mayW pi pt es = false then (zLg, 0, 2) else if l.bi ≤ pi ∧ hasW l pi pt = false then (zLg, 0, 4) else
  match es.drop (knownW l pi es) with
  | [] => (l, pi + es.length, 0)
  | e :: r => match placeW l (pi + knownW l pi es) with
    | none => (zLg, 0, 4)
    | some a => if e.t < a then (zLg, 0, 2) else if 16 < (pi + knownW l pi es - l.bi) + (r.length + 1) then (zLg, 0, 6)
      else (⟨l.bi, l.bt, l.es.take (pi + knownW l pi es - l.bi) ++ e :: r⟩, pi + es.length, 0)
def appendW (l : Lg) (e : Ev) : Lg × (Nat × Nat) × Int :=
  if isLogW l = false then (zLg, (0, 0), 220) else if okE e = false ∨ e.t < lastT l.bt l.es then (zLg, (0, 0), 2) else if l.es.length = 16 ∨ lastI l = topI then (zLg, (0, 0), 6)
  else (⟨l.bi, l.bt, l.es ++ [e]⟩, (lastI l + 1, e.t), 0)
def compactW (l : Lg) (i : Nat) : Lg × Int :=
  if isLogW l = false then (zLg, 220) else match placeW l i with
  | none => (zLg, 4)
  | some t => (⟨i, t, l.es.drop (i - l.bi)⟩, 0)
def fromW (l : Lg) (i : Nat) (n : Int) : (Nat × Nat) × List Ev × Int :=
  if isLogW l = false then ((0, 0), [], 220) else if i = 0 then ((0, 0), [], 4) else match placeW l (i - 1) with
  | none => ((0, 0), [], 4)
  | some t => if n < 0 then ((0, 0), [], 2) else ((i - 1, t), (l.es.drop (i - 1 - l.bi)).take n.toNat, 0)

section
theorem riseE_mono : ∀ {f g : Nat} {l : List Ev}, riseE f l = true → g ≤ f → riseE g l = true
  | _, _, [], _, _ => rfl
  | f, g, e :: r, h, hg => by
    simp only [riseE, Bool.and_eq_true, decide_eq_true_eq] at h ⊢
    exact ⟨h.1, by omega, h.2.2⟩
theorem riseE_app : ∀ {f : Nat} {a b : List Ev}, riseE f (a ++ b) = (riseE f a && riseE (lastT f a) b)
  | _, [], _ => by simp [riseE, lastT]
  | f, e :: r, b => by
    simp only [List.cons_append, riseE, lastT, riseE_app (a := r), Bool.and_assoc]
theorem lastT_app : ∀ {f : Nat} {a b : List Ev}, lastT f (a ++ b) = lastT (lastT f a) b
  | _, [], _ => rfl
  | f, e :: r, b => by simp only [List.cons_append, lastT, lastT_app (a := r)]
theorem riseE_le : ∀ {f : Nat} {a : List Ev}, riseE f a = true → f ≤ lastT f a
  | _, [], _ => Nat.le_refl _
  | f, e :: r, h => by
    simp only [riseE, Bool.and_eq_true, decide_eq_true_eq] at h
    exact Nat.le_trans h.2.1 (riseE_le h.2.2)
theorem riseE_mem : ∀ {f : Nat} {a : List Ev}, riseE f a = true → ∀ e ∈ a, okE e = true ∧ f ≤ e.t
  | _, [], _, e, h => by simp at h
  | f, x :: r, h, e, hm => by
    simp only [riseE, Bool.and_eq_true, decide_eq_true_eq] at h
    rcases List.mem_cons.1 hm with rfl | hm
    · exact ⟨h.1, h.2.1⟩
    · have := riseE_mem h.2.2 e hm
      exact ⟨this.1, by omega⟩
theorem okE_pos {e : Ev} (h : okE e = true) : 0 < e.t := by
  simp only [okE, Bool.and_eq_true, decide_eq_true_eq] at h
  exact h.2.1
theorem lastT_take {f : Nat} : ∀ {a : List Ev} {i : Nat} (h : i < a.length), lastT f (a.take (i + 1)) = (a[i]).t
  | e :: r, 0, _ => rfl
  | e :: r, i + 1, h => by
    simp only [List.take_succ_cons, lastT, List.getElem_cons_succ]
    exact lastT_take (by simpa using h)
theorem placeW_last (l : Lg) : placeW l (lastI l) = some (lastT l.bt l.es) := by
  unfold placeW lastI
  rcases he : l.es with _ | ⟨e, r⟩
  · simp [lastT]
  · rw [if_neg (by simp), if_pos (by simp)]
    have h : l.es.length - 1 < l.es.length := by rw [he]; simp
    have := lastT_take (f := l.bt) h
    rw [show l.es.length - 1 + 1 = l.es.length by rw [he]; simp, List.take_length] at this
    rw [← he, this, show l.bi + l.es.length - l.bi - 1 = l.es.length - 1 by omega, List.getElem?_eq_getElem h]
    rfl
theorem placeW_some {l : Lg} {i t : Nat} (h : placeW l i = some t) : l.bi ≤ i ∧ i ≤ lastI l ∧ t = lastT l.bt (l.es.take (i - l.bi)) := by
  unfold placeW at h
  unfold lastI
  by_cases h1 : i = l.bi
  · subst h1
    rw [if_pos rfl] at h
    injection h with h
    refine ⟨Nat.le_refl _, by omega, ?_⟩
    rw [Nat.sub_self, List.take_zero]
    exact h.symm
  · rw [if_neg h1] at h
    by_cases h2 : l.bi < i
    · rw [if_pos h2] at h
      rcases hg : l.es[i - l.bi - 1]? with _ | e
      · rw [hg] at h; cases h
      · rw [hg] at h
        obtain ⟨h3, h4⟩ := List.getElem?_eq_some_iff.1 hg
        refine ⟨by omega, by omega, ?_⟩
        have := lastT_take (f := l.bt) h3
        rw [show i - l.bi - 1 + 1 = i - l.bi by omega] at this
        rw [this, h4]
        simpa using h.symm
    · rw [if_neg h2] at h; cases h
theorem placeW_at {l : Lg} {i : Nat} (h1 : l.bi ≤ i) (h2 : i ≤ lastI l) : placeW l i = some (lastT l.bt (l.es.take (i - l.bi))) := by
  unfold placeW
  unfold lastI at h2
  by_cases h : i = l.bi
  · subst h
    rw [if_pos rfl, Nat.sub_self, List.take_zero]
    rfl
  · rw [if_neg h, if_pos (by omega)]
    have h3 : i - l.bi - 1 < l.es.length := by omega
    have := lastT_take (f := l.bt) h3
    rw [show i - l.bi - 1 + 1 = i - l.bi by omega] at this
    rw [this, List.getElem?_eq_getElem h3]
    rfl
theorem placeW_none {l : Lg} {i : Nat} : placeW l i = none ↔ (i < l.bi ∨ lastI l < i) := by
  constructor
  · intro h
    rcases Nat.lt_or_ge i l.bi with h1 | h1
    · exact .inl h1
    · rcases Nat.lt_or_ge (lastI l) i with h2 | h2
      · exact .inr h2
      · rw [placeW_at h1 h2] at h; cases h
  · intro h
    rcases hp : placeW l i with _ | t
    · rfl
    · have := placeW_some hp
      omega
theorem hasW_iff {l : Lg} {i t : Nat} : hasW l i t = true ↔ placeW l i = some t := by unfold hasW; simp
theorem knownW_le (l : Lg) : ∀ (p : Nat) (es : List Ev), knownW l p es ≤ es.length
  | _, [] => by simp [knownW]
  | p, e :: r => by
    unfold knownW
    have := knownW_le l (p + 1) r
    split <;> simp <;> omega
theorem knownW_had (l : Lg) : ∀ (p : Nat) (es : List Ev) (i : Nat) (h : i < knownW l p es), p + i + 1 ≤ l.bi ∨ ∃ h' : i < es.length, placeW l (p + i + 1) = some (es[i]).t
  | _, [], i, h => by simp [knownW] at h
  | p, e :: r, i, h => by
    unfold knownW at h
    split at h
    · rename_i hc
      rcases i with _ | i
      · simp only [Bool.or_eq_true, decide_eq_true_eq] at hc
        rcases hc with hc | hc
        · exact .inl (by omega)
        · exact .inr ⟨by simp, by simpa using hasW_iff.1 hc⟩
      · rcases knownW_had l (p + 1) r i (by omega) with h1 | ⟨h1, h2⟩
        · exact .inl (by omega)
        · exact .inr ⟨by simpa using h1, by rw [show p + (i + 1) + 1 = p + 1 + i + 1 by omega, h2]; rfl⟩
    · omega
theorem knownW_not (l : Lg) : ∀ (p : Nat) (es : List Ev) (h : knownW l p es < es.length), l.bi < p + knownW l p es + 1 ∧ placeW l (p + knownW l p es + 1) ≠ some (es[knownW l p es]).t
  | _, [], h => by simp at h
  | p, e :: r, h => by
    by_cases hc : (decide (p + 1 ≤ l.bi) || hasW l (p + 1) e.t) = true
    · have e1 : knownW l p (e :: r) = knownW l (p + 1) r + 1 := by rw [knownW, if_pos hc]
      have := knownW_not l (p + 1) r (by rw [e1] at h; simpa using h)
      simp only [e1, List.getElem_cons_succ]
      rw [show p + (knownW l (p + 1) r + 1) + 1 = p + 1 + knownW l (p + 1) r + 1 by omega]
      exact this
    · have e1 : knownW l p (e :: r) = 0 := by rw [knownW, if_neg hc]
      simp only [e1, List.getElem_cons_zero]
      simp only [Bool.or_eq_true, decide_eq_true_eq, not_or, hasW_iff] at hc
      exact ⟨by omega, hc.2⟩
end
end Go.Proofs.Ytgdcahakefmakaa
