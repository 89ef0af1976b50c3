/-
  LOGS, PURE: two logs that send one another what they have.
-/
import Derived.Test.YtgdcahakefmakaaPu
namespace Go.Proofs.Ytgdcahakefmakaa
set_option linter.unusedVariables false
set_option linter.unusedSimpArgs false

/-- The Term at a place (from 0 on). -/
def tAt (l : List Ev) (i : Nat) : Option Nat := (l[i]?).map Ev.t
theorem tAt_lt {l : List Ev} {i t : Nat} (h : tAt l i = some t) : i < l.length := by
  unfold tAt at h
  rcases hg : l[i]? with _ | e
  · rw [hg] at h; cases h
  · exact (List.getElem?_eq_some_iff.1 hg).1
theorem tAt_get {l : List Ev} {i : Nat} (h : i < l.length) : tAt l i = some (l[i]).t := by
  unfold tAt
  rw [List.getElem?_eq_getElem h]
  rfl
theorem tAt_app {l m : List Ev} {i : Nat} (h : i < l.length) : tAt (l ++ m) i = tAt l i := by
  unfold tAt
  rw [List.getElem?_append_left h]
theorem tAt_snoc {l : List Ev} {e : Ev} {i t : Nat} (h : tAt (l ++ [e]) i = some t) : tAt l i = some t ∨ (i = l.length ∧ t = e.t) := by
  rcases Nat.lt_or_ge i l.length with h1 | h1
  · left
    rwa [tAt_app h1] at h
  · right
    have h2 := tAt_lt h
    simp at h2
    have h3 : i = l.length := by omega
    subst h3
    unfold tAt at h
    simp at h
    exact ⟨rfl, h.symm⟩
theorem tAt_mem {l : List Ev} {i t : Nat} (h : tAt l i = some t) : ∃ e ∈ l, e.t = t := by
  have h1 := tAt_lt h
  rw [tAt_get h1] at h
  injection h with h
  exact ⟨l[i], List.getElem_mem h1, h⟩
theorem tAt_take {l : List Ev} {i k : Nat} (h : i < k) : tAt (l.take k) i = tAt l i := by
  unfold tAt
  rw [List.getElem?_take_of_lt h]
theorem place0 {l : List Ev} {i : Nat} : placeW ⟨0, 0, l⟩ (i + 1) = tAt l i := by
  unfold placeW tAt
  rw [if_neg (by show ¬ (i + 1 = 0); omega), if_pos (by show 0 < i + 1; omega)]
  rfl
theorem lastT_at : ∀ {f : Nat} {l : List Ev} (h : l ≠ []), tAt l (l.length - 1) = some (lastT f l)
  | f, [e], _ => rfl
  | f, e :: x :: r, _ => by
    have := lastT_at (f := e.t) (l := x :: r) (by simp)
    rw [lastT, ← this]
    rfl

/-- What holds of two logs, of the last terms of their own, and of the greatest term. -/
structure Inv (w o : List Ev) (ow oo term : Nat) : Prop where
  rw_ : riseE 0 w = true
  ro : riseE 0 o = true
  lw : w.length ≤ 16
  lo : o.length ≤ 16
  tw : ∀ e ∈ w, e.t ≤ term
  to : ∀ e ∈ o, e.t ≤ term
  bw : ow ≤ term
  bo : oo ≤ term
  ap : ow = oo → ow = 0
  m : ∀ i t, tAt w i = some t → tAt o i = some t → w.take (i + 1) = o.take (i + 1)
  hw : ∀ i, tAt o i = some ow → tAt w i = some ow
  ho : ∀ i, tAt w i = some oo → tAt o i = some oo
theorem Inv.nil : Inv [] [] 0 0 0 := ⟨rfl, rfl, by simp, by simp, by simp, by simp, by omega, by omega, fun _ => rfl, fun i t h => by simp [tAt] at h, fun i h => by simp [tAt] at h, fun i h => by simp [tAt] at h⟩
theorem Inv.sym {w o : List Ev} {ow oo term : Nat} (h : Inv w o ow oo term) : Inv o w oo ow term :=
  ⟨h.ro, h.rw_, h.lo, h.lw, h.to, h.tw, h.bo, h.bw, fun e => by have := h.ap e.symm; omega, fun i t h1 h2 => (h.m i t h2 h1).symm, h.ho, h.hw⟩
theorem inv_pos {w : List Ev} (h : riseE 0 w = true) {i t : Nat} (hi : tAt w i = some t) : 0 < t := by
  obtain ⟨e, he, rfl⟩ := tAt_mem hi
  exact okE_pos (riseE_mem h e he).1
theorem lastT_max {w : List Ev} {term : Nat} (h : ∀ e ∈ w, e.t ≤ term) : lastT 0 w ≤ term := by
  by_cases hw : w = []
  · subst hw; exact Nat.zero_le _
  · obtain ⟨e, he, h1⟩ := tAt_mem (lastT_at (f := 0) hw)
    rw [← h1]
    exact h e he
/-- A new term that nothing was put in. -/
theorem Inv.full {w o : List Ev} {ow oo term : Nat} (h : Inv w o ow oo term) : Inv w o (term + 1) oo (term + 1) := by
  refine ⟨h.rw_, h.ro, h.lw, h.lo, fun e he => by have := h.tw e he; omega, fun e he => by have := h.to e he; omega, Nat.le_refl _, by have := h.bo; omega, fun e => by have := h.bo; omega, h.m, fun i hi => ?_, h.ho⟩
  obtain ⟨e, he, h1⟩ := tAt_mem hi
  have := h.to e he
  omega
theorem Inv.snoc {w o : List Ev} {ow oo term : Nat} (h : Inv w o ow oo term) {e : Ev} (he : okE e = true) (hl : lastT 0 w ≤ e.t) (ht : e.t = ow) (h16 : w.length < 16) : Inv (w ++ [e]) o ow oo term := by
  have hp := okE_pos he
  have hno : ∀ t, tAt o w.length = some t → t ≠ e.t := fun t h1 h2 => by
    have h3 := h.hw w.length (by rw [h1, h2, ht])
    have := tAt_lt h3
    omega
  refine ⟨?_, h.ro, by simp; omega, h.lo, fun x hx => ?_, h.to, h.bw, h.bo, h.ap, fun i t h1 h2 => ?_, fun i hi => ?_, fun i hi => ?_⟩
  · rw [riseE_app, h.rw_]
    simp only [riseE, he, Bool.true_and, Bool.and_true]
    simpa using hl
  · rcases List.mem_append.1 hx with hx | hx
    · exact h.tw x hx
    · simp at hx
      subst hx
      rw [ht]
      exact h.bw
  · rcases tAt_snoc h1 with h3 | ⟨h3, h4⟩
    · have := h.m i t h3 h2
      have hi := tAt_lt h3
      rw [List.take_append_of_le_length (by omega)]
      exact this
    · subst h3
      exact absurd h4 (hno t h2)
  · have h1 := h.hw i hi
    rw [tAt_app (tAt_lt h1)]
    exact h1
  · rcases tAt_snoc hi with h3 | ⟨h3, h4⟩
    · exact h.ho i h3
    · have := h.ap (by omega)
      omega
theorem Inv.fresh {w o : List Ev} {ow oo term : Nat} (h : Inv w o ow oo term) {e : Ev} (he : okE e = true) (ht : e.t = term + 1) (h16 : w.length < 16) : Inv (w ++ [e]) o (term + 1) oo (term + 1) :=
  h.full.snoc he (by have := lastT_max h.tw; omega) ht h16
theorem rise_take {f : Nat} {w : List Ev} (h : riseE f w = true) (k : Nat) : riseE f (w.take k) = true := by
  have e := List.take_append_drop k w
  rw [← e, riseE_app] at h
  simp only [Bool.and_eq_true] at h
  exact h.1
theorem rise_drop {f : Nat} {w : List Ev} (h : riseE f w = true) (k : Nat) : riseE (lastT f (w.take k)) (w.drop k) = true := by
  have e := List.take_append_drop k w
  rw [← e, riseE_app] at h
  simp only [Bool.and_eq_true] at h
  rw [← e]
  simpa using h.2
theorem isLog0 {w : List Ev} (h : riseE 0 w = true) (hl : w.length ≤ 16) : isLogW ⟨0, 0, w⟩ = true := by
  unfold isLogW mayW topI
  simp [h, hl]
  omega
/-- The other one has the first k of w. -/
theorem Inv.cut {w o : List Ev} {ow oo term : Nat} (h : Inv w o ow oo term) (k : Nat) (hk : k ≤ w.length) (ho : ∀ i, tAt w i = some oo → i < k) : Inv w (w.take k) ow oo term := by
  refine ⟨h.rw_, rise_take h.rw_ k, h.lw, by have := h.lw; simp; omega, h.tw, fun e he => h.tw e (List.mem_of_mem_take he), h.bw, h.bo, h.ap, fun i t h1 h2 => ?_, fun i hi => ?_, fun i hi => ?_⟩
  · have := tAt_lt h2
    simp at this
    rw [List.take_take, Nat.min_eq_left (by omega)]
  · have := tAt_lt hi
    simp at this
    rwa [tAt_take (by omega)] at hi
  · rw [tAt_take (ho i hi)]
    exact hi
theorem tAt_known {o part : List Ev} {p : Nat} : ∀ i, i < knownW ⟨0, 0, o⟩ p part → ∃ h : i < part.length, tAt o (p + i) = some (part[i]).t := fun i hi => by
  rcases knownW_had ⟨0, 0, o⟩ p part i hi with h | ⟨h, h2⟩
  · simp at h
  · refine ⟨h, ?_⟩
    rw [place0] at h2
    exact h2
/-- What the other one makes of what it is sent. -/
theorem Inv.sent {w o : List Ev} {ow oo term : Nat} (h : Inv w o ow oo term) (p pt m : Nat) (hp : placeW ⟨0, 0, w⟩ p = some pt) :
    ∃ r, spliceW ⟨0, 0, o⟩ p pt ((w.drop p).take m) = r ∧ (r.2.2 = 0 ∧ r.1.bi = 0 ∧ r.1.bt = 0 ∧ Inv w r.1.es ow oo term ∨ r.2.2 = 4 ∨ r.2.2 = 6) := by
  refine ⟨_, rfl, ?_⟩
  have hpl := placeW_some hp
  simp only [lastI, Nat.sub_zero, Nat.zero_add] at hpl
  obtain ⟨-, hpw, hpt⟩ := hpl
  have hrp : riseE pt ((w.drop p).take m) = true := by rw [hpt]; exact rise_take (rise_drop h.rw_ p) m
  have hmw : mayW p pt ((w.drop p).take m) = true := by
    unfold mayW topI
    have := h.lw
    simp [hrp]
    omega
  unfold spliceW
  rw [if_neg (by rw [isLog0 h.ro h.lo]; simp), if_neg (by rw [hmw]; simp)]
  rcases hh : hasW ⟨0, 0, o⟩ p pt with _ | _
  · rw [if_pos ⟨Nat.zero_le _, rfl⟩]
    exact .inr (.inl rfl)
  rw [if_neg (by simp [hh])]
  have hop := hasW_iff.1 hh
  obtain ⟨n, hn⟩ : ∃ n, knownW ⟨0, 0, o⟩ p ((w.drop p).take m) = n := ⟨_, rfl⟩
  have hkn := fun i => tAt_known (o := o) (part := (w.drop p).take m) (p := p) i
  rw [hn] at hkn
  have hnl := knownW_le ⟨0, 0, o⟩ p ((w.drop p).take m)
  rw [hn] at hnl
  have hpw' : ∀ i (h' : i < ((w.drop p).take m).length), tAt w (p + i) = some (((w.drop p).take m)[i]).t := fun i h' => by
    have h3 : p + i < w.length := by simp at h'; omega
    rw [tAt_get h3]
    simp
  -- up to p + n both have the same
  have hsame : w.take (p + n) = o.take (p + n) := by
    rcases Nat.eq_zero_or_pos n with h0 | h0
    · subst h0
      rcases p with _ | p
      · simp
      · rw [place0] at hp hop
        exact h.m p pt hp hop
    · obtain ⟨h1, h2⟩ := hkn (n - 1) (by omega)
      have h3 := hpw' (n - 1) h1
      have := h.m _ _ h3 h2
      rwa [show p + (n - 1) + 1 = p + n by omega] at this
  have hpn : placeW ⟨0, 0, o⟩ (p + n) = some (lastT pt (((w.drop p).take m).take n)) := by
    rcases Nat.eq_zero_or_pos n with h0 | h0
    · subst h0
      simpa [lastT] using hop
    · obtain ⟨h1, h2⟩ := hkn (n - 1) (by omega)
      rw [show p + n = p + (n - 1) + 1 by omega, place0, h2]
      have := lastT_take (f := pt) h1
      rw [show n - 1 + 1 = n by omega] at this
      rw [this]
  rw [hn]
  rcases hd : ((w.drop p).take m).drop n with _ | ⟨e, r⟩
  · refine .inl ⟨rfl, rfl, rfl, h⟩
  · have hlt : n < ((w.drop p).take m).length := by
      rcases Nat.lt_or_ge n ((w.drop p).take m).length with h' | h'
      · exact h'
      · rw [List.drop_eq_nil_of_le h'] at hd; cases hd
    have hde := List.drop_eq_getElem_cons hlt
    rw [hd] at hde
    injection hde with he1 he2
    simp only [hpn]
    have hre : riseE (lastT pt (((w.drop p).take m).take n)) (e :: r) = true := by rw [← hd]; exact rise_drop hrp n
    have hle : lastT pt (((w.drop p).take m).take n) ≤ e.t := by
      simp only [riseE, Bool.and_eq_true, decide_eq_true_eq] at hre
      exact hre.2.1
    rw [if_neg (by omega)]
    by_cases h16 : 16 < p + n - 0 + (r.length + 1)
    · rw [if_pos h16]
      exact .inr (.inr rfl)
    · rw [if_neg h16]
      refine .inl ⟨rfl, rfl, rfl, ?_⟩
      show Inv w (o.take (p + n - 0) ++ e :: r) ow oo term
      have hk : o.take (p + n - 0) ++ e :: r = w.take (p + min m (w.length - p)) := by
        rw [Nat.sub_zero, ← hsame, ← hd, List.drop_take, List.drop_drop, ← List.take_add]
        have hnm : n < m ∧ n < w.length - p := by simp at hlt; omega
        rcases Nat.le_total m (w.length - p) with h' | h'
        · rw [Nat.min_eq_left h', show p + n + (m - n) = p + m by omega]
        · rw [Nat.min_eq_right h', List.take_of_length_le (by omega), List.take_of_length_le (by omega)]
      rw [hk]
      refine h.cut _ (by omega) fun i hi => ?_
      -- an entry of the other one's own term stands among them, or else it would be known
      have hio := h.ho i hi
      rcases Nat.lt_or_ge i (p + min m (w.length - p)) with h' | h'
      · exact h'
      · exfalso
        have hs := h.m i oo hi hio
        have hnm : n < m ∧ n < w.length - p := by simp at hlt; omega
        have h2 : tAt o (p + n) = tAt w (p + n) := by
          rw [← tAt_take (l := o) (show p + n < i + 1 by omega), ← hs, tAt_take (by omega)]
        have h3 := (knownW_not ⟨0, 0, o⟩ p ((w.drop p).take m) (by rw [hn]; exact hlt)).2
        rw [place0] at h3
        apply h3
        have e1 : knownW ⟨0, 0, o⟩ p ((w.drop p).take m) < ((w.drop p).take m).length := by rw [hn]; exact hlt
        rw [← hpw' _ e1, hn, h2]
end Go.Proofs.Ytgdcahakefmakaa
