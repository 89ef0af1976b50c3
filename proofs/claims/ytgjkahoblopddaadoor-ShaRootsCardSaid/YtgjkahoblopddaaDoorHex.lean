/-
  A TEXT'S SIGNS, AND THE DIGEST THAT THEY SAY (pure).
-/
import Derived.Test.YtgjkahoblopddaaDoorText
import Derived.Laws.Runes
namespace Go.Proofs.YtgjkahoblopddaaDoor
set_option linter.unusedVariables false
set_option linter.unusedSimpArgs false
open Go.RowKit Go.WideShapes Go.ChangeShapes

abbrev sgB : ByteArray := ⟨#[48, 49, 50, 51, 52, 53, 54, 55, 56, 57, 97, 98, 99, 100, 101, 102]⟩
/-- Which half a sign says; -1: none. -/
def hx (c : UInt8) : Int := firstIdx sgB c
theorem hx_bd (c : UInt8) : -1 ≤ hx c ∧ hx c < 16 := by
  have : ∀ n : Fin 256, -1 ≤ hx (UInt8.ofNat n.val) ∧ hx (UInt8.ofNat n.val) < 16 := by decide +kernel
  have h := this ⟨c.toNat, c.toNat_lt⟩
  simpa using h
theorem hx_low (c : UInt8) (h : 0 ≤ hx c) : c.toNat < 128 := by
  have : ∀ n : Fin 256, 0 ≤ hx (UInt8.ofNat n.val) → n.val < 128 := by decide +kernel
  have h2 := this ⟨c.toNat, c.toNat_lt⟩
  simp only [UInt8.ofNat_toNat] at h2
  exact h2 h
theorem hx_sgn (c : UInt8) (h : 0 ≤ hx c) : sgn16 (hx c).toNat = c := by
  have : ∀ n : Fin 256, 0 ≤ hx (UInt8.ofNat n.val) → sgn16 (hx (UInt8.ofNat n.val)).toNat = UInt8.ofNat n.val := by decide +kernel
  have h2 := this ⟨c.toNat, c.toNat_lt⟩
  simp only [UInt8.ofNat_toNat] at h2
  exact h2 h
theorem sgn_hx (n : Nat) (h : n < 16) : hx (sgn16 n) = (n : Int) := by
  have : ∀ n : Fin 16, hx (sgn16 n.val) = (n.val : Int) := by decide +kernel
  exact this ⟨n, h⟩
/-- The half, as a byte. -/
def hb (c : UInt8) : UInt8 := UInt8.ofNat (hx c).toNat
/-- A byte, with a half behind it. -/
def upd (x h : UInt8) : UInt8 := x <<< 4 ||| h
theorem upd_val (x h : UInt8) : bits .or .u8 (IntKind.u8.wrap ((x.toNat : Int) * 16)) (h.toNat : Int) = ((upd x h).toNat : Int) := by
  have : ∀ n : Fin 256, ∀ m : Fin 256, bits .or .u8 (IntKind.u8.wrap ((n.val : Int) * 16)) (m.val : Int) = ((upd (UInt8.ofNat n.val) (UInt8.ofNat m.val)).toNat : Int) := by decide +kernel
  have h2 := this ⟨x.toNat, x.toNat_lt⟩ ⟨h.toNat, h.toNat_lt⟩
  simpa using h2
theorem upd_zero (h : UInt8) : upd 0 h = h := by
  unfold upd
  simp
theorem hb_val (c : UInt8) (h : 0 ≤ hx c) : ((hb c).toNat : Int) = hx c := by
  have hh := (hx_bd c).2
  unfold hb
  have e : (UInt8.ofNat (hx c).toNat).toNat = (hx c).toNat := by
    rw [UInt8.toNat_ofNat']
    omega
  rw [e]
  omega
/-- What stands at a place behind the first k signs. -/
def idAt (l : List UInt8) (k i : Nat) : UInt8 := if 2 * i + 1 < k then upd (hb (l.getD (2 * i) 0)) (hb (l.getD (2 * i + 1) 0)) else if 2 * i < k then hb (l.getD (2 * i) 0) else 0
def rowP (l : List UInt8) (k : Nat) : List UInt8 := (List.range 32).map (idAt l k)
theorem rowP_len (l : List UInt8) (k : Nat) : (rowP l k).length = 32 := by simp [rowP]
theorem rowP_get (l : List UInt8) (k i : Nat) (h : i < 32) : (rowP l k).getD i 0 = idAt l k i := by
  rw [List.getD_eq_getElem?_getD]
  simp [rowP, h]
theorem rowP_zero (l : List UInt8) : rowP l 0 = List.replicate 32 0 := by
  apply List.ext_getElem
  · simp [rowP]
  · intro i h1 h2
    rw [List.getElem_replicate]
    simp only [rowP, List.getElem_map, idAt]
    rw [if_neg (by omega), if_neg (by omega)]
theorem rowP_set (l : List UInt8) (k : Nat) (hk : k < 64) : (rowP l k).set (k / 2) (upd ((rowP l k).getD (k / 2) 0) (hb (l.getD k 0))) = rowP l (k + 1) := by
  rw [rowP_get l k (k / 2) (by omega)]
  apply List.ext_getElem
  · simp [rowP]
  · intro i h1 h2
    rw [List.getElem_set]
    have hi : i < 32 := by simpa [rowP] using h2
    by_cases he : k / 2 = i
    · rw [if_pos he]
      simp only [rowP, List.getElem_map, List.getElem_range]
      subst he
      rcases Nat.mod_two_eq_zero_or_one k with hm | hm
      · have e1 : 2 * (k / 2) = k := by omega
        simp only [idAt, e1]
        rw [if_neg (by omega), if_neg (by omega), if_neg (by omega), if_pos (by omega)]
        exact upd_zero _
      · have e1 : 2 * (k / 2) + 1 = k := by omega
        have e2 : 2 * (k / 2) < k := by omega
        simp only [idAt, e1]
        rw [if_neg (by omega), if_pos e2, if_pos (by omega)]
    · rw [if_neg he]
      simp only [rowP, List.getElem_map, List.getElem_range, idAt]
      by_cases c1 : 2 * i + 1 < k
      · rw [if_pos c1, if_pos (by omega)]
      · by_cases c2 : 2 * i < k
        · exfalso; omega
        · rw [if_neg c1, if_neg c2, if_neg (by omega), if_neg (by omega)]
/-- Is it a digest's text? -/
def goodL (l : List UInt8) : Bool := l.length == 64 && l.all fun c => decide (0 ≤ hx c)
/-- Whose text it is; its error. -/
def parseW (l : List UInt8) : List UInt8 := if goodL l then rowP l 64 else List.replicate 32 0
def parseE (l : List UInt8) : Int := if goodL l then 0 else 130
theorem parseW_len (l : List UInt8) : (parseW l).length = 32 := by
  unfold parseW
  split
  · exact rowP_len _ _
  · simp
theorem goodL_of {l : List UInt8} (hl : l.length = 64) (h : ∀ i, i < 64 → 0 ≤ hx (l.getD i 0)) : goodL l = true := by
  simp only [goodL, hl, Bool.and_eq_true, List.all_eq_true, decide_eq_true_eq]
  refine ⟨by decide, fun c hc => ?_⟩
  obtain ⟨i, hi, rfl⟩ := List.getElem_of_mem hc
  have := h i (by omega)
  rwa [List.getD_eq_getElem?_getD, List.getElem?_eq_getElem hi] at this
theorem goodL_bad {l : List UInt8} {i : Nat} (hi : i < l.length) (h : hx (l.getD i 0) < 0) : goodL l = false := by
  rw [List.getD_eq_getElem?_getD, List.getElem?_eq_getElem hi] at h
  cases hg : goodL l
  · rfl
  · simp only [goodL, Bool.and_eq_true, List.all_eq_true, decide_eq_true_eq] at hg
    have h2 := hg.2 l[i] (List.getElem_mem hi)
    simp only [Option.getD_some] at h
    omega
theorem textW_at (l : List UInt8) : ∀ (i : Nat), i < l.length → (textW l).getD (2 * i) 0 = sgn16 ((l.getD i 0).toNat / 16) ∧ (textW l).getD (2 * i + 1) 0 = sgn16 ((l.getD i 0).toNat % 16) := by
  induction l with
  | nil => intro i hi; simp at hi
  | cons x r ih =>
    intro i hi
    have h : textW (x :: r) = sgn16 (x.toNat / 16) :: sgn16 (x.toNat % 16) :: textW r := by simp [textW]
    rw [h]
    cases i with
    | zero => simp
    | succ j =>
      have := ih j (by simpa using hi)
      simp only [Nat.mul_add, Nat.mul_one, List.getD_cons_succ]
      exact this
/-- The text of a digest says it. -/
theorem text_good (l : List UInt8) (hl : l.length = 32) : goodL (textW l) = true := by
  refine goodL_of (by rw [textW_len, hl]) fun i hi => ?_
  have h := textW_at l (i / 2) (by omega)
  rcases Nat.mod_two_eq_zero_or_one i with hm | hm
  · have e : 2 * (i / 2) = i := by omega
    rw [e] at h
    rw [h.1, sgn_hx _ (by have := (l.getD (i / 2) 0).toNat_lt; omega)]
    omega
  · have e : 2 * (i / 2) + 1 = i := by omega
    rw [e] at h
    rw [h.2, sgn_hx _ (by omega)]
    omega
theorem upd_back (x : UInt8) : upd (hb (sgn16 (x.toNat / 16))) (hb (sgn16 (x.toNat % 16))) = x := by
  have : ∀ n : Fin 256, upd (hb (sgn16 (n.val / 16))) (hb (sgn16 (n.val % 16))) = UInt8.ofNat n.val := by decide +kernel
  have h := this ⟨x.toNat, x.toNat_lt⟩
  simpa using h
theorem parse_text (l : List UInt8) (hl : l.length = 32) : parseW (textW l) = l := by
  unfold parseW
  rw [text_good l hl, if_pos rfl]
  apply List.ext_getElem
  · rw [rowP_len, hl]
  · intro i h1 h2
    have h := textW_at l i h2
    simp only [rowP, List.getElem_map, List.getElem_range, idAt]
    rw [if_pos (by omega), h.1, h.2, upd_back]
    rw [List.getD_eq_getElem?_getD, List.getElem?_eq_getElem h2]
    rfl
theorem upd_two (a b : UInt8) (ha : 0 ≤ hx a) (hb' : 0 ≤ hx b) : sgn16 ((upd (hb a) (hb b)).toNat / 16) = a ∧ sgn16 ((upd (hb a) (hb b)).toNat % 16) = b := by
  have h : ∀ n m : Fin 16, (upd (UInt8.ofNat n.val) (UInt8.ofNat m.val)).toNat / 16 = n.val ∧ (upd (UInt8.ofNat n.val) (UInt8.ofNat m.val)).toNat % 16 = m.val := by decide +kernel
  have h2 := h ⟨(hx a).toNat, by have := (hx_bd a).2; omega⟩ ⟨(hx b).toNat, by have := (hx_bd b).2; omega⟩
  unfold hb
  rw [h2.1, h2.2]
  exact ⟨hx_sgn a ha, hx_sgn b hb'⟩
theorem text_parse (l : List UInt8) (hg : goodL l = true) : textW (parseW l) = l := by
  have hg0 := hg
  unfold parseW
  rw [hg, if_pos rfl]
  simp only [goodL, Bool.and_eq_true, List.all_eq_true, decide_eq_true_eq, beq_iff_eq] at hg
  obtain ⟨hl, ha⟩ := hg
  have hA : ∀ i, i < 64 → 0 ≤ hx (l.getD i 0) := fun i hi => by
    rw [List.getD_eq_getElem?_getD, List.getElem?_eq_getElem (show i < l.length by omega)]
    exact ha _ (List.getElem_mem _)
  have hlen : (textW (rowP l 64)).length = 64 := by rw [textW_len, rowP_len]
  apply List.ext_getElem
  · rw [hlen, hl]
  · intro i h1 h2
    have h := textW_at (rowP l 64) (i / 2) (by rw [rowP_len]; omega)
    rw [rowP_get _ _ _ (by omega)] at h
    have e : idAt l 64 (i / 2) = upd (hb (l.getD (2 * (i / 2)) 0)) (hb (l.getD (2 * (i / 2) + 1) 0)) := by unfold idAt; rw [if_pos (by omega)]
    rw [e] at h
    have hu := upd_two (l.getD (2 * (i / 2)) 0) (l.getD (2 * (i / 2) + 1) 0) (hA _ (by omega)) (hA _ (by omega))
    have g1 : (textW (rowP l 64))[i] = (textW (rowP l 64)).getD i 0 := by rw [List.getD_eq_getElem?_getD, List.getElem?_eq_getElem h1]; rfl
    have g2 : l[i] = l.getD i 0 := by rw [List.getD_eq_getElem?_getD, List.getElem?_eq_getElem h2]; rfl
    rw [g1, g2]
    rcases Nat.mod_two_eq_zero_or_one i with hm | hm
    · have e : 2 * (i / 2) = i := by omega
      rw [e] at h hu
      rw [h.1, hu.1]
    · have e : 2 * (i / 2) + 1 = i := by omega
      rw [e] at h hu
      rw [h.2, hu.2]
end Go.Proofs.YtgjkahoblopddaaDoor
