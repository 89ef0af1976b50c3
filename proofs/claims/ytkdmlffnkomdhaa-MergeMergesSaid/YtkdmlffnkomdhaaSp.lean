/-
  TEXTS THAT ARE SORTED AND COMPACTED RISE, AND ARE THE SAME ONES, PURE.
-/
import Derived.Test.YtkdmlffnkomdhaaPn
import Derived.Test.YtkdmlffnkomdhaaSl
import Derived.Lib.OwnBridge
namespace Go.Proofs.Ytkdmlffnkomdhaa
set_option linter.unusedVariables false
set_option linter.unusedSimpArgs false

def ofL (x : List UInt8) : ByteArray := ⟨x.toArray⟩
theorem ofL_toList (x : List UInt8) : (ofL x).toList = x := by rw [ByteArray.toList_eq]; rfl
theorem toList_ofL (b : ByteArray) : ofL b.toList = b := bytes_ext (ofL_toList _)
theorem encStr_ofL (x : List UInt8) : Go.Proofs.encStr x = .string (ofL x) := rfl
theorem lt_ofL (a b : List UInt8) : lt (ofL a) (ofL b) = decide (a < b) := by
  unfold lt
  rw [ofL_toList, ofL_toList, Go.Proofs.bytesLess_eq]
theorem le_ofL (a b : List UInt8) : decide (a ≤ b) = !lt (ofL b) (ofL a) := by
  rw [lt_ofL]
  by_cases h : b < a
  · have : ¬ a ≤ b := fun k => k h
    rw [decide_eq_true h, decide_eq_false this]; rfl
  · have : a ≤ b := h
    rw [decide_eq_false h, decide_eq_true this]; rfl
theorem sorted_pw (l : List (List UInt8)) : (l.mergeSort fun x y => decide (x ≤ y)).Pairwise (fun x y => lt (ofL y) (ofL x) = false) := by
  have h := List.pairwise_mergeSort (le := fun x y : List UInt8 => decide (x ≤ y)) (fun a b c h k => by
    simp only [le_ofL, Bool.not_eq_true'] at h k ⊢
    cases hc : lt (ofL c) (ofL a) with
    | false => rfl
    | true =>
      cases hab : lt (ofL a) (ofL b) with
      | true => have := lt_trans' hc hab; rw [k] at this; cases this
      | false => have e := lt_eq hab h; rw [e] at hc; rw [k] at hc; cases hc) (fun a b => by
    simp only [le_ofL, Bool.or_eq_true, Bool.not_eq_true']
    cases hab : lt (ofL b) (ofL a) with
    | false => exact .inl rfl
    | true => exact .inr (lt_asymm' hab)) l
  refine h.imp fun {a b} hab => ?_
  simpa only [le_ofL, Bool.not_eq_true'] using hab
theorem compact_mem' (zs : List (List UInt8)) (x : List UInt8) : x ∈ Go.Lib.compact zs ↔ x ∈ zs := by
  unfold Go.Lib.compact Go.Lib.compactUpTo
  simp only [List.mem_map, List.mem_filter, List.mem_range]
  constructor
  · rintro ⟨j, ⟨hj, _⟩, rfl⟩
    rw [getElem!_pos _ j (by simpa using hj)]
    simp
  · intro hx
    obtain ⟨j, hj, rfl⟩ := List.getElem_of_mem hx
    have key : ∀ j, (hj : j < zs.length) → ∃ i, (i < zs.length ∧ Go.Lib.keeps zs.toArray i = true) ∧ zs.toArray[i]! = zs[j] := by
      intro j
      induction j with
      | zero => exact fun h0 => ⟨0, ⟨h0, by simp [Go.Lib.keeps]⟩, by rw [getElem!_pos _ 0 (by simpa using h0)]; simp⟩
      | succ j ih =>
        intro hj
        by_cases he : zs[j + 1] = zs[j]
        · obtain ⟨i, hi, e⟩ := ih (by omega)
          exact ⟨i, hi, by rw [e, he]⟩
        · refine ⟨j + 1, ⟨hj, Go.Lib.keeps_pos ?_⟩, ?_⟩
          · rw [getElem!_pos _ (j + 1) (by simpa using hj), getElem!_pos _ (j + 1 - 1) (by simp; omega)]
            simpa using he
          · rw [getElem!_pos _ (j + 1) (by simpa using hj)]
            simp
    obtain ⟨i, hi, e⟩ := key j hj
    exact ⟨i, hi, e⟩
theorem compact_pw {zs : List (List UInt8)} (h : zs.Pairwise (fun x y => lt (ofL y) (ofL x) = false)) : (Go.Lib.compact zs).Pairwise (fun x y => lt (ofL x) (ofL y) = true) := by
  unfold Go.Lib.compact Go.Lib.compactUpTo
  rw [List.pairwise_map]
  have hr : (List.range zs.length).Pairwise (· < ·) := List.pairwise_lt_range
  refine List.Pairwise.imp_of_mem ?_ (hr.filter _)
  intro i j hi hj hij
  simp only [List.mem_filter, List.mem_range] at hi hj
  have hk := hj.2
  unfold Go.Lib.keeps at hk
  have hne : zs.toArray[j]! ≠ zs.toArray[j - 1]! := by
    rcases of_decide_eq_true hk with h0 | h0
    · omega
    · exact h0
  rw [getElem!_pos _ j (by simpa using hj.1), getElem!_pos _ (j - 1) (by simp; omega)] at hne
  rw [getElem!_pos _ j (by simpa using hj.1), getElem!_pos _ i (by simpa using hi.1)]
  simp only [List.getElem_toArray] at hne ⊢
  have hp := List.pairwise_iff_getElem.1 h
  have h1 : lt (ofL zs[j]) (ofL (zs[j - 1]'(by omega))) = false := hp (j - 1) j (by omega) hj.1 (by omega)
  have h2 : lt (ofL (zs[j - 1]'(by omega))) (ofL zs[i]) = false := by
    by_cases e : i = j - 1
    · subst e; exact lt_irrefl' _
    · exact hp i (j - 1) hi.1 (by omega) (by omega)
  have h3 : lt (ofL (zs[j - 1]'(by omega))) (ofL zs[j]) = true := by
    cases hb : lt (ofL (zs[j - 1]'(by omega))) (ofL zs[j]) with
    | true => rfl
    | false =>
      have e := lt_eq hb h1
      have e2 := congrArg ByteArray.toList e
      rw [ofL_toList, ofL_toList] at e2
      exact absurd e2.symm hne
  cases hb : lt (ofL zs[i]) (ofL zs[j]) with
  | true => rfl
  | false =>
    cases hc : lt (ofL zs[i]) (ofL (zs[j - 1]'(by omega))) with
    | true => rw [lt_trans' hc h3] at hb; cases hb
    | false => rw [← lt_eq hc h2, hb] at h3; cases h3
/-- What is made of texts by sorting and compacting. -/
def srt (l : List ByteArray) : List ByteArray := (Go.Lib.compact ((l.map (·.toList)).mergeSort fun x y => decide (x ≤ y))).map ofL
theorem srt_up (l : List ByteArray) : (srt l).Pairwise (fun x y => lt x y = true) := by
  unfold srt
  rw [List.pairwise_map]
  exact compact_pw (sorted_pw _)
theorem srt_mem (l : List ByteArray) (x : ByteArray) : x ∈ srt l ↔ x ∈ l := by
  unfold srt
  simp only [List.mem_map, compact_mem', List.mem_mergeSort]
  constructor
  · rintro ⟨y, ⟨b, hb, rfl⟩, rfl⟩
    rw [toList_ofL]
    exact hb
  · exact fun hx => ⟨x.toList, ⟨x, hx, rfl⟩, toList_ofL x⟩
/-- It is the paths one by one. -/
theorem srt_paths {α : Type} {p : α → ByteArray} (l : List α) : srt (l.map p) = pathsW p [] l := by
  refine up_eq _ _ (srt_up _) (pathsW_up _ _ (by simp)) fun x => ?_
  rw [srt_mem, pathsW_mem]
  simp
theorem pathsW_app {α : Type} {p : α → ByteArray} (a b : List α) (l : List ByteArray) : pathsW p l (a ++ b) = pathsW p (pathsW p l a) b := by
  unfold pathsW
  rw [List.foldl_append]
theorem flat_sc (l : List ByteArray) : l.flatMap Sc = (l.map (·.toList)).map Go.Proofs.encStr := by
  induction l with
  | nil => rfl
  | cons x r ih => rw [List.flatMap_cons, ih, List.map_cons, List.map_cons, encStr_ofL, toList_ofL]; rfl
theorem flat_of (l : List (List UInt8)) : l.map Go.Proofs.encStr = (l.map ofL).flatMap Sc := by
  have h : (l.map ofL).map (·.toList) = l := by
    rw [List.map_map]
    exact (List.map_congr_left fun x _ => ofL_toList x).trans (List.map_id l)
  rw [flat_sc, h]
open Go.RowKit Go.WideShapes Go.ChangeShapes Go.Deep Go.Sort
/-- Texts of one's own are sorted where they lie. -/
theorem Sort_own {w : World} {base : Nat} {A : Option Addr} {m co : Nat} {ss : List (List UInt8)} (h : w.ownsRow base 9 1 (.slice A m co) m (ss.map Go.Proofs.encStr)) (hl : ss.length = m) (hm : m ≤ 1000000) :
    Calls Try.prog 55 #[.slice A m co] w fun e w' => e = .returned (.tuple #[]) ∧ w'.ownsRow base 9 1 (.slice A m co) m ((ss.mergeSort fun x y => decide (x ≤ y)).map Go.Proofs.encStr) ∧ Below base w w' := by
  subst hl
  rcases h.2 with ⟨e, hx⟩ | ⟨g, cap, cur, e, hbase, hb, h1, h2, h3, h4⟩
  · injection e with e1 e2 e3
    subst e1 e3
    have hs : ss = [] := List.eq_nil_of_length_eq_zero e2
    subst hs
    have T := Any.slices_Sort_string_none sortLays none 0 w
    change Calls Try.prog 55 _ _ _ at T
    refine T.mono ?_
    rintro e w' ⟨rfl, rfl⟩
    exact ⟨rfl, by simpa using h, Below.refl _ _⟩
  · injection e with e1 e2 e3
    subst e1 e3
    have hH := holds_of_block hb (ss := ss) (by simpa using h4)
    have T := Any.slices_Sort_string sortLays g 0 co ss w hH (Array.getElem?_eq_some_iff.1 hb).1 (by omega)
    change Calls Try.prog 55 _ _ _ at T
    refine T.mono ?_
    rintro e w' ⟨rfl, n, os, rfl⟩
    refine ⟨rfl, ownsRow_sorted (by simp) hbase hb h1 h2 h3, ?_⟩
    exact (Below.refl base w).grown (grownBy_sorted _) (Nat.le_trans hbase (Nat.le_of_lt (Array.getElem?_eq_some_iff.1 hb).1)) (fun j hj => by cases hj; exact hbase)
/-- .. and compacted. -/
theorem Compact_own {w : World} {base : Nat} {A : Option Addr} {m co : Nat} {ss : List (List UInt8)} (h : w.ownsRow base 9 1 (.slice A m co) m (ss.map Go.Proofs.encStr)) (hl : ss.length = m) (hm : m ≤ 1000000) :
    Calls Try.prog 56 #[.slice A m co] w fun e w' => (∃ k, k ≤ m ∧ e = .returned (.slice A k co) ∧ w'.ownsRow base 9 1 (.slice A k co) k ((Go.Lib.compact ss).map Go.Proofs.encStr)) ∧ Below base w w' := by
  subst hl
  rcases h.2 with ⟨e, hx⟩ | ⟨g, cap, cur, e, hbase, hb, h1, h2, h3, h4⟩
  · injection e with e1 e2 e3
    subst e1 e3
    have hs : ss = [] := List.eq_nil_of_length_eq_zero e2
    subst hs
    have T := Any.slices_Compact_string_empty compLays none 0 w
    change Calls Try.prog 56 _ _ _ at T
    refine T.mono ?_
    rintro e w' ⟨rfl, rfl⟩
    exact ⟨⟨0, Nat.le_refl _, rfl, h⟩, Below.refl _ _⟩
  · injection e with e1 e2 e3
    subst e1 e3
    have hH := holds_of_block hb (ss := ss) (by simpa using h4)
    have T := Any.slices_Compact_string compLays g 0 co ss w hH (by omega) h1
    change Calls Try.prog 56 _ _ _ at T
    refine T.mono ?_
    rintro e w' ⟨rfl, q, rfl⟩
    have hle := Go.Lib.compact_length_le ss
    have hc := Go.Lib.ownsRow_putRow (q := q) (k := (Go.Lib.compact ss).length) (ys := Go.Lib.compact ss ++ List.replicate (ss.length - (Go.Lib.compact ss).length) []) h (by simp; omega) (by omega)
    rw [List.take_left] at hc
    exact ⟨⟨_, hle, rfl, hc⟩, Go.Lib.below_putRow (Below.refl base w) hbase⟩
end Go.Proofs.Ytkdmlffnkomdhaa
