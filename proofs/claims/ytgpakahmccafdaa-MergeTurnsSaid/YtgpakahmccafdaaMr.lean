/-
  MERGE: what it has at a path; the sides changed about; the same on both sides; base on one side.
-/
import Derived.Test.YtgpakahmccafdaaMj
import Derived.Test.YtgpakahmccafdaaPw
import Derived.Test.YtgpakahmccafdaaSp
namespace Go.Proofs.Ytgpakahmccafdaa
set_option linter.unusedVariables false
set_option linter.unusedSimpArgs false
open Go.RowKit Go.WideShapes Go.ChangeShapes Go.Deep

theorem piece_path (by' : List Ch) (lb lo lt : List Rw) (s : ByteArray) : ∀ r ∈ pieceM by' (plW lb lo lt s), r.p = s := by
  intro r hr
  unfold pieceM at hr
  split at hr
  · obtain rfl : r = _ := by simpa using hr
    rfl
  · cases hr
theorem piece_len (by' : List Ch) (x : Pl) : (pieceM by' x).length ≤ 1 := by
  unfold pieceM
  split <;> simp
theorem merged_flat (lb lo lt : List Rw) (by' : List Ch) : mergedW lb lo lt by' = (pathsW Rw.p [] (lb ++ (lo ++ lt))).flatMap fun s => pieceM by' (plW lb lo lt s) := by
  unfold mergedW madeM plsW
  rw [List.flatMap_map]
theorem merged_up (lb lo lt : List Rw) (by' : List Ch) : Up Rw.p (mergedW lb lo lt by') := by
  rw [merged_flat]
  exact up_flat (piece_path by' lb lo lt) (fun s => piece_len by' _) (pathsW_up _ _ (by simp))
theorem sdW_none {l : List Rw} {s : ByteArray} (h : ∀ r ∈ l, r.p ≠ s) : sdW l s = ⟨false, ⟨#[]⟩⟩ := by
  unfold sdW
  rw [findW_none_iff.2 h]
  rfl
theorem sameSd_refl (a : Sd) : sameSd a a = true := sameSd_iff.2 rfl
theorem sameSd_comm (a b : Sd) : sameSd a b = sameSd b a := by
  cases h : sameSd a b with
  | true => rw [sameSd_iff.1 h, sameSd_refl]
  | false =>
    cases h2 : sameSd b a with
    | true => rw [sameSd_iff.1 h2, sameSd_refl] at h; cases h
    | false => rfl
theorem merged_find (lb lo lt : List Rw) (by' : List Ch) (s : ByteArray) : findW Rw.p (mergedW lb lo lt by') s = (pieceM by' (plW lb lo lt s)).head? := by
  rw [merged_flat]
  refine find_flat (g := fun s => pieceM by' (plW lb lo lt s)) (piece_path by' lb lo lt) ?_
  by_cases h : s ∈ pathsW Rw.p [] (lb ++ (lo ++ lt))
  · exact .inl h
  · refine .inr ?_
    rw [pathsW_mem] at h
    have h2 : ∀ r ∈ lb ++ (lo ++ lt), r.p ≠ s := fun r hr e => h (.inr ⟨r, hr, e⟩)
    have e : plW lb lo lt s = ⟨s, ⟨false, ⟨#[]⟩⟩, ⟨false, ⟨#[]⟩⟩, ⟨false, ⟨#[]⟩⟩⟩ := by
      unfold plW
      rw [sdW_none fun r hr => h2 r (by simp [hr]), sdW_none fun r hr => h2 r (by simp [hr]), sdW_none fun r hr => h2 r (by simp [hr])]
    show pieceM by' (plW lb lo lt s) = []
    rw [e]
    simp [pieceM, hasM, conflW, agreedW, sameSd]
theorem piece_side {by' : List Ch} {lb lo lt t : List Rw} {s : ByteArray} (h : hasM by' (plW lb lo lt s) = sdW t s) : (pieceM by' (plW lb lo lt s)).head? = findW Rw.p t s := by
  unfold pieceM
  rw [h]
  unfold sdW
  cases hf : findW Rw.p t s with
  | none => rfl
  | some r =>
    have := find_path hf
    simp only [Option.isSome_some, if_true, List.head?_cons, textR]
    show some (⟨s, r.t⟩ : Rw) = some r
    rw [← this]
theorem merged_is {lb lo lt t : List Rw} {by' : List Ch} (ht : Up Rw.p t) (h : ∀ s, hasM by' (plW lb lo lt s) = sdW t s) : mergedW lb lo lt by' = t :=
  up_ext (merged_up lb lo lt by') ht fun s => by rw [merged_find, piece_side (h s)]
theorem conf_nil {lb lo lt : List Rw} (h : ∀ s, conflW (plW lb lo lt s) = false) : confW lb lo lt = [] := by
  unfold confW plsW
  rw [List.filter_eq_nil_iff]
  intro x hx
  obtain ⟨s, _, rfl⟩ := List.mem_map.1 hx
  rw [h s]
  simp
theorem rightC_nil : rightC [] = true := by
  unfold rightC fitW mudW
  simp [riseW]
theorem rightR_len {l : List Rw} (h : rightR l = true) : l.length ≤ 32 := (fitW_mem (rightR_up h).2).1
/-- A merge without conflicts that is another map. -/
theorem merge_is {lb lo lt t : List Rw} (hb : rightR lb = true) (ho : rightR lo = true) (ht' : rightR lt = true) (ht : rightR t = true) (hc : ∀ s, conflW (plW lb lo lt s) = false) (h : ∀ s, hasM [] (plW lb lo lt s) = sdW t s) :
    mergeE lb lo lt [] = 0 ∧ mergedW lb lo lt [] = t := by
  have hm := merged_is (rightR_up ht).1 h
  refine ⟨?_, hm⟩
  unfold mergeE confE
  rw [hb, ho, ht', conf_nil hc, rightC_nil]
  have : eqW [] [] = true := by simp [eqW]
  rw [this]
  unfold mergedE
  rw [hm]
  have := rightR_len ht
  simp
  omega
theorem merge_base {lb lt : List Rw} (hb : rightR lb = true) (ht : rightR lt = true) : mergeE lb lb lt [] = 0 ∧ mergedW lb lb lt [] = lt := by
  have hc : ∀ s, conflW (plW lb lb lt s) = false := fun s => by
    unfold conflW plW
    rw [sameSd_refl]
    simp
  refine merge_is hb hb ht ht hc fun s => ?_
  unfold hasM
  rw [hc s]
  simp [agreedW, plW, sameSd_refl]
theorem merge_both {lb lo : List Rw} (hb : rightR lb = true) (ho : rightR lo = true) : mergeE lb lo lo [] = 0 ∧ mergedW lb lo lo [] = lo := by
  have hc : ∀ s, conflW (plW lb lo lo s) = false := fun s => by
    unfold conflW plW
    rw [sameSd_refl]
    simp
  refine merge_is hb ho ho ho hc fun s => ?_
  unfold hasM
  rw [hc s]
  simp only [Bool.false_eq_true, if_false]
  unfold agreedW plW
  split <;> rfl
theorem rebase_back (lb : List Rw) (e : List Ch) : rebaseE lb lb e = applyE lb e ∧ (if rebaseE lb lb e = 0 then rebaseW lb lb e else []) = (if applyE lb e = 0 then applyW lb e else []) := by
  by_cases h : applyE lb e = 0
  · have h1 := merge_base (applyE_parts h).1 (apply_once h).1
    have h2 : rebaseE lb lb e = 0 := by unfold rebaseE; rw [if_pos h]; exact h1.1
    rw [h2, h]
    exact ⟨rfl, h1.2⟩
  · have h2 : rebaseE lb lb e = applyE lb e := by unfold rebaseE; rw [if_neg h]
    rw [h2, if_neg h, if_neg h]
    exact ⟨rfl, rfl⟩
theorem confl_turn (lb lo lt : List Rw) (s : ByteArray) : conflW (plW lb lo lt s) = conflW (plW lb lt lo s) := by
  unfold conflW plW
  simp only []
  rw [sameSd_comm (sdW lo s) (sdW lt s), Bool.and_comm (!sameSd (sdW lb s) (sdW lo s))]
theorem agreed_turn {lb lo lt : List Rw} {s : ByteArray} (h : conflW (plW lb lo lt s) = false) : agreedW (plW lb lo lt s) = agreedW (plW lb lt lo s) := by
  unfold conflW plW at h
  unfold agreedW plW
  simp only [] at h ⊢
  cases h1 : sameSd (sdW lb s) (sdW lo s) with
  | true =>
    have e1 := sameSd_iff.1 h1
    cases h2 : sameSd (sdW lb s) (sdW lt s) with
    | true => rw [← sameSd_iff.1 h2, ← e1]
    | false => rfl
  | false =>
    cases h2 : sameSd (sdW lb s) (sdW lt s) with
    | true => rfl
    | false =>
      rw [h1, h2] at h
      have h3 : sameSd (sdW lo s) (sdW lt s) = true := by simpa using h
      simp [sameSd_iff.1 h3]
theorem paths_turn (lb lo lt : List Rw) : pathsW Rw.p [] (lb ++ (lo ++ lt)) = pathsW Rw.p [] (lb ++ (lt ++ lo)) := by
  refine up_eq _ _ (pathsW_up _ _ (by simp)) (pathsW_up _ _ (by simp)) fun x => ?_
  rw [pathsW_mem, pathsW_mem]
  constructor
  · rintro (h | ⟨r, hr, e⟩)
    · exact .inl h
    · exact .inr ⟨r, by simp only [List.mem_append] at hr ⊢; rcases hr with h | h | h <;> simp [h], e⟩
  · rintro (h | ⟨r, hr, e⟩)
    · exact .inl h
    · exact .inr ⟨r, by simp only [List.mem_append] at hr ⊢; rcases hr with h | h | h <;> simp [h], e⟩
theorem conf_turn (lb lo lt : List Rw) : confW lb lo lt = [] ↔ confW lb lt lo = [] := by
  unfold confW plsW
  rw [List.filter_eq_nil_iff, List.filter_eq_nil_iff, paths_turn]
  constructor
  · intro h x hx
    obtain ⟨s, hs, rfl⟩ := List.mem_map.1 hx
    rw [← confl_turn]
    exact h _ (List.mem_map.2 ⟨s, hs, rfl⟩)
  · intro h x hx
    obtain ⟨s, hs, rfl⟩ := List.mem_map.1 hx
    rw [confl_turn]
    exact h _ (List.mem_map.2 ⟨s, hs, rfl⟩)
theorem confE_turn (lb lo lt : List Rw) : confE lb lo lt = confE lb lt lo := by
  unfold confE
  rw [Bool.and_comm (rightR lo)]
theorem eqW_conf (lb lo lt : List Rw) : eqW (confW lb lo lt) [] = eqW (confW lb lt lo) [] := by
  have key : ∀ l : List Pl, eqW l [] = decide (l = []) := fun l => by
    unfold eqW
    rw [decide_eq_decide]
    cases l <;> simp
  rw [key, key, decide_eq_decide]
  exact conf_turn lb lo lt
theorem flat_turn {lb lo lt : List Rw} : ∀ (L : List ByteArray), (∀ s ∈ L, conflW (plW lb lo lt s) = false) → (L.flatMap fun s => pieceM [] (plW lb lo lt s)) = L.flatMap fun s => pieceM [] (plW lb lt lo s)
  | [], _ => rfl
  | s :: L, hL => by
    have h1 := hL s (by simp)
    have h2 : conflW (plW lb lt lo s) = false := by rw [← confl_turn]; exact h1
    rw [List.flatMap_cons, List.flatMap_cons, flat_turn L fun x hx => hL x (by simp [hx])]
    congr 1
    unfold pieceM hasM
    rw [h1, h2]
    simp only [Bool.false_eq_true, if_false, agreed_turn h1]
    rfl
theorem merged_turn {lb lo lt : List Rw} (h : confW lb lo lt = []) : mergedW lb lo lt [] = mergedW lb lt lo [] := by
  have hc : ∀ s ∈ pathsW Rw.p [] (lb ++ (lo ++ lt)), conflW (plW lb lo lt s) = false := fun s hs => by
    unfold confW plsW at h
    rw [List.filter_eq_nil_iff] at h
    have := h _ (List.mem_map.2 ⟨s, hs, rfl⟩)
    simpa using this
  rw [merged_flat, merged_flat, paths_turn lb lt lo]
  exact flat_turn _ hc
theorem merge_turn (lb lo lt : List Rw) : mergeE lb lo lt [] = mergeE lb lt lo [] ∧ (if mergeE lb lo lt [] = 0 then mergedW lb lo lt [] else []) = (if mergeE lb lt lo [] = 0 then mergedW lb lt lo [] else []) := by
  have hE : mergeE lb lo lt [] = mergeE lb lt lo [] ∧ (mergeE lb lo lt [] = 0 → confW lb lo lt = []) := by
    unfold mergeE
    rw [confE_turn lb lt lo, eqW_conf lb lt lo]
    cases hq : eqW (confW lb lo lt) [] with
    | false =>
      refine ⟨by simp, fun h => ?_⟩
      rw [rightC_nil] at h
      split at h <;> simp at h
    | true =>
      have h0 : confW lb lo lt = [] := by
        unfold eqW at hq
        rw [decide_eq_true_iff] at hq
        simpa using hq.symm
      refine ⟨?_, fun _ => h0⟩
      unfold mergedE
      rw [merged_turn h0]
  rw [← hE.1]
  refine ⟨rfl, ?_⟩
  by_cases h : mergeE lb lo lt [] = 0
  · rw [if_pos h, if_pos h, merged_turn (hE.2 h)]
  · rw [if_neg h, if_neg h]
theorem merge_wrong {lb lo lt : List Rw} {e : List Ch} (h : (rightR lb && (rightR lo && rightR lt)) = false) : mergeE lb lo lt e = 150 := by
  unfold mergeE confE
  rw [h]
  simp
end Go.Proofs.Ytgpakahmccafdaa
