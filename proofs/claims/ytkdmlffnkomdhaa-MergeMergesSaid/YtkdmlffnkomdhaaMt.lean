/-
  MERGE: what it has at a path; the sides changed about; the same on both sides; base on one side.
  STAGE 7's STATEMENTS: the layer does something (pure part).
  STAGE 7's STATEMENTS: the layer does something.
  STAGE 7's STATEMENTS: three maps that came in; whether they may be.
-/
import Derived.Test.YtkdmlffnkomdhaaMj
import Derived.Test.YtkdmlffnkomdhaaPw
import Derived.Test.YtkdmlffnkomdhaaSp
import Derived.Test.YtkdmlffnkomdhaaPj
import Derived.Deep.Strs
import Derived.Test.YtkdmlffnkomdhaaYc
import Derived.Test.YtkdmlffnkomdhaaRw
namespace Go.Proofs.Ytkdmlffnkomdhaa
set_option linter.unusedVariables false
set_option linter.unusedSimpArgs false
open Go.RowKit Go.WideShapes Go.ChangeShapes Go.Deep

theorem piece_path (by' : List Ch) (lb lo lt : List Rw) (s : ByteArray) : ∀ r ∈ pieceM by' (plW lb lo lt s), r.p = s := by
  intro r hr
  unfold pieceM at hr
  split at hr
  · obtain rfl : r = _ := by simpa using hr
    rfl
  · cases hr
theorem piece_len (by' : List Ch) (x : Pl) : (pieceM by' x).length ≤ 1 := by
  unfold pieceM
  split <;> simp
theorem merged_flat (lb lo lt : List Rw) (by' : List Ch) : mergedW lb lo lt by' = (pathsW Rw.p [] (lb ++ (lo ++ lt))).flatMap fun s => pieceM by' (plW lb lo lt s) := by
  unfold mergedW madeM plsW
  rw [List.flatMap_map]
theorem merged_up (lb lo lt : List Rw) (by' : List Ch) : Up Rw.p (mergedW lb lo lt by') := by
  rw [merged_flat]
  exact up_flat (piece_path by' lb lo lt) (fun s => piece_len by' _) (pathsW_up _ _ (by simp))
theorem sdW_none {l : List Rw} {s : ByteArray} (h : ∀ r ∈ l, r.p ≠ s) : sdW l s = ⟨false, ⟨#[]⟩⟩ := by
  unfold sdW
  rw [findW_none_iff.2 h]
  rfl
theorem sameSd_refl (a : Sd) : sameSd a a = true := sameSd_iff.2 rfl
theorem sameSd_comm (a b : Sd) : sameSd a b = sameSd b a := by
  cases h : sameSd a b with
  | true => rw [sameSd_iff.1 h, sameSd_refl]
  | false =>
    cases h2 : sameSd b a with
    | true => rw [sameSd_iff.1 h2, sameSd_refl] at h; cases h
    | false => rfl
theorem merged_find (lb lo lt : List Rw) (by' : List Ch) (s : ByteArray) : findW Rw.p (mergedW lb lo lt by') s = (pieceM by' (plW lb lo lt s)).head? := by
  rw [merged_flat]
  refine find_flat (g := fun s => pieceM by' (plW lb lo lt s)) (piece_path by' lb lo lt) ?_
  by_cases h : s ∈ pathsW Rw.p [] (lb ++ (lo ++ lt))
  · exact .inl h
  · refine .inr ?_
    rw [pathsW_mem] at h
    have h2 : ∀ r ∈ lb ++ (lo ++ lt), r.p ≠ s := fun r hr e => h (.inr ⟨r, hr, e⟩)
    have e : plW lb lo lt s = ⟨s, ⟨false, ⟨#[]⟩⟩, ⟨false, ⟨#[]⟩⟩, ⟨false, ⟨#[]⟩⟩⟩ := by
      unfold plW
      rw [sdW_none fun r hr => h2 r (by simp [hr]), sdW_none fun r hr => h2 r (by simp [hr]), sdW_none fun r hr => h2 r (by simp [hr])]
    show pieceM by' (plW lb lo lt s) = []
    rw [e]
    simp [pieceM, hasM, conflW, agreedW, sameSd]
theorem piece_side {by' : List Ch} {lb lo lt t : List Rw} {s : ByteArray} (h : hasM by' (plW lb lo lt s) = sdW t s) : (pieceM by' (plW lb lo lt s)).head? = findW Rw.p t s := by
  unfold pieceM
  rw [h]
  unfold sdW
  cases hf : findW Rw.p t s with
  | none => rfl
  | some r =>
    have := find_path hf
    simp only [Option.isSome_some, if_true, List.head?_cons, textR]
    show some (⟨s, r.t⟩ : Rw) = some r
    rw [← this]
theorem merged_is {lb lo lt t : List Rw} {by' : List Ch} (ht : Up Rw.p t) (h : ∀ s, hasM by' (plW lb lo lt s) = sdW t s) : mergedW lb lo lt by' = t :=
  up_ext (merged_up lb lo lt by') ht fun s => by rw [merged_find, piece_side (h s)]
theorem conf_nil {lb lo lt : List Rw} (h : ∀ s, conflW (plW lb lo lt s) = false) : confW lb lo lt = [] := by
  unfold confW plsW
  rw [List.filter_eq_nil_iff]
  intro x hx
  obtain ⟨s, _, rfl⟩ := List.mem_map.1 hx
  rw [h s]
  simp
theorem rightC_nil : rightC [] = true := by
  unfold rightC fitW mudW
  simp [riseW]
theorem rightR_len {l : List Rw} (h : rightR l = true) : l.length ≤ 32 := (fitW_mem (rightR_up h).2).1
/-- A merge without conflicts that is another map. -/
theorem merge_is {lb lo lt t : List Rw} (hb : rightR lb = true) (ho : rightR lo = true) (ht' : rightR lt = true) (ht : rightR t = true) (hc : ∀ s, conflW (plW lb lo lt s) = false) (h : ∀ s, hasM [] (plW lb lo lt s) = sdW t s) :
    mergeE lb lo lt [] = 0 ∧ mergedW lb lo lt [] = t := by
  have hm := merged_is (rightR_up ht).1 h
  refine ⟨?_, hm⟩
  unfold mergeE confE
  rw [hb, ho, ht', conf_nil hc, rightC_nil]
  have : eqW [] [] = true := by simp [eqW]
  rw [this]
  unfold mergedE
  rw [hm]
  have := rightR_len ht
  simp
  omega
theorem merge_base {lb lt : List Rw} (hb : rightR lb = true) (ht : rightR lt = true) : mergeE lb lb lt [] = 0 ∧ mergedW lb lb lt [] = lt := by
  have hc : ∀ s, conflW (plW lb lb lt s) = false := fun s => by
    unfold conflW plW
    rw [sameSd_refl]
    simp
  refine merge_is hb hb ht ht hc fun s => ?_
  unfold hasM
  rw [hc s]
  simp [agreedW, plW, sameSd_refl]
theorem merge_both {lb lo : List Rw} (hb : rightR lb = true) (ho : rightR lo = true) : mergeE lb lo lo [] = 0 ∧ mergedW lb lo lo [] = lo := by
  have hc : ∀ s, conflW (plW lb lo lo s) = false := fun s => by
    unfold conflW plW
    rw [sameSd_refl]
    simp
  refine merge_is hb ho ho ho hc fun s => ?_
  unfold hasM
  rw [hc s]
  simp only [Bool.false_eq_true, if_false]
  unfold agreedW plW
  split <;> rfl
theorem rebase_back (lb : List Rw) (e : List Ch) : rebaseE lb lb e = applyE lb e ∧ (if rebaseE lb lb e = 0 then rebaseW lb lb e else []) = (if applyE lb e = 0 then applyW lb e else []) := by
  by_cases h : applyE lb e = 0
  · have h1 := merge_base (applyE_parts h).1 (apply_once h).1
    have h2 : rebaseE lb lb e = 0 := by unfold rebaseE; rw [if_pos h]; exact h1.1
    rw [h2, h]
    exact ⟨rfl, h1.2⟩
  · have h2 : rebaseE lb lb e = applyE lb e := by unfold rebaseE; rw [if_neg h]
    rw [h2, if_neg h, if_neg h]
    exact ⟨rfl, rfl⟩
theorem confl_turn (lb lo lt : List Rw) (s : ByteArray) : conflW (plW lb lo lt s) = conflW (plW lb lt lo s) := by
  unfold conflW plW
  simp only []
  rw [sameSd_comm (sdW lo s) (sdW lt s), Bool.and_comm (!sameSd (sdW lb s) (sdW lo s))]
theorem agreed_turn {lb lo lt : List Rw} {s : ByteArray} (h : conflW (plW lb lo lt s) = false) : agreedW (plW lb lo lt s) = agreedW (plW lb lt lo s) := by
  unfold conflW plW at h
  unfold agreedW plW
  simp only [] at h ⊢
  cases h1 : sameSd (sdW lb s) (sdW lo s) with
  | true =>
    have e1 := sameSd_iff.1 h1
    cases h2 : sameSd (sdW lb s) (sdW lt s) with
    | true => rw [← sameSd_iff.1 h2, ← e1]
    | false => rfl
  | false =>
    cases h2 : sameSd (sdW lb s) (sdW lt s) with
    | true => rfl
    | false =>
      rw [h1, h2] at h
      have h3 : sameSd (sdW lo s) (sdW lt s) = true := by simpa using h
      simp [sameSd_iff.1 h3]
theorem paths_turn (lb lo lt : List Rw) : pathsW Rw.p [] (lb ++ (lo ++ lt)) = pathsW Rw.p [] (lb ++ (lt ++ lo)) := by
  refine up_eq _ _ (pathsW_up _ _ (by simp)) (pathsW_up _ _ (by simp)) fun x => ?_
  rw [pathsW_mem, pathsW_mem]
  constructor
  · rintro (h | ⟨r, hr, e⟩)
    · exact .inl h
    · exact .inr ⟨r, by simp only [List.mem_append] at hr ⊢; rcases hr with h | h | h <;> simp [h], e⟩
  · rintro (h | ⟨r, hr, e⟩)
    · exact .inl h
    · exact .inr ⟨r, by simp only [List.mem_append] at hr ⊢; rcases hr with h | h | h <;> simp [h], e⟩
theorem conf_turn (lb lo lt : List Rw) : confW lb lo lt = [] ↔ confW lb lt lo = [] := by
  unfold confW plsW
  rw [List.filter_eq_nil_iff, List.filter_eq_nil_iff, paths_turn]
  constructor
  · intro h x hx
    obtain ⟨s, hs, rfl⟩ := List.mem_map.1 hx
    rw [← confl_turn]
    exact h _ (List.mem_map.2 ⟨s, hs, rfl⟩)
  · intro h x hx
    obtain ⟨s, hs, rfl⟩ := List.mem_map.1 hx
    rw [confl_turn]
    exact h _ (List.mem_map.2 ⟨s, hs, rfl⟩)
theorem confE_turn (lb lo lt : List Rw) : confE lb lo lt = confE lb lt lo := by
  unfold confE
  rw [Bool.and_comm (rightR lo)]
theorem eqW_conf (lb lo lt : List Rw) : eqW (confW lb lo lt) [] = eqW (confW lb lt lo) [] := by
  have key : ∀ l : List Pl, eqW l [] = decide (l = []) := fun l => by
    unfold eqW
    rw [decide_eq_decide]
    cases l <;> simp
  rw [key, key, decide_eq_decide]
  exact conf_turn lb lo lt
theorem flat_turn {lb lo lt : List Rw} : ∀ (L : List ByteArray), (∀ s ∈ L, conflW (plW lb lo lt s) = false) → (L.flatMap fun s => pieceM [] (plW lb lo lt s)) = L.flatMap fun s => pieceM [] (plW lb lt lo s)
  | [], _ => rfl
  | s :: L, hL => by
    have h1 := hL s (by simp)
    have h2 : conflW (plW lb lt lo s) = false := by rw [← confl_turn]; exact h1
    rw [List.flatMap_cons, List.flatMap_cons, flat_turn L fun x hx => hL x (by simp [hx])]
    congr 1
    unfold pieceM hasM
    rw [h1, h2]
    simp only [Bool.false_eq_true, if_false, agreed_turn h1]
    rfl
theorem merged_turn {lb lo lt : List Rw} (h : confW lb lo lt = []) : mergedW lb lo lt [] = mergedW lb lt lo [] := by
  have hc : ∀ s ∈ pathsW Rw.p [] (lb ++ (lo ++ lt)), conflW (plW lb lo lt s) = false := fun s hs => by
    unfold confW plsW at h
    rw [List.filter_eq_nil_iff] at h
    have := h _ (List.mem_map.2 ⟨s, hs, rfl⟩)
    simpa using this
  rw [merged_flat, merged_flat, paths_turn lb lt lo]
  exact flat_turn _ hc
theorem merge_turn (lb lo lt : List Rw) : mergeE lb lo lt [] = mergeE lb lt lo [] ∧ (if mergeE lb lo lt [] = 0 then mergedW lb lo lt [] else []) = (if mergeE lb lt lo [] = 0 then mergedW lb lt lo [] else []) := by
  have hE : mergeE lb lo lt [] = mergeE lb lt lo [] ∧ (mergeE lb lo lt [] = 0 → confW lb lo lt = []) := by
    unfold mergeE
    rw [confE_turn lb lt lo, eqW_conf lb lt lo]
    cases hq : eqW (confW lb lo lt) [] with
    | false =>
      refine ⟨by simp, fun h => ?_⟩
      rw [rightC_nil] at h
      split at h <;> simp at h
    | true =>
      have h0 : confW lb lo lt = [] := by
        unfold eqW at hq
        rw [decide_eq_true_iff] at hq
        simpa using hq.symm
      refine ⟨?_, fun _ => h0⟩
      unfold mergedE
      rw [merged_turn h0]
  rw [← hE.1]
  refine ⟨rfl, ?_⟩
  by_cases h : mergeE lb lo lt [] = 0
  · rw [if_pos h, if_pos h, merged_turn (hE.2 h)]
  · rw [if_neg h, if_neg h]
theorem merge_wrong {lb lo lt : List Rw} {e : List Ch} (h : (rightR lb && (rightR lo && rightR lt)) = false) : mergeE lb lo lt e = 150 := by
  unfold mergeE confE
  rw [h]
  simp
end Go.Proofs.Ytkdmlffnkomdhaa
namespace Go.Proofs.Ytkdmlffnkomdhaa
set_option linter.unusedVariables false
set_option linter.unusedSimpArgs false
open Go.RowKit Go.WideShapes Go.ChangeShapes Go.Deep

abbrev wk1 : List Rw := [⟨⟨#[97]⟩, ⟨#[49]⟩⟩]
abbrev wk2 : List Rw := [⟨⟨#[97]⟩, ⟨#[50]⟩⟩]
abbrev wk3 : List Rw := [⟨⟨#[97]⟩, ⟨#[51]⟩⟩]
abbrev wk4 : List Rw := [⟨⟨#[97]⟩, ⟨#[49]⟩⟩, ⟨⟨#[98]⟩, ⟨#[51]⟩⟩]
theorem wk_aa : lt ⟨#[97]⟩ ⟨#[97]⟩ = false := by unfold lt; rw [ByteArray.toList_eq]; decide
theorem wk_ab : lt ⟨#[97]⟩ ⟨#[98]⟩ = true := by unfold lt; rw [ByteArray.toList_eq, ByteArray.toList_eq]; decide
theorem wk_ba : lt ⟨#[98]⟩ ⟨#[97]⟩ = false := by unfold lt; rw [ByteArray.toList_eq, ByteArray.toList_eq]; decide
theorem wk_paths : pathsW Rw.p [] (wk1 ++ (wk2 ++ wk4)) = [⟨#[97]⟩, ⟨#[98]⟩] := by
  simp [pathsW, withW, stW, stepW, wk_ab, wk_aa, wk_ba, ByteArray.toList_eq]
theorem wk_paths2 : pathsW Rw.p [] (wk1 ++ (wk2 ++ wk3)) = [⟨#[97]⟩] := by
  simp [pathsW, withW, stW, stepW, wk_ab, wk_aa, wk_ba, ByteArray.toList_eq]
theorem wk_r1 : rightR wk1 = true := by
  unfold rightR fitW fitP visW
  simp only [List.map_cons, List.map_nil, riseW, ByteArray.toList_eq]
  decide
theorem wk_r2 : rightR wk2 = true := by
  unfold rightR fitW fitP visW
  simp only [List.map_cons, List.map_nil, riseW, ByteArray.toList_eq]
  decide
theorem wk_r3 : rightR wk3 = true := by
  unfold rightR fitW fitP visW
  simp only [List.map_cons, List.map_nil, riseW, ByteArray.toList_eq]
  decide
theorem wk_r4 : rightR wk4 = true := by
  unfold rightR fitW fitP visW
  simp only [List.map_cons, List.map_nil, riseW, wk_ab, ByteArray.toList_eq]
  decide
theorem wk_pls : plsW wk1 wk2 wk4 = [⟨⟨#[97]⟩, ⟨true, ⟨#[49]⟩⟩, ⟨true, ⟨#[50]⟩⟩, ⟨true, ⟨#[49]⟩⟩⟩, ⟨⟨#[98]⟩, ⟨false, ⟨#[]⟩⟩, ⟨false, ⟨#[]⟩⟩, ⟨true, ⟨#[51]⟩⟩⟩] := by
  unfold plsW
  rw [wk_paths]
  simp [plW, sdW, findW, textR, ByteArray.toList_eq]
theorem wk_pls2 : plsW wk1 wk2 wk3 = [⟨⟨#[97]⟩, ⟨true, ⟨#[49]⟩⟩, ⟨true, ⟨#[50]⟩⟩, ⟨true, ⟨#[51]⟩⟩⟩] := by
  unfold plsW
  rw [wk_paths2]
  simp [plW, sdW, findW, textR, ByteArray.toList_eq]
theorem wk_conf : confW wk1 wk2 wk4 = [] := by
  unfold confW
  rw [wk_pls]
  simp [conflW, sameSd, ByteArray.toList_eq]
theorem wk_conf2 : confW wk1 wk2 wk3 = [⟨⟨#[97]⟩, ⟨true, ⟨#[49]⟩⟩, ⟨true, ⟨#[50]⟩⟩, ⟨true, ⟨#[51]⟩⟩⟩] := by
  unfold confW
  rw [wk_pls2]
  simp [conflW, sameSd, ByteArray.toList_eq]
theorem wk_merged : mergedW wk1 wk2 wk4 [] = [⟨⟨#[97]⟩, ⟨#[50]⟩⟩, ⟨⟨#[98]⟩, ⟨#[51]⟩⟩] := by
  unfold mergedW madeM
  rw [wk_pls]
  simp [pieceM, hasM, agreedW, conflW, sameSd, ByteArray.toList_eq]
theorem eqW_nil : eqW [] [] = true := by simp [eqW]
theorem wk_ce : confE wk1 wk2 wk4 = 0 := by unfold confE; rw [wk_r1, wk_r2, wk_r4]; rfl
theorem wk_ce2 : confE wk1 wk2 wk3 = 0 := by unfold confE; rw [wk_r1, wk_r2, wk_r3]; rfl
theorem wk_me : mergeE wk1 wk2 wk4 [] = 0 := by
  unfold mergeE
  rw [wk_ce, wk_conf, rightC_nil, eqW_nil]
  unfold mergedE
  rw [wk_merged]
  simp
end Go.Proofs.Ytkdmlffnkomdhaa
namespace Go.Proofs.Ytkdmlffnkomdhaa
set_option linter.unusedVariables false
set_option linter.unusedSimpArgs false
open Go.RowKit Go.WideShapes Go.ChangeShapes Go.Deep

theorem results_one (tmps : Array Value) (W : World) (b : Nat) (v : Value) (h4 : tmps.getD 4 undef = .pointer (some ⟨b, 0, none⟩)) (x : W.cell? ⟨b, 0, none⟩ = some v) :
    (results Try.f35 tmps).run Try.prog W = .ok (.agg #[v]) W := by
  have h4' : tmps[4]?.getD undef = .pointer (some ⟨b, 0, none⟩) := by simpa using h4
  simp [results, Try.f35, go_sem, h4', x]
set_option maxRecDepth 100000 in
set_option maxHeartbeats 2000000 in
theorem one_any (p t : ByteArray) (w : World) : Calls Try.prog 35 #[.string p, .string t] w fun e w' => (∃ A, e = .returned (.agg #[.slice A 1 1]) ∧ SqR w' w'.heap.size A 1 1 [⟨p, t⟩]) ∧ Below w.heap.size w w' := by
  have hone := fun w => one_row ⟨p, t⟩ w
  go_enter Try.func35, Try.ntmps35
  go_wp2
  refine bodyPost_ret (results_one _ _ w.heap.size (.slice (some ⟨w.heap.size + 1, 0, none⟩) 1 1) rfl ?_) rfl ⟨⟨_, rfl, ?_⟩, ?_⟩
  · exact ((Boxed.new w 24 (.slice (some ⟨w.heap.size + 1, 0, none⟩) 1 1)).alloc (.cells #[.string p, .string t] 70)).cell
  · have h := Lies.new (w.alloc (.cells #[.slice (some ⟨w.heap.size + 1, 0, none⟩) 1 1] 24)) [.string p, .string t] 70
    rw [World.size_alloc] at h
    exact ⟨rfl, Nat.le_refl _, by unfold maxLen; omega, (fun e => by cases e), rw_sz, fun _ => ⟨w.heap.size + 1, 0, rfl, by simp, h.rg⟩⟩
  · exact ((Below.refl _ _).alloc (Nat.le_refl _) _).alloc (by simp) _
set_option maxRecDepth 100000 in
set_option maxHeartbeats 4000000 in
theorem wakes_any (w : World) : Calls Try.prog 9 #[] w fun e w' => e = .returned (.bool true) ∧ Below w.heap.size w w' := by
  go_enter Try.func9, Try.ntmps9
  go_wp2_with fail
  refine (one_any ⟨#[97]⟩ ⟨#[49]⟩ w).mono ?_
  rintro e w1 ⟨⟨A1, rfl, hs1⟩, hb1⟩
  have S1 := Lib.hid hs1
  have B1 := Lib.hid hb1
  clear hs1 hb1
  go_wp2_with fail
  refine (one_any ⟨#[97]⟩ ⟨#[50]⟩ w1).mono ?_
  rintro e w2 ⟨⟨A2, rfl, hs2⟩, hb2⟩
  have S2 := Lib.hid hs2
  have B2 := Lib.hid (B1.out.trans (hb2.mono B1.out.size))
  have S12 := Lib.hid ((S1.out.below hb2).more hb2.size)
  clear hs2 hb2 S1
  go_wp2_with fail
  obtain ⟨w3, hw3⟩ : ∃ w3, w2.alloc (.cells #[.string ⟨#[97]⟩, .string ⟨#[49]⟩, .string ⟨#[98]⟩, .string ⟨#[51]⟩] 70) = w3 := ⟨_, rfl⟩
  rw [hw3]
  have C3 : Hid (Below w2.heap.size w2 w3) := Lib.hid (by rw [← hw3]; exact (Below.refl _ _).alloc (Nat.le_refl _) _)
  have S3 : Hid (SqR w3 w3.heap.size (some ⟨w2.heap.size, 0, none⟩) 2 2 wk4) := Lib.hid (by
    have h := Lies.new w2 [.string ⟨#[97]⟩, .string ⟨#[49]⟩, .string ⟨#[98]⟩, .string ⟨#[51]⟩] 70
    refine ⟨rfl, Nat.le_refl _, by unfold maxLen; omega, (fun e => by cases e), rw_sz, fun _ => ⟨w2.heap.size, 0, rfl, by rw [← hw3]; simp, ?_⟩⟩
    rw [← hw3]
    exact h.rg)
  have HM := Merge_any ((S12.out.below C3.out).more C3.out.size) (by omega) ((S2.out.below C3.out).more C3.out.size) (by omega) S3.out (by omega) (Sq.nil_ (f := Ch.cells) ch_sz) (by omega)
  rw [wk_me, wk_merged] at HM
  simp only [if_true] at HM
  refine HM.mono ?_
  rintro e w4 ⟨⟨A4, n4, c4, rfl, hs4⟩, hb4⟩
  obtain rfl : n4 = 2 := by rw [← hs4.len]; rfl
  have B4 := Lib.hid ((B2.out.trans (C3.out.mono B2.out.size)).trans (hb4.mono (Nat.le_trans B2.out.size C3.out.size)))
  have S4 := Lib.hid hs4
  clear hs4 hb4 HM hw3 C3 S3 S12 S2 B2 B1
  go_wp2_with fail
  obtain ⟨w5, hw5⟩ : ∃ w5, w4.alloc (.cells #[.slice A4 2 c4] 24) = w5 := ⟨_, rfl⟩
  rw [hw5]
  have C5 : Hid (Below w4.heap.size w4 w5) := Lib.hid (by rw [← hw5]; exact (Below.refl _ _).alloc (Nat.le_refl _) _)
  have X5 : Hid (Lies w5 w4.heap.size 1 [.slice A4 2 c4]) := Lib.hid (by rw [← hw5]; exact Lies.new w4 [.slice A4 2 c4] 24)
  obtain ⟨M, hM⟩ : ∃ M, w4.heap.size = M := ⟨_, rfl⟩
  rw [hM] at X5 ⊢
  have S5 := Lib.hid ((S4.out.below C5.out).more C5.out.size)
  have B5 := Lib.hid (B4.out.trans (C5.out.mono B4.out.size))
  clear hw5 hM C5 S4 B4
  refine (one_any ⟨#[97]⟩ ⟨#[49]⟩ w5).mono ?_
  rintro e w6 ⟨⟨A6, rfl, hs6⟩, hb6⟩
  have S6 := Lib.hid hs6
  have B6 := Lib.hid hb6
  clear hs6 hb6
  go_wp2_with fail
  refine (one_any ⟨#[97]⟩ ⟨#[50]⟩ w6).mono ?_
  rintro e w7 ⟨⟨A7, rfl, hs7⟩, hb7⟩
  have S7 := Lib.hid hs7
  have S67 := Lib.hid ((S6.out.below hb7).more hb7.size)
  have B7 := Lib.hid (B6.out.trans (hb7.mono B6.out.size))
  clear hs7 hb7 S6 B6
  go_wp2_with fail
  refine (one_any ⟨#[97]⟩ ⟨#[51]⟩ w7).mono ?_
  rintro e w8 ⟨⟨A8, rfl, hs8⟩, hb8⟩
  have S8 := Lib.hid hs8
  have S78 := Lib.hid ((S7.out.below hb8).more hb8.size)
  have S68 := Lib.hid ((S67.out.below hb8).more hb8.size)
  have B8 := Lib.hid (B7.out.trans (hb8.mono B7.out.size))
  clear hs8 hb8 S7 S67 B7
  go_wp2_with fail
  have HC := Conflicts_any S68.out (by omega) S78.out (by omega) S8.out (by omega)
  rw [wk_ce2, wk_conf2] at HC
  simp only [if_true] at HC
  refine HC.mono ?_
  rintro e w9 ⟨⟨A9, n9, c9, rfl, hs9⟩, hb9⟩
  obtain rfl : n9 = 1 := by rw [← hs9.len]; rfl
  have B9 := Lib.hid (B8.out.trans (hb9.mono B8.out.size))
  have q0 := (X5.out.below B9.out X5.out.lt).cell (j := 0) rfl
  obtain ⟨b, o, rfl, hbl, hrg⟩ := (S5.out.below B9.out).at_ (i := 0) (by omega)
  have r0 : w9.cell? ⟨b, o + 0 * 2, none⟩ = some (.string ⟨#[97]⟩) := hrg 0 _ rfl
  have r1 : w9.cell? ⟨b, o + 0 * 2 + 1, none⟩ = some (.string ⟨#[50]⟩) := hrg 1 _ rfl
  rw [Nat.zero_mul, Nat.add_zero] at r0 r1
  clear hs9 hb9 hrg HC S68 S78 S8 B8
  go_wp2_with fail
  go_ret
  exact ⟨rfl, B5.out.trans (B9.out.mono B5.out.size)⟩
end Go.Proofs.Ytkdmlffnkomdhaa
namespace Go.Proofs.Ytkdmlffnkomdhaa
set_option linter.unusedVariables false
set_option linter.unusedSimpArgs false
open Go.RowKit Go.WideShapes Go.ChangeShapes Go.Deep

theorem size_three {cs : Array Value} (h : cs.size = 3) : ∃ c0 c1 c2, cs = #[c0, c1, c2] := by
  obtain ⟨ls⟩ := cs
  match ls, h with
  | [a, b, c], _ => exact ⟨a, b, c, rfl⟩
set_option maxRecDepth 100000 in
/-- Three maps that came in. -/
theorem three_arg {H : Type} {enc : TypeId × Value → H} {W : World} {r : Reach} {b0 : Nat} {v : Value} {d : DataW H} {p : List MemPlace} (hv : Value.okWide Try.prog W r b0 26 v) (h : DataW.Trod enc Try.prog W 0 (fun _ => true) true 26 v d p) :
    ∃ A1 n1 c1 l1 A2 n2 c2 l2 A3 n3 c3 l3, v = .agg #[.slice A1 n1 c1, .slice A2 n2 c2, .slice A3 n3 c3] ∧ SqR W W.heap.size A1 n1 c1 l1 ∧ SqR W W.heap.size A2 n2 c2 l2 ∧ SqR W W.heap.size A3 n3 c3 l3 := by
  obtain ⟨cs, rfl, hsz⟩ := okWide_struct Try.underlying26 hv
  have hC : Try.prog.cellsOf 26 = 3 := by kernel_rfl
  obtain ⟨c0, c1, c2, rfl⟩ := size_three (hsz.trans hC)
  obtain ⟨fuel, hf⟩ := h
  obtain ⟨y0, y1, y2, n, _, _, h0, h1, h2⟩ := trod_struct3 Try.underlying26 hf
  have k0 : Try.prog.cellsOf 24 = 1 := by kernel_rfl
  have k1 : Try.prog.cellsOf 22 = 1 := by kernel_rfl
  simp only [Value.cells, k0, List.drop_zero, List.take_succ_cons, List.take_zero, List.drop_succ_cons] at h0 h1 h2
  obtain ⟨z0, m0, _, _, g0⟩ := trod_struct1 Try.underlying24 h0
  obtain ⟨z1, m1, _, _, g1⟩ := trod_struct1 Try.underlying24 h1
  obtain ⟨z2, m2, _, _, g2⟩ := trod_struct1 Try.underlying24 h2
  simp only [k1, List.drop_zero, List.take_succ_cons, List.take_zero] at g0 g1 g2
  obtain ⟨A1, n1, d1, l1, rfl, s1⟩ := rows_arg g0
  obtain ⟨A2, n2, d2, l2, rfl, s2⟩ := rows_arg g1
  obtain ⟨A3, n3, d3, l3, rfl, s3⟩ := rows_arg g2
  exact ⟨A1, n1, d1, l1, A2, n2, d2, l2, A3, n3, d3, l3, rfl, s1, s2, s3⟩

theorem merge_len {lb lo lt : List Rw} {e : List Ch} (h : mergeE lb lo lt e = 0) : (mergedW lb lo lt e).length ≤ 32 := by
  unfold mergeE at h
  split at h
  · split at h
    · split at h
      · unfold mergedE at h
        split at h
        · cases h
        · omega
      · cases h
    · cases h
  · cases h
theorem mergeX_len (lb lo lt : List Rw) (e : List Ch) : (if mergeE lb lo lt e = 0 then mergedW lb lo lt e else []).length ≤ 32 := by
  by_cases h : mergeE lb lo lt e = 0
  · rw [if_pos h]; exact merge_len h
  · rw [if_neg h]; simp

set_option maxRecDepth 100000 in
set_option maxHeartbeats 4000000 in
theorem right_any {w : World} {A1 : Option Addr} {n1 c1 : Nat} {l1 : List Rw} (h1 : SqR w w.heap.size A1 n1 c1 l1) (hm1 : n1 ≤ 1000 ∧ ∀ r ∈ l1, r.p.size ≤ 500) {A2 : Option Addr} {n2 c2 : Nat} {l2 : List Rw} (h2 : SqR w w.heap.size A2 n2 c2 l2) (hm2 : n2 ≤ 1000 ∧ ∀ r ∈ l2, r.p.size ≤ 500) {A3 : Option Addr} {n3 c3 : Nat} {l3 : List Rw} (h3 : SqR w w.heap.size A3 n3 c3 l3) (hm3 : n3 ≤ 1000 ∧ ∀ r ∈ l3, r.p.size ≤ 500) :
    Calls Try.prog 14 #[.agg #[.slice A1 n1 c1, .slice A2 n2 c2, .slice A3 n3 c3]] w fun e w' => e = .returned (.bool (rightR l1 && (rightR l2 && rightR l3))) ∧ Below w.heap.size w w' := by
  obtain ⟨w0, hw0⟩ : ∃ w0, w.alloc (.cells #[.slice A1 n1 c1, .slice A2 n2 c2, .slice A3 n3 c3] 26) = w0 := ⟨_, rfl⟩
  have B0 : Hid (Below w.heap.size w w0) := Lib.hid (by rw [← hw0]; exact (Below.refl _ _).alloc (Nat.le_refl _) _)
  have X0 : Hid (Lies w0 w.heap.size 3 [.slice A1 n1 c1, .slice A2 n2 c2, .slice A3 n3 c3]) := Lib.hid (by rw [← hw0]; exact Lies.new w [.slice A1 n1 c1, .slice A2 n2 c2, .slice A3 n3 c3] 26)
  have HS1 : Hid (∀ W, Below w0.heap.size w0 W → SqR W W.heap.size A1 n1 c1 l1) := Lib.hid fun W hW => (h1.below (B0.out.trans (hW.mono B0.out.size))).more (Nat.le_trans B0.out.size hW.size)
  have HS2 : Hid (∀ W, Below w0.heap.size w0 W → SqR W W.heap.size A2 n2 c2 l2) := Lib.hid fun W hW => (h2.below (B0.out.trans (hW.mono B0.out.size))).more (Nat.le_trans B0.out.size hW.size)
  have HS3 : Hid (∀ W, Below w0.heap.size w0 W → SqR W W.heap.size A3 n3 c3 l3) := Lib.hid fun W hW => (h3.below (B0.out.trans (hW.mono B0.out.size))).more (Nat.le_trans B0.out.size hW.size)
  have HQ : Hid (∀ W, Below w0.heap.size w0 W → W.cell? ⟨w.heap.size, 0, none⟩ = some (.slice A1 n1 c1) ∧ W.cell? ⟨w.heap.size, 1, none⟩ = some (.slice A2 n2 c2) ∧ W.cell? ⟨w.heap.size, 2, none⟩ = some (.slice A3 n3 c3)) := Lib.hid fun W hW =>
    ⟨(X0.out.below hW X0.out.lt).cell (j := 0) rfl, (X0.out.below hW X0.out.lt).cell (j := 1) rfl, (X0.out.below hW X0.out.lt).cell (j := 2) rfl⟩
  have HA := Lib.hid (refRight_any (HS1.out _ (Below.refl _ _)) (show n1 ≤ 1000000 by omega) (fun r hr => by have := hm1.2 r hr; omega))
  have HB := Lib.hid (fun W (hW : Below w0.heap.size w0 W) => refRight_any (HS2.out W hW) (show n2 ≤ 1000000 by omega) (fun r hr => by have := hm2.2 r hr; omega))
  have HC := Lib.hid (fun W (hW : Below w0.heap.size w0 W) => refRight_any (HS3.out W hW) (show n3 ≤ 1000000 by omega) (fun r hr => by have := hm3.2 r hr; omega))
  obtain ⟨ra, hra⟩ : ∃ r, rightR l1 = r := ⟨_, rfl⟩
  obtain ⟨rb, hrb⟩ : ∃ r, rightR l2 = r := ⟨_, rfl⟩
  obtain ⟨rc, hrc⟩ : ∃ r, rightR l3 = r := ⟨_, rfl⟩
  rw [hra] at HA ⊢
  rw [hrb] at HB ⊢
  rw [hrc] at HC ⊢
  have HW := Lib.hid hw0
  clear hw0 h1 h2 h3 hra hrb hrc
  go_enter Try.func14, Try.ntmps14
  go_upto_region 1 with fail
  rw [HW.out]
  clear HW
  obtain ⟨q0, q1, q2⟩ := HQ.out _ (Below.refl _ _)
  go_wp2_with fail
  refine HA.out.mono ?_
  rintro e w1 ⟨rfl, hb1⟩
  have G1 := Lib.hid hb1
  clear hb1 q0 q1 q2
  cases ra
  · go_wp2_with fail
    go_ret
    exact ⟨rfl, B0.out.trans (G1.out.mono B0.out.size)⟩
  obtain ⟨q0, q1, q2⟩ := HQ.out _ G1.out
  go_wp2_with fail
  refine (HB.out _ G1.out).mono ?_
  rintro e w2 ⟨rfl, hb2⟩
  have G2 := Lib.hid (G1.out.trans (hb2.mono G1.out.size))
  clear hb2 q0 q1 q2
  cases rb
  · go_wp2_with fail
    go_ret
    exact ⟨rfl, B0.out.trans (G2.out.mono B0.out.size)⟩
  obtain ⟨q0, q1, q2⟩ := HQ.out _ G2.out
  go_wp2_with fail
  refine (HC.out _ G2.out).mono ?_
  rintro e w3 ⟨rfl, hb3⟩
  have G3 := Lib.hid (G2.out.trans (hb3.mono G2.out.size))
  clear hb3 q0 q1 q2
  go_wp2_with fail
  go_ret
  exact ⟨by simp, B0.out.trans (G3.out.mono B0.out.size)⟩
end Go.Proofs.Ytkdmlffnkomdhaa
