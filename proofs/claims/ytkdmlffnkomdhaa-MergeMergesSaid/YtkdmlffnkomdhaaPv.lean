/-
  THE MERGE BY PLACES IS PATH BY PATH, PURE.
-/
import Derived.Test.YtkdmlffnkomdhaaPu
import Derived.Test.YtkdmlffnkomdhaaGt
namespace Go.Proofs.Ytkdmlffnkomdhaa
set_option linter.unusedVariables false
set_option linter.unusedSimpArgs false

section
variable {α β : Type} {fa : α → ByteArray} {fb : β → ByteArray}
def keyW (fa : α → ByteArray) (fb : β → ByteArray) : Option α × Option β → ByteArray
  | (some a, _) => fa a
  | (none, some b) => fb b
  | (none, none) => ⟨#[]⟩
theorem find_here {a : α} {l : List α} {s : ByteArray} (h : fa a = s) : findW fa (a :: l) s = some a := by
  unfold findW
  rw [List.find?_cons_of_pos (by simp [h])]
theorem find_next {a : α} {l : List α} {s : ByteArray} (h : fa a ≠ s) : findW fa (a :: l) s = findW fa l s := by
  unfold findW
  rw [List.find?_cons_of_neg (by intro e; exact h (bytes_ext (by simpa using e)))]
theorem find_none {l : List α} {s : ByteArray} (h : ∀ x ∈ l, lt s (fa x) = true) : findW fa l s = none := by
  unfold findW
  rw [List.find?_eq_none]
  intro x hx e
  have e : fa x = s := bytes_ext (by simpa using e)
  have := h x hx
  rw [e, lt_irrefl'] at this
  cases this
theorem lt_ne {a b : ByteArray} (h : lt a b = true) : a ≠ b := fun e => by rw [e, lt_irrefl'] at h; cases h
theorem key_mem (x : ByteArray) : ∀ (la : List α) (lb : List β), x ∈ (mergeL fa fb la lb).map (keyW fa fb) ↔ (∃ a ∈ la, fa a = x) ∨ ∃ b ∈ lb, fb b = x
  | [], [] => by simp [mergeL]
  | a :: la, [] => by
    have ih := key_mem x la ([] : List β)
    rw [mergeL, List.map_cons, List.mem_cons, ih]
    simp [keyW, eq_comm]
  | [], b :: lb => by
    have ih := key_mem x ([] : List α) lb
    rw [mergeL, List.map_cons, List.mem_cons, ih]
    simp [keyW, eq_comm]
  | a :: la, b :: lb => by
    rw [mergeL]
    by_cases h1 : lt (fa a) (fb b) = true
    · have ih := key_mem x la (b :: lb)
      rw [if_pos h1, List.map_cons, List.mem_cons, ih]
      simp [keyW]
      grind
    · rw [if_neg h1]
      by_cases h2 : lt (fb b) (fa a) = true
      · have ih := key_mem x (a :: la) lb
        rw [if_pos h2, List.map_cons, List.mem_cons, ih]
        simp [keyW]
        grind
      · have ih := key_mem x la lb
        have e := lt_eq (by simpa using h1) (by simpa using h2)
        rw [if_neg h2, List.map_cons, List.mem_cons, ih]
        simp [keyW, ← e]
        grind
  termination_by la lb => la.length + lb.length
theorem key_above {x : ByteArray} {la : List α} {lb : List β} (ha : ∀ a ∈ la, lt x (fa a) = true) (hb : ∀ b ∈ lb, lt x (fb b) = true) : ∀ o ∈ mergeL fa fb la lb, lt x (keyW fa fb o) = true := fun o ho => by
  rcases (key_mem (fa := fa) (fb := fb) (keyW fa fb o) la lb).1 (List.mem_map.2 ⟨o, ho, rfl⟩) with ⟨a, h, e⟩ | ⟨b, h, e⟩
  · rw [← e]; exact ha a h
  · rw [← e]; exact hb b h
theorem merge_up : ∀ (la : List α) (lb : List β), Up fa la → Up fb lb → ((mergeL fa fb la lb).map (keyW fa fb)).Pairwise (fun x y => lt x y = true) ∧ ∀ o ∈ mergeL fa fb la lb, o = (findW fa la (keyW fa fb o), findW fb lb (keyW fa fb o))
  | [], [], _, _ => by simp [mergeL]
  | a :: la, [], ha, hb => by
    obtain ⟨a1, a2⟩ := up_cons ha
    have ih := merge_up la ([] : List β) a2 hb
    have hk := key_above (fa := fa) (fb := fb) (x := fa a) (la := la) (lb := []) a1 (by simp)
    rw [mergeL]
    refine ⟨?_, fun o ho => ?_⟩
    · rw [List.map_cons, List.pairwise_cons]
      refine ⟨fun y hy => ?_, ih.1⟩
      obtain ⟨o, ho, rfl⟩ := List.mem_map.1 hy
      exact hk o ho
    · rcases List.mem_cons.1 ho with rfl | ho
      · rw [show keyW fa fb (some a, none) = fa a from rfl, find_here rfl]; rfl
      · rw [find_next (lt_ne (hk o ho))]
        exact ih.2 o ho
  | [], b :: lb, ha, hb => by
    obtain ⟨b1, b2⟩ := up_cons hb
    have ih := merge_up ([] : List α) lb ha b2
    have hk := key_above (fa := fa) (fb := fb) (x := fb b) (la := []) (lb := lb) (by simp) b1
    rw [mergeL]
    refine ⟨?_, fun o ho => ?_⟩
    · rw [List.map_cons, List.pairwise_cons]
      refine ⟨fun y hy => ?_, ih.1⟩
      obtain ⟨o, ho, rfl⟩ := List.mem_map.1 hy
      exact hk o ho
    · rcases List.mem_cons.1 ho with rfl | ho
      · rw [show keyW fa fb (none, some b) = fb b from rfl, find_here rfl]; rfl
      · rw [find_next (lt_ne (hk o ho))]
        exact ih.2 o ho
  | a :: la, b :: lb, ha, hb => by
    obtain ⟨a1, a2⟩ := up_cons ha
    obtain ⟨b1, b2⟩ := up_cons hb
    rw [mergeL]
    by_cases h1 : lt (fa a) (fb b) = true
    · have ih := merge_up la (b :: lb) a2 hb
      have hb' : ∀ y ∈ b :: lb, lt (fa a) (fb y) = true := fun y hy => by
        rcases List.mem_cons.1 hy with rfl | hy
        · exact h1
        · exact lt_trans' h1 (b1 y hy)
      have hk := key_above (fa := fa) (fb := fb) (x := fa a) (la := la) (lb := b :: lb) a1 hb'
      rw [if_pos h1]
      refine ⟨?_, fun o ho => ?_⟩
      · rw [List.map_cons, List.pairwise_cons]
        refine ⟨fun y hy => ?_, ih.1⟩
        obtain ⟨o, ho, rfl⟩ := List.mem_map.1 hy
        exact hk o ho
      · rcases List.mem_cons.1 ho with rfl | ho
        · rw [show keyW fa fb (some a, none) = fa a from rfl, find_here rfl, find_none hb']
        · rw [find_next (fa := fa) (lt_ne (hk o ho))]
          exact ih.2 o ho
    · rw [if_neg h1]
      by_cases h2 : lt (fb b) (fa a) = true
      · have ih := merge_up (a :: la) lb ha b2
        have ha' : ∀ y ∈ a :: la, lt (fb b) (fa y) = true := fun y hy => by
          rcases List.mem_cons.1 hy with rfl | hy
          · exact h2
          · exact lt_trans' h2 (a1 y hy)
        have hk := key_above (fa := fa) (fb := fb) (x := fb b) (la := a :: la) (lb := lb) ha' b1
        rw [if_pos h2]
        refine ⟨?_, fun o ho => ?_⟩
        · rw [List.map_cons, List.pairwise_cons]
          refine ⟨fun y hy => ?_, ih.1⟩
          obtain ⟨o, ho, rfl⟩ := List.mem_map.1 hy
          exact hk o ho
        · rcases List.mem_cons.1 ho with rfl | ho
          · rw [show keyW fa fb (none, some b) = fb b from rfl, find_here (fa := fb) rfl, find_none ha']
          · rw [find_next (fa := fb) (lt_ne (hk o ho))]
            exact ih.2 o ho
      · have e := lt_eq (by simpa using h1) (by simpa using h2)
        have ih := merge_up la lb a2 b2
        have hk := key_above (fa := fa) (fb := fb) (x := fa a) (la := la) (lb := lb) a1 (fun y hy => by rw [e]; exact b1 y hy)
        rw [if_neg h2]
        refine ⟨?_, fun o ho => ?_⟩
        · rw [List.map_cons, List.pairwise_cons]
          refine ⟨fun y hy => ?_, ih.1⟩
          obtain ⟨o, ho, rfl⟩ := List.mem_map.1 hy
          exact hk o ho
        · rcases List.mem_cons.1 ho with rfl | ho
          · rw [show keyW fa fb (some a, some b) = fa a from rfl, find_here rfl, find_here e.symm]
          · rw [find_next (fa := fa) (lt_ne (hk o ho)), find_next (fa := fb) (by rw [← e]; exact lt_ne (hk o ho))]
            exact ih.2 o ho
  termination_by la lb => la.length + lb.length
/-- The merge by places, path by path. -/
theorem merge_paths {la : List α} {lb : List β} (ha : Up fa la) (hb : Up fb lb) : mergeL fa fb la lb = (pathsW fb (pathsW fa [] la) lb).map fun s => (findW fa la s, findW fb lb s) := by
  obtain ⟨h1, h2⟩ := merge_up la lb ha hb
  have hk : (mergeL fa fb la lb).map (keyW fa fb) = pathsW fb (pathsW fa [] la) lb := by
    refine up_eq _ _ h1 (pathsW_up _ _ (pathsW_up _ _ (by simp))) fun x => ?_
    rw [key_mem, pathsW_mem, pathsW_mem]
    simp
  rw [← hk, List.map_map]
  conv => lhs; rw [← List.map_id (mergeL fa fb la lb)]
  exact List.map_congr_left fun o ho => h2 o ho
end
end Go.Proofs.Ytkdmlffnkomdhaa
