/-
  A DISK COPIED: what is there while its sectors are copied, and what it comes to.
-/
import Derived.Test.YtionbjocfepkaaaCa
namespace Go.Proofs.Ytionbjocfepkaaa
set_option linter.unusedVariables false
open Go.RowKit Go.WideShapes Go.ChangeShapes

/-- While sectors are copied. -/
structure Cp (w : World) (M : Mo) (gc gs gr : Nat) (O : Value) (k : Nat) (wr : World) : Prop where
  below : Below w.heap.size w wr
  db : Db wr gc (.slice (some ⟨gs, 0, none⟩) M.safe.length M.safe.length) O M.fu M.fa M.dead M.ops
  sec : wr.rowIs gs 80 (65 * M.safe.length) (cpF M.safe (waC gr M.wt) k)
  ord : wr.ownsRow (gc + 1) 3 1 O M.wt.length (M.wt.map fun p => Value.int .i64 (p.1 : Int))
  ordlt : ∀ b, O.ownBlock = some b → b < gs
  row : ∃ cur, wr.heap[gr]? = some (.cells cur 37 (0, 0)) ∧ cur.size = M.wt.length * 64 ∧ cur.toList.take (offW M.wt k * 64) = fl (catW M.wt k)
  wb : w.heap.size ≤ gc
  lt : gc < gs ∧ gs < gr ∧ gr < wr.heap.size

section
variable {w wr w' : World} {M : Mo} {gc gs gr k : Nat} {O : Value}
theorem Cp.ordg (h : Cp w M gc gs gr O k wr) {b : Nat} (hb : O.ownBlock = some b) : gc < b := by
  have := (h.ord.lt b hb).1
  omega
theorem Cp.keep (h : Cp w M gc gs gr O k wr) (hb : Below wr.heap.size wr w') : Cp w M gc gs gr O k w' := by
  have hl := h.lt
  obtain ⟨cur, h1, h2, h3⟩ := h.row
  have hz := hb.size
  exact ⟨h.below.trans (hb.mono h.below.size), h.db.keep (hb.block _ (by omega)), h.sec.of_block (hb.block _ (by omega)), ownsRow_keep h.ord fun b e => hb.block b (by have := h.ordlt b e; omega), h.ordlt, ⟨cur, (hb.block _ hl.2.2).trans h1, h2, h3⟩, h.wb, hl.1, hl.2.1, by omega⟩

/-- The safe block of sector k is stored. -/
theorem Cp.sec1 (h : Cp w M gc gs gr O k wr) (ho : M.Ok) (hk : k < M.safe.length) :
    (wr.setCells gs (k * 65) (bvs (M.safe.getD k []))).rowIs gs 80 (65 * M.safe.length) (fun j => if j = k * 65 + 64 then .slice none 0 0 else cpF M.safe (waC gr M.wt) (k + 1) j) := by
  have hl : (M.safe.getD k []).length = 64 := by rw [getD_of_lt hk]; exact ho.len _ (List.getElem_mem _)
  refine (rowIs_setCells gs 80 _ (bvs (M.safe.getD k [])) (k * 65) _ _ h.sec).congr fun j hj => ?_
  rw [bvs_len, hl]
  by_cases h1 : k * 65 ≤ j ∧ j < k * 65 + 64
  · rw [if_pos h1, if_neg (by omega)]
    unfold cpF cellS
    rw [if_pos (show j / 65 < k + 1 by omega), if_pos (show j % 65 < 64 by omega), show j / 65 = k by omega, show j % 65 = j - k * 65 by omega]
    have hjl : j - k * 65 < (M.safe.getD k []).length := by rw [hl]; omega
    generalize M.safe.getD k [] = s at hjl
    simp [bvs, List.getD_eq_getElem?_getD, hjl]
  · rw [if_neg h1]
    unfold cpF
    by_cases h2 : j = k * 65 + 64
    · rw [if_pos h2, if_neg (by omega), if_neg (by omega)]
    · rw [if_neg h2]
      by_cases h3 : j / 65 < k
      · rw [if_pos h3, if_pos (by omega)]
      · rw [if_neg h3, if_neg (show ¬ j / 65 < k + 1 by omega)]
theorem Cp.step0 (h : Cp w M gc gs gr O k wr) (ho : M.Ok) (hk : k < M.safe.length) (he : waitsOf M.wt k = []) : Cp w M gc gs gr O (k + 1) (wr.setCells gs (k * 65) (bvs (M.safe.getD k []))) := by
  have hs := h.sec1 ho hk
  have hl := h.lt
  obtain ⟨cur, h1, h2, h3⟩ := h.row
  have hwb := h.wb
  obtain ⟨_, _, _, e4, e5⟩ := setCells_os gs (bvs (M.safe.getD k [])) (k * 65) wr
  refine ⟨below_setCells h.below (by omega) _ _, h.db.keep (e5 _ (by omega)), hs.congr fun j hj => ?_, ownsRow_keep h.ord fun b e => e5 b (by have := h.ordlt b e; omega), h.ordlt, ⟨cur, (e5 _ (by omega)).trans h1, h2, ?_⟩, h.wb, hl.1, hl.2.1, by rw [e4]; exact hl.2.2⟩
  · by_cases hj2 : j = k * 65 + 64
    · rw [if_pos hj2]
      unfold cpF cellS
      rw [if_pos (show j / 65 < k + 1 by omega), if_neg (show ¬ j % 65 < 64 by omega), show j / 65 = k by omega]
      unfold waC
      rw [if_pos he]
    · rw [if_neg hj2]
  · rw [offW, he, catW_succ, he, List.append_nil]
    exact h3

/-- What the row is when the writes of sector k have come into it. -/
def cpRow (cur : Array Value) (wt : List (Nat × List UInt8)) (k : Nat) : Array Value :=
  (cur.toList.take (offW wt k * 64) ++ fl (waitsOf wt k) ++ cur.toList.drop (offW wt k * 64 + (waitsOf wt k).length * 64)).toArray
theorem Cp.step1 (h : Cp w M gc gs gr O k wr) (ho : M.Ok) (hk : k < M.safe.length) (he : waitsOf M.wt k ≠ []) {cur : Array Value} (hc : wr.heap[gr]? = some (.cells cur 37 (0, 0))) :
    Cp w M gc gs gr O (k + 1) (((wr.setCells gs (k * 65) (bvs (M.safe.getD k []))).setRow gr (cpRow cur M.wt k)).drew.setCell ⟨gs, k * 65 + 64, none⟩ (waC gr M.wt k)) := by
  have hs := h.sec1 ho hk
  have hl := h.lt
  obtain ⟨cur', h1, h2, h3⟩ := h.row
  have hcc : cur' = cur := by
    rw [hc] at h1
    injection h1 with h1
    injection h1 with h1
    exact h1.symm
  subst hcc
  have hwb := h.wb
  obtain ⟨_, _, _, e4, e5⟩ := setCells_os gs (bvs (M.safe.getD k [])) (k * 65) wr
  have hb1 := below_setCells h.below (show w.heap.size ≤ gs by omega) (k * 65) (bvs (M.safe.getD k []))
  generalize wr.setCells gs (k * 65) (bvs (M.safe.getD k [])) = w1 at hs e4 e5 hb1
  have hc1 : w1.heap[gr]? = some (.cells cur' 37 (0, 0)) := (e5 _ (by omega)).trans hc
  have hr := setRow_heap w1 gr cur' (cpRow cur' M.wt k) 37 (0, 0) hc1
  have hro : ∀ b, b ≠ gr → (w1.setRow gr (cpRow cur' M.wt k)).heap[b]? = w1.heap[b]? := fun b hb => setRow_other w1 gr b _ hb
  have hb2 : Below w.heap.size w (w1.setRow gr (cpRow cur' M.wt k)) := hb1.trans ⟨rfl, rfl, rfl, by simp, fun b hb => hro b (by omega)⟩
  have hz2 : (w1.setRow gr (cpRow cur' M.wt k)).heap.size = w1.heap.size := by simp
  have hx2 : (w1.setRow gr (cpRow cur' M.wt k)).drew.rowIs gs 80 (65 * M.safe.length) (fun j => if j = k * 65 + 64 then .slice none 0 0 else cpF M.safe (waC gr M.wt) (k + 1) j) := (hs.of_block (hro gs (by omega)) : (w1.setRow gr (cpRow cur' M.wt k)).rowIs _ _ _ _)
  generalize w1.setRow gr (cpRow cur' M.wt k) = w2 at hr hro hb2 hz2 hx2 ⊢
  have hko : ∀ b, b ≠ gs → (w2.drew.setCell ⟨gs, k * 65 + 64, none⟩ (waC gr M.wt k)).heap[b]? = w2.heap[b]? := fun b hb => Below.heap_setCell w2.drew _ _ b hb
  have hall : ∀ b, b ≠ gs → b ≠ gr → (w2.drew.setCell ⟨gs, k * 65 + 64, none⟩ (waC gr M.wt k)).heap[b]? = wr.heap[b]? := fun b h1 h2 => (hko b h1).trans ((hro b h2).trans (e5 b h1))
  refine ⟨hb2.drew.setCell (show w.heap.size ≤ gs by omega) _, h.db.keep (hall _ (by omega) (by omega)), (hx2.set (k * 65 + 64) (waC gr M.wt k)).congr fun j hj => ?_, ownsRow_keep h.ord fun b e => hall b (by have := h.ordlt b e; omega) (by have := h.ordlt b e; omega), h.ordlt, ⟨_, (hko _ (by omega)).trans hr, ?_, ?_⟩, h.wb, hl.1, hl.2.1, ?_⟩
  · by_cases hj2 : j = k * 65 + 64
    · subst hj2
      simp only [if_true]
      unfold cpF cellS
      rw [if_pos (show (k * 65 + 64) / 65 < k + 1 by omega), if_neg (show ¬ (k * 65 + 64) % 65 < 64 by omega), show (k * 65 + 64) / 65 = k by omega]
    · simp only [if_neg hj2]
  · have hle := offW_le M.wt (k + 1)
    rw [offW] at hle
    have hx : ∀ x ∈ waitsOf M.wt k, x.length = 64 := fun x hx => by
      obtain ⟨p, hp, rfl⟩ := waitsOf_mem hx
      exact (ho.wt p hp).2
    simp only [cpRow, List.size_toArray, List.length_append, List.length_take, List.length_drop, Array.length_toList, fl_len hx, h2]
    omega
  · have hle := offW_le M.wt (k + 1)
    rw [offW] at hle
    have hx : ∀ x ∈ waitsOf M.wt k, x.length = 64 := fun x hx => by
      obtain ⟨p, hp, rfl⟩ := waitsOf_mem hx
      exact (ho.wt p hp).2
    rw [catW_succ, fl_app, offW, ← h3]
    simp only [cpRow]
    rw [List.take_append_of_le_length (by simp only [List.length_append, List.length_take, Array.length_toList, fl_len hx, h2]; omega)]
    rw [List.take_of_length_le (by simp only [List.length_append, List.length_take, Array.length_toList, fl_len hx, h2]; omega)]
  · have hz3 : (w2.drew.setCell ⟨gs, k * 65 + 64, none⟩ (waC gr M.wt k)).heap.size = w2.heap.size := by
      simp only [World.setCell, Array.size_modify]
      rfl
    omega

theorem ownsRow_zero {e : TypeId} {size n base : Nat} {v : Value} {xs : List Value} (h : w.ownsRow base e size v n xs) : w.ownsRow 0 e size v n xs := by
  refine ⟨h.1, ?_⟩
  rcases h.2 with h2 | ⟨g, cap, cur, h3, hb, rest⟩
  · exact .inl h2
  · exact .inr ⟨g, cap, cur, h3, Nat.zero_le _, rest⟩
/-- All sectors are copied: the copy is a disk as the first one is, in new memory. -/
theorem Cp.done (h : Cp w M gc gs gr O M.safe.length wr) (ho : M.Ok) (hT : M.wt.length ≤ 1000000000) : ∃ S, Dk wr gc S M ∧ (∀ b, S b → w.heap.size ≤ b) ∧ Below w.heap.size w wr := by
  have hl := h.lt
  have hwb := h.wb
  refine ⟨fun b => b = gc ∨ b = gs ∨ b = gr ∨ O.ownBlock = some b, ⟨gs, O, waC gr M.wt, ?_⟩, fun b hb => ?_, h.below⟩
  · refine ⟨h.db, .inl rfl, .inr (.inl rfl), fun b hb => ?_, h.sec.congr fun j hj => ?_, fun i hi => ?_, fun i j b _ _ _ hr => ?_, ownsRow_zero h.ord, fun b hb => .inr (.inr (.inr hb)), ho⟩
    · rcases hb with rfl | rfl | rfl | hb
      · omega
      · omega
      · omega
      · have := h.ordlt b hb; omega
    · unfold cpF
      rw [if_pos (by omega)]
    · unfold waC
      by_cases he : waitsOf M.wt i = []
      · exact .inl ⟨he, by rw [if_pos he]⟩
      · obtain ⟨cur, h1, h2, h3⟩ := h.row
        have hx : ∀ x ∈ waitsOf M.wt i, x.length = 64 := fun x hx => by
          obtain ⟨p, hp, rfl⟩ := waitsOf_mem hx
          exact (ho.wt p hp).2
        refine .inr ⟨gr, offW M.wt i * 64, _, cur, he, by rw [if_neg he], .inr (.inr (.inl rfl)), Nat.le_refl _, ?_, fun j v hj => ?_, h1, fun hlt => absurd hlt (Nat.lt_irrefl _)⟩
        · have := waitsOf_len M.wt i
          unfold maxLen
          omega
        · obtain ⟨r, hr⟩ := catW_split M.wt (show i < M.safe.length from hi)
          have hjl := (List.getElem?_eq_some_iff.1 hj).1
          have hcl : (fl (catW M.wt i)).length = offW M.wt i * 64 := by
            rw [fl_len (fun x hx => by obtain ⟨p, hp, rfl⟩ := catW_mem hx; exact (ho.wt p hp).2), catW_len]
          rw [cell_of_row _ _ _ _ _ _ h1, ← Array.getElem?_toList]
          have e1 : (cur.toList.take (offW M.wt M.safe.length * 64))[offW M.wt i * 64 + j]? = some v := by
            rw [h3, hr, fl_app, fl_app, List.getElem?_append_right (by omega), hcl, show offW M.wt i * 64 + j - offW M.wt i * 64 = j by omega, List.getElem?_append_left hjl, hj]
          rw [List.getElem?_take] at e1
          split at e1
          · exact e1
          · cases e1
    · rw [waC_room] at hr
      cases hr
  · rcases hb with rfl | rfl | rfl | hb
    · exact hwb
    · omega
    · omega
    · have := h.ordg hb; omega

theorem Cp.start {w w1 : World} {M : Mo} {O s0 O0 : Value} (hw : Below w.heap.size w w1) (bl : Bl w1 w.heap.size 68 (dkL s0 O0 M.fu M.fa M.dead M.ops)) (hown : w1.ownsRow (w.heap.size + 1) 3 1 O M.wt.length (M.wt.map fun p => Value.int .i64 (p.1 : Int))) :
    Cp w M w.heap.size w1.heap.size (w1.heap.size + 1) O 0 ((((w1.setCell ⟨w.heap.size, 1, none⟩ O).setCell ⟨w.heap.size, 0, none⟩ (.slice (some ⟨w1.heap.size, 0, none⟩) M.safe.length M.safe.length)).alloc (.cells (madeCells ZS (M.safe.length * 65)) 80)).alloc (.cells (madeCells Z64 (M.wt.length * 64)) 37)) := by
  have hlt := bl.lt
  have bl2 := (bl.set_ 1 O).set_ 0 (.slice (some ⟨w1.heap.size, 0, none⟩) M.safe.length M.safe.length)
  have hb2 : Below w.heap.size w ((w1.setCell ⟨w.heap.size, 1, none⟩ O).setCell ⟨w.heap.size, 0, none⟩ (.slice (some ⟨w1.heap.size, 0, none⟩) M.safe.length M.safe.length)) := (hw.setCell (Nat.le_refl _) _).setCell (Nat.le_refl _) _
  have hz2 : ((w1.setCell ⟨w.heap.size, 1, none⟩ O).setCell ⟨w.heap.size, 0, none⟩ (.slice (some ⟨w1.heap.size, 0, none⟩) M.safe.length M.safe.length)).heap.size = w1.heap.size := by simp [World.setCell]
  have ho : ∀ b, b ≠ w.heap.size → ((w1.setCell ⟨w.heap.size, 1, none⟩ O).setCell ⟨w.heap.size, 0, none⟩ (.slice (some ⟨w1.heap.size, 0, none⟩) M.safe.length M.safe.length)).heap[b]? = w1.heap[b]? := fun b hb => (Below.heap_setCell _ _ _ b hb).trans (Below.heap_setCell _ _ _ b hb)
  generalize (w1.setCell ⟨w.heap.size, 1, none⟩ O).setCell ⟨w.heap.size, 0, none⟩ (.slice (some ⟨w1.heap.size, 0, none⟩) M.safe.length M.safe.length) = w2 at bl2 hb2 hz2 ho ⊢
  have hms := made_sectors M.safe.length w2
  have hz3 : (w2.alloc (.cells (madeCells ZS (M.safe.length * 65)) 80)).heap.size = w1.heap.size + 1 := by simp [hz2]
  have hg := heap_alloc_new (w2.alloc (.cells (madeCells ZS (M.safe.length * 65)) 80)) (.cells (madeCells Z64 (M.wt.length * 64)) 37)
  rw [hz3] at hg
  rw [hz2] at hms
  refine ⟨(hb2.alloc hb2.size _).alloc (by rw [hz3]; have := hw.size; omega) _, (bl2.alloc _).alloc _, (hms.alloc _).congr fun j hj => ?_, ?_, fun b hb => (hown.lt b hb).2, ⟨_, hg, size_madeCells _ _, ?_⟩, Nat.le_refl _, hlt, Nat.lt_succ_self _, by rw [show ∀ (w : World) o, (w.alloc o).heap.size = w.heap.size + 1 from fun w o => by simp, hz3]; exact Nat.lt_succ_self _⟩
  · unfold cpF cellS
    rw [if_neg (Nat.not_lt_zero _)]
    by_cases h64 : j % 65 < 64
    · rw [if_pos h64, if_pos h64, getD_of_lt (l := List.replicate M.safe.length Zb) (j := j / 65) (by rw [List.length_replicate]; omega), List.getElem_replicate, getD_of_lt (by rw [Zb_len]; exact h64), Zb_at]
    · rw [if_neg h64, if_neg h64]
  · refine ownsRow_keep hown fun b hb => ?_
    have h1 := hown.lt b hb
    exact ((Below.heap_alloc _ _ b (by rw [hz3]; omega)).trans (Below.heap_alloc _ _ b (by rw [hz2]; exact h1.2))).trans (ho b (by omega))
  · simp [offW, catW, fl]
end
end Go.Proofs.Ytionbjocfepkaaa
