/-
  OBJECTS: what the list of a map's parts is like (pure).
  OBJECTS: a Go map from Ids to texts.
-/
import Derived.Test.YtnkhoghdfncgpaaDoorK34
import Derived.Test.YtnkhoghdfncgpaaDoorK40
import Derived.WideKeyArr
import Derived.Maps.OwnSet
import Derived.Maps.Views
namespace Go.Proofs.YtnkhoghdfncgpaaDoor
set_option linter.unusedVariables false
set_option linter.unusedSimpArgs false

theorem gO_snoc (l : List Ov) (x : Ov) : gO (l ++ [x]) = gAddO (gO l) x := by
  unfold gO
  rw [List.foldl_append]
  rfl
/-- Induction from behind. -/
theorem snoc_ind {α : Type} {P : List α → Prop} (h0 : P []) (h1 : ∀ l x, P l → P (l ++ [x])) (l : List α) : P l := by
  have h : ∀ m : List α, P m.reverse := by
    intro m
    induction m with
    | nil => exact h0
    | cons a m ih => rw [List.reverse_cons]; exact h1 _ _ ih
  have := h l.reverse
  rwa [List.reverse_reverse] at this
theorem gAddO_none {s : List Ov × Bool} {x : Ov} (h : s.1.find? (fun h => (idW h).b == (idW x).b) = none) : gAddO s x = (s.1 ++ [x], s.2) := by unfold gAddO; rw [h]
theorem gAddO_some {s : List Ov × Bool} {x y : Ov} (h : s.1.find? (fun h => (idW h).b == (idW x).b) = some y) : gAddO s x = if sameO y x then s else (s.1, true) := by unfold gAddO; rw [h]
/-- No twins ahead, where there are none at the end. -/
theorem gAddO_free {s : List Ov × Bool} {x : Ov} (h : (gAddO s x).2 = false) : s.2 = false := by
  cases hf : s.1.find? (fun h => (idW h).b == (idW x).b) with
  | none => rw [gAddO_none hf] at h; exact h
  | some y =>
    rw [gAddO_some hf] at h
    by_cases hs : sameO y x = true
    · rw [if_pos hs] at h; exact h
    · rw [if_neg hs] at h; cases h
/-- Each that is told stands there, each that stands there was told, and none has another's Id. -/
structure Told (l : List Ov) (p : List Ov) : Prop where
  all : ∀ x ∈ l, x ∈ p
  from_ : ∀ x ∈ p, x ∈ l
  one : p.Pairwise fun a b => (idW a).b ≠ (idW b).b
theorem gO_told (l : List Ov) : (gO l).2 = false → Told l (gO l).1 := by
  induction l using snoc_ind with
  | h0 => exact fun _ => ⟨fun x hx => (by cases hx), fun x hx => (by cases hx), List.Pairwise.nil⟩
  | h1 l x ih =>
    intro h
    rw [gO_snoc] at h ⊢
    have hi := ih (gAddO_free h)
    cases hf : (gO l).1.find? (fun h => (idW h).b == (idW x).b) with
    | none =>
      rw [gAddO_none hf]
      refine ⟨fun y hy => ?_, fun y hy => ?_, ?_⟩
      · rcases List.mem_append.1 hy with hy | hy
        · exact List.mem_append_left _ (hi.all y hy)
        · exact List.mem_append_right _ hy
      · rcases List.mem_append.1 hy with hy | hy
        · exact List.mem_append_left _ (hi.from_ y hy)
        · exact List.mem_append_right _ hy
      · rw [List.pairwise_append]
        refine ⟨hi.one, List.pairwise_singleton _ _, fun a ha b hb => ?_⟩
        obtain rfl : b = x := by simpa using hb
        have := List.find?_eq_none.1 hf a ha
        simpa using this
    | some y =>
      rw [gAddO_some hf] at h ⊢
      by_cases hs : sameO y x = true
      · rw [if_pos hs] at h ⊢
        have hy := List.mem_of_find?_eq_some hf
        have e := sameO_to hs
        subst e
        exact ⟨fun z hz => (by
          rcases List.mem_append.1 hz with hz | hz
          · exact hi.all z hz
          · obtain rfl : z = y := by simpa using hz
            exact hy), fun z hz => List.mem_append_left _ (hi.from_ z hz), hi.one⟩
      · rw [if_neg hs] at h; cases h
/-- The tree stands last. -/
theorem gO_tree {rs : List Rw} (h : (gO (allO rs)).2 = false) : (gO (allO rs)).1 = (gO (rs.map fun r => blobO r.t)).1 ++ [treeO rs] ∧ Told (rs.map fun r => blobO r.t) (gO (rs.map fun r => blobO r.t)).1 := by
  have e : gO (allO rs) = gAddO (gO (rs.map fun r => blobO r.t)) (treeO rs) := by unfold allO; exact gO_snoc _ _
  rw [e] at h ⊢
  have ht := gO_told _ (gAddO_free h)
  refine ⟨?_, ht⟩
  cases hf : (gO (rs.map fun r => blobO r.t)).1.find? (fun h => (idW h).b == (idW (treeO rs)).b) with
  | none => rw [gAddO_none hf]
  | some y =>
    rw [gAddO_some hf] at h
    by_cases hs : sameO y (treeO rs) = true
    · have hy := ht.from_ y (List.mem_of_find?_eq_some hf)
      obtain ⟨r, _, rfl⟩ := List.mem_map.1 hy
      have := congrArg Ov.kind (sameO_to hs)
      exact absurd this (by show ¬ ((1 : Int) = 2); decide)
    · rw [if_neg hs] at h; cases h
end Go.Proofs.YtnkhoghdfncgpaaDoor
namespace Go.Proofs.YtnkhoghdfncgpaaDoor
set_option linter.unusedVariables false
set_option linter.unusedSimpArgs false
open Go.RowKit Go.WideShapes Go.ChangeShapes Go.Deep Go.Maps

theorem id_arr : Go.WideMaps.ArrKey Tryd.prog 24 5 32 := ⟨Tryd.underlying24, by kernel_rfl, by kernel_rfl, by kernel_rfl⟩
theorem id_keyed : Keyed Tryd.prog 24 := Keyed.of_law id_arr.law
theorem mapM_some {α β : Type} {f : α → Option β} : ∀ (l : List α), (∀ x ∈ l, ∃ y, f x = some y) → ∃ ys, l.mapM f = some ys
  | [], _ => ⟨[], rfl⟩
  | x :: r, h => by
    obtain ⟨y, hy⟩ := h x (by simp)
    obtain ⟨ys, hys⟩ := mapM_some r fun z hz => h z (List.mem_cons_of_mem _ hz)
    exact ⟨y :: ys, by rw [List.mapM_cons, hy, hys]; rfl⟩
theorem types_two : 1 < Tryd.prog.types.size := by decide +kernel
set_option maxRecDepth 100000 in
theorem key_ex (i : Idv) : ∃ l, keyOf Tryd.prog 24 (idV i) = some l := by
  have hs : ∃ m, Tryd.prog.types.size = m + 1 := ⟨Tryd.prog.types.size - 1, by have := types_two; omega⟩
  have hkt := id_arr.keyType hs
  have hsz := id_arr.size
  obtain ⟨m, hm⟩ := hs
  have hlen : (S3.bvs i.b).length = 32 := id_sz i
  unfold keyOf
  simp only [Tryd.underlying24]
  rw [if_pos (by simp [hkt, Value.formed, Tryd.underlying24, hsz, hlen]), hm]
  unfold Program.keyLits
  simp only [Tryd.underlying24, Value.cells]
  rw [if_pos (by rw [hsz]; exact hlen)]
  obtain ⟨ys, hys⟩ := mapM_some (f := fun j => Tryd.prog.keyLits (m + 1) 5 (((S3.bvs i.b).drop (j * Tryd.prog.cellsOf 5)).take (Tryd.prog.cellsOf 5))) (List.range 32) (fun j hj => by
    have hj : j < 32 := by simpa using hj
    rw [id_arr.one, Nat.mul_one]
    have hjl : j < (S3.bvs i.b).length := by omega
    have e1 : ((S3.bvs i.b).drop j).take 1 = [(S3.bvs i.b)[j]] := by
      rw [List.drop_eq_getElem_cons hjl]
      rfl
    rw [e1]
    have e2 : (S3.bvs i.b)[j] = S3.bv (i.b[j]'(by rw [i.h]; exact hj)) := by simp [S3.bvs]
    rw [e2]
    have hb := (i.b[j]'(by rw [i.h]; exact hj)).toNat_lt
    have hw : (Lit.int .u8 ((i.b[j]'(by rw [i.h]; exact hj)).toNat : Int)).wf = true := by
      simp [Lit.wf, IntKind.min, IntKind.max, IntKind.signed, IntKind.bits]
      omega
    exact ⟨_, by unfold Program.keyLits; simp only [Tryd.underlying5, S3.bv]; simp [hw]; rfl⟩)
  exact ⟨.string (keyBytes ys.flatten), by
    rw [hys]
    rfl⟩
/-- What an Id reads as. -/
noncomputable def keyL (i : Idv) : Lit := (key_ex i).choose
theorem key_is (i : Idv) : keyOf Tryd.prog 24 (idV i) = some (keyL i) := (key_ex i).choose_spec
theorem bv_inj {a b : UInt8} (h : S3.bv a = S3.bv b) : a = b := by
  unfold S3.bv at h
  injection h with _ h
  exact UInt8.toNat_inj.1 (by omega)
theorem bvs_inj {l l' : List UInt8} (h : S3.bvs l = S3.bvs l') : l = l' := by
  unfold S3.bvs at h
  exact (List.map_inj_right (fun _ _ h => bv_inj h)).1 h
set_option maxRecDepth 100000 in
theorem key_inj {i j : Idv} (h : keyL i = keyL j) : i = j := by
  have h2 : idV i = idV j := id_keyed.inj (key_is i) (by rw [h]; exact key_is j)
  injection h2 with h2
  have h3 := congrArg Array.toList h2
  exact Idv.ext_ (bvs_inj h3)
/-- How a text reads. -/
def strR (v : Value) : Option (DataW Unit × List MemPlace) := match v with | .string s => some (.lit (.string s.data.toList), []) | _ => none
theorem strR_inv {v : Value} {d : DataW Unit} {ps : List MemPlace} (h : strR v = some (d, ps)) : ∃ s, v = .string s ∧ d = .lit (.string s.data.toList) := by
  unfold strR at h
  split at h
  · injection h with h; injection h with h1 h2; exact ⟨_, rfl, h1.symm⟩
  · cases h
theorem zero_str (w : World) : (zeroValue 9).run Tryd.prog w = .ok (.string ⟨#[]⟩) w := by kernel_rfl
/-- The text of an Id. -/
def lookT (l : List (Idv × ByteArray)) (i : Idv) : Option ByteArray := (l.reverse.find? fun p => p.1.b == i.b).map (·.2)
theorem look_nil (i : Idv) : lookT [] i = none := rfl
theorem look_same (l : List (Idv × ByteArray)) (i : Idv) (s : ByteArray) : lookT (l ++ [(i, s)]) i = some s := by unfold lookT; simp
theorem look_other (l : List (Idv × ByteArray)) {i j : Idv} (s : ByteArray) (h : j ≠ i) : lookT (l ++ [(i, s)]) j = lookT l j := by
  have : (i.b == j.b) = false := by
    rw [beq_eq_false_iff_ne]
    exact fun e => h (Idv.ext_ e.symm)
  unfold lookT
  simp [this]
/-- A map from Ids to texts. -/
structure Txs (w : World) (b : Nat) (n : Nat) (l : List (Idv × ByteArray)) : Prop where
  ex : ∃ D : DataW Unit, w.ownsMap Tryd.prog 24 strR b n D ∧ IsMap D ∧ ∀ i, has D (keyL i) = (lookT l i).isSome ∧ D.atKey (keyL i) (.lit (.string [])) = .lit (.string ((lookT l i).getD ⟨#[]⟩).data.toList)
theorem Txs.lookup {w : World} {b n : Nat} {l : List (Idv × ByteArray)} (h : Txs w b n l) {ops : Array Oper} {rest : List Oper} {o : Oper} {a : Act} {Q : Exit → Act → World → Prop}
    (hg : o.guard = none) (m x : Operand) (hop : o.op = Op.lookup 55 m x true) (hm : a.eval m = .map (some b)) (i : Idv) (hx : a.eval x = idV i) (q : Bool) (s : ByteArray) (hq : (lookT l i).isSome = q) (hs : (lookT l i).getD ⟨#[]⟩ = s)
    (hK : wpList Tryd.prog ops Q rest (a.put o.dst (.tuple #[.string s, .bool q])) w) : wpList Tryd.prog ops Q (o :: rest) a w := by
  obtain ⟨D, hown, hmap, hat⟩ := h.ex
  refine wpList_lookup_own_ok w hg m x 55 hop 24 9 id_keyed Tryd.underlying55 strR (zero_str w) (.lit (.string [])) [] rfl b n D hm hown _ _ hx (key_is i) fun v ps hv => ?_
  rw [(hat i).2, hs] at hv
  obtain ⟨y, rfl, hy⟩ := strR_inv hv
  injection hy with hy
  injection hy with hy
  rw [(hat i).1, hq]
  have : y = s := by
    apply ByteArray.ext
    apply Array.ext'
    exact hy.symm
  rw [this]
  exact hK
theorem Txs.update {w : World} {b n : Nat} {l : List (Idv × ByteArray)} (h : Txs w b n l) {ops : Array Oper} {rest : List Oper} {o : Oper} {a : Act} {Q : Exit → Act → World → Prop}
    (hg : o.guard = none) (m x v : Operand) (hop : o.op = Op.mapUpdate 55 m x v) (hm : a.eval m = .map (some b)) (i : Idv) (s : ByteArray) (hx : a.eval x = idV i) (hv : a.eval v = .string s) (hn : n < maxLen)
    (hK : ∀ w', Txs w' b (n + 1) (l ++ [(i, s)]) → w.grownBy w' (some b) → wpList Tryd.prog ops Q rest (a.put o.dst undef) w') : wpList Tryd.prog ops Q (o :: rest) a w := by
  obtain ⟨D, hown, hmap, hat⟩ := h.ex
  refine wpList_mapUpdate_own w hg m x v 55 hop 24 9 id_keyed Tryd.underlying55 strR b n D hm hown hn _ _ _ hx hv (key_is i) (.lit (.string s.data.toList)) [] rfl ?_
  intro w' hown' hg'
  have hkl := id_keyed.key (key_is i)
  refine hK w' ⟨⟨_, hown', ?_, fun j => ?_⟩⟩ hg'
  · obtain ⟨es, rfl⟩ := hmap
    exact ⟨_, rfl⟩
  · by_cases e : j = i
    · subst e
      rw [atKey_put_same hmap hkl, has_put_same hmap hkl, look_same]
      exact ⟨rfl, rfl⟩
    · have hne : keyL j ≠ keyL i := fun h => e (key_inj h)
      rw [atKey_put_other hne, has_put_other hne, look_other _ _ e]
      exact hat j
theorem Txs.made (w : World) : Txs (w.alloc (.map #[] 0)) w.heap.size 0 [] :=
  ⟨⟨_, World.ownsMap_made w _ _ _, ⟨_, rfl⟩, fun i => ⟨rfl, rfl⟩⟩⟩
theorem Txs.below {w w' : World} {b n : Nat} {l : List (Idv × ByteArray)} (h : Txs w b n l) (hb : Below w.heap.size w w') : Txs w' b n l := by
  obtain ⟨D, hown, h2⟩ := h.ex
  exact ⟨⟨D, hown.kept (row := none) ⟨hb.os, hb.tape, hb.output, hb.size, fun i hi _ => hb.block i hi⟩ (by simp), h2⟩⟩
theorem Txs.lt {w : World} {b n : Nat} {l : List (Idv × ByteArray)} (h : Txs w b n l) : b < w.heap.size := by
  obtain ⟨D, hown, h2⟩ := h.ex
  exact hown.lt
end Go.Proofs.YtnkhoghdfncgpaaDoor
