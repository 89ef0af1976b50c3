/-
  A BLOCK APPENDED to what waits of a sector: the slice may be nil, have room, or be full (whatever its head).
-/
import Derived.Test.YtionbjocfepkaaaDh
import Derived.Deep.AppendLies
import Derived.Great.BuildSlice
import Derived.Test.YtionbjocfepkaaaBar
namespace Go.Proofs.Ytionbjocfepkaaa
set_option linter.unusedVariables false
open Go.RowKit Go.WideShapes Go.ChangeShapes

theorem info_block : (Try.prog.info? 37).map (fun i => (i.zero, i.size, i.bytes)) = some (some (.agg Z64), 64, 64) := by kernel_rfl

/-- What an append of one block leaves. -/
structure Apd (w w' : World) (S : Nat → Prop) (v v' : Value) (l : List (List UInt8)) : Prop where
  grown : w.grownBy w' (roomBlk v)
  at_ : ∃ b, v'.ownBlock = some b ∧ b < w'.heap.size ∧ (roomBlk v = some b ∨ (b = w.heap.size ∧ roomBlk v = none))
  wv : ∀ S' : Nat → Prop, (∀ b, S b → S' b) → (∀ b, w.heap.size ≤ b → b < w'.heap.size → S' b) → Wv w' S' v' l

theorem run_append_w {w : World} {S : Nat → Prop} {v : Value} {l : List (List UInt8)} (hw : Wv w S v l) (hl : ∀ y ∈ l, y.length = 64) (a : Addr) (c : Nat) (x : List UInt8) (hx : x.length = 64) (hn : ∀ j u, (bvs x)[j]? = some u → w.cell? (a.add j) = some u) (hlen : l.length ≤ 1000000000) :
    ∃ b' c' w', (Builtin.append_ #[45, 45] 45 #[v, .slice (some a) 1 c]).run Try.prog w = .ok (.slice (some ⟨b', 0, none⟩) (l.length + 1) c') w' ∧ Apd w w' S v (.slice (some ⟨b', 0, none⟩) (l.length + 1) c') (l ++ [x]) := by
  obtain ⟨i0, hi, hz, hz1, hz2⟩ := info_parts info_block
  have hbl : (bvs x).length = 1 * i0.size := by rw [bvs_len, hx, hz1]
  have hzc : (Value.agg Z64).cells.size = 64 := by simp [Value.cells, Z64, bvs, Zb_len]
  -- a new row
  have new : ∀ (old cap : Nat) , l.length + 1 ≤ cap → cap ≤ maxLen → Apd w (w.drew.alloc (.cells ((fl l).toArray ++ (bvs x).toArray ++ Builtin.zeroCells (Value.agg Z64).cells (cap - (l.length + 1))) 37)) S v (.slice (some ⟨w.heap.size, 0, none⟩) (l.length + 1) cap) (l ++ [x]) ∨ roomBlk v ≠ none := by
    intro old cap hc hm
    by_cases hr : roomBlk v = none
    · left
      refine ⟨by rw [hr]; exact ⟨rfl, rfl, rfl, by simp, fun k hk _ => Below.heap_alloc w.drew _ k hk⟩, ⟨w.heap.size, rfl, by simp, .inr ⟨rfl, hr⟩⟩, fun S' _ hS' => .inr ⟨w.heap.size, 0, cap, _, by simp, by simp, hS' _ (Nat.le_refl _) (by simp), by simpa using hc, hm, ?_, heap_alloc_new w.drew _, fun _ => ⟨rfl, ?_⟩⟩⟩
      · intro j u hu
        rw [cell_of_row (w.drew.alloc _) w.heap.size _ _ _ _ (heap_alloc_new w.drew _), Nat.zero_add]
        rw [fl_app, fl_one] at hu
        have hj := (List.getElem?_eq_some_iff.1 hu).1
        have e : ∀ (A : Array Value) (B : Array Value) , A = ((fl l) ++ bvs x).toArray → (A ++ B)[j]? = some u := by
          intro A B hA
          subst hA
          rw [Array.getElem?_append_left (by simpa using hj)]
          simpa using hu
        exact e _ _ (by simp)
      · simp only [Array.size_append, List.size_toArray, fl_len hl, bvs_len, hx, size_zeroCells, hzc]
        omega
    · exact .inr hr
  rcases hw with ⟨rfl, rfl⟩ | ⟨b, o, cap, cur, hne, rfl, hS, hlc, hcm, hrg, hbk, hroom⟩
  · have hr := run_append_nil (P := Try.prog) w 45 45 37 i0 _ Try.underlying45 hi hz a 1 c (bvs x) hbl hn (by omega) (by omega) (by rw [hz2]; omega)
    refine ⟨_, _, _, hr, ?_⟩
    rcases new 0 (grownCap w 1 0 37) (grownCap_ge w 1 0 _) (grownCap_le_maxLen w 1 0 _ (by unfold maxLen; omega)) with h | h
    · simpa [fl] using h
    · exact absurd rfl h
  · by_cases hlt : l.length < cap
    · obtain ⟨rfl, hcs⟩ := hroom hlt
      have hfit : l.length * i0.size + (bvs x).length ≤ cur.size := by rw [hz1, bvs_len, hx, hcs]; omega
      have hr := run_append_room (P := Try.prog) w 45 45 37 i0 Try.underlying45 hi b l.length cap cur hbk a 1 c (bvs x) hbl hn (bvs_one x) (by omega) hfit
      have hrb : roomBlk (.slice (some ⟨b, 0, none⟩) l.length cap) = some b := by simp [roomBlk, hlt]
      have hblt := (Array.getElem?_eq_some_iff.1 hbk).1
      have htk : cur.toList.take (l.length * i0.size) = fl l := by
        rw [hz1]
        apply List.ext_getElem?
        intro j
        rw [List.getElem?_take]
        split
        · rename_i hj
          have hjl : j < (fl l).length := by rw [fl_len hl]; exact hj
          have e := hrg j _ (List.getElem?_eq_getElem hjl)
          rw [cell_of_row _ _ _ _ _ _ hbk, Nat.zero_add] at e
          rw [List.getElem?_eq_getElem hjl, ← e, Array.getElem?_toList]
        · rename_i hj
          rw [List.getElem?_eq_none]
          rw [fl_len hl]; omega
      have hsr := setRow_heap w b cur (cur.toList.take (l.length * i0.size) ++ bvs x ++ cur.toList.drop (l.length * i0.size + (bvs x).length)).toArray 37 (0, 0) hbk
      refine ⟨_, _, _, hr, ⟨by rw [hrb]; exact ⟨rfl, rfl, rfl, by simp, fun k _ hk => setRow_other w b k _ (fun e => hk (by simp [e]))⟩, ⟨b, rfl, by simpa using hblt, .inl hrb⟩, fun S' hS' _ => .inr ⟨b, 0, cap, _, by simp, by simp, hS' b hS, by simp; omega, hcm, ?_, hsr, fun _ => ⟨rfl, ?_⟩⟩⟩⟩
      · intro j u hu
        rw [cell_of_row _ _ _ _ _ _ hsr, Nat.zero_add, htk]
        rw [fl_app, fl_one] at hu
        have hj := (List.getElem?_eq_some_iff.1 hu).1
        rw [List.getElem?_toArray, List.getElem?_append_left hj]
        exact hu
      · simp only [List.size_toArray, List.length_append, List.length_take, List.length_drop, Array.length_toList, hz1, bvs_len, hx, hcs]
        omega
    · have hcl : l.length = cap := by omega
      have hr := run_append_grow (P := Try.prog) w 45 45 37 i0 _ Try.underlying45 hi hz ⟨b, o, none⟩ l.length cap (fl l) (by rw [fl_len hl, hz1]) (fun j u hu => by rw [addr_add]; exact hrg j u hu) a 1 c (bvs x) hbl hn (by omega) (by omega) (growslice_fits (by omega) (by rw [hz2]; omega))
      refine ⟨_, _, _, hr, ?_⟩
      rcases new cap (grownCap w (l.length + 1) cap 37) (grownCap_ge w _ _ _) (grownCap_le_maxLen w _ _ _ (by unfold maxLen; omega)) with h | h
      · exact h
      · exact absurd (by simp [roomBlk, hlt]) h

theorem wp_append_w {w : World} {S : Nat → Prop} {o : Oper} {act : Act} {K : Act → World → Prop} {Q : Exit → Act → World → Prop} (s y : Operand)
    (ho : o.op = .call { callee := .builtin .append, args := #[s, y], argTypes := #[45, 45] }) (hty : o.type = 45)
    (v : Value) (l : List (List UInt8)) (hs : act.eval s = v) (hw : Wv w S v l) (hl : ∀ y ∈ l, y.length = 64) (a : Addr) (c : Nat) (x : List UInt8) (hy : act.eval y = .slice (some a) 1 c) (hx : x.length = 64) (hn : ∀ j u, (bvs x)[j]? = some u → w.cell? (a.add j) = some u) (hlen : l.length ≤ 1000000000)
    (h : ∀ b' c' w', Apd w w' S v (.slice (some ⟨b', 0, none⟩) (l.length + 1) c') (l ++ [x]) → K (act.put o.dst (.slice (some ⟨b', 0, none⟩) (l.length + 1) c')) w') : Oper.wp Try.prog o act w K Q := by
  obtain ⟨b', c', w', hr, h2⟩ := run_append_w hw hl a c x hx hn hlen
  unfold Oper.wp execOp
  simp only [ho, hty, resolve, invoke, builtin, Sem.run_bind, Sem.run_pure, Result.andThen_ok, List.map_toArray, List.map_cons, List.map_nil, hs, hy, hr]
  exact h b' c' w' h2

/-- A literal slice of one block. -/
theorem one_block {l : List UInt8} (hl : l.length = 64) (w : World) : (Instr.buildSlice 45 1 #[(0, .agg (bvs l).toArray)]).run Try.prog w = .ok (.slice (some ⟨w.heap.size, 0, none⟩) 1 1) (w.alloc (.cells (bvs l).toArray 37)) := by
  obtain ⟨i0, hi, hz, hz1, hz2⟩ := info_parts info_block
  have hs : (Value.agg (bvs l).toArray).cells.size = 64 := by simp [Value.cells, bvs_len, hl]
  obtain ⟨r, hr, hrs, hrk⟩ := Great.fill_dense (s := 64) (by omega) [.agg (bvs l).toArray] 0 ((Array.range (1 * i0.size)).map ((Value.agg Z64).cells[· % (Value.agg Z64).cells.size]!)) (by intro v hv; simp at hv; subst hv; exact hs) (by rw [hz1]; simp)
  have hre : r = (bvs l).toArray := by
    apply Array.ext_getElem?
    intro k
    rw [hrk k]
    by_cases hk : k < 64
    · rw [if_pos ⟨by omega, by simp; omega⟩]
      have h1 : k / 64 - 0 = 0 := by omega
      have h2 : k % 64 = k := by omega
      rw [h1, h2]
      simp [Value.cells]
    · rw [if_neg (by simp; omega)]
      rw [Array.getElem?_eq_none (by simp [hz1]; omega), Array.getElem?_eq_none (by simp [bvs_len, hl]; omega)]
  rw [hre] at hr
  exact run_buildSlice w _ _ 1 _ _ i0 _ Try.underlying45 hi hz (by rw [hz1]; omega) (by rw [hz1]; omega) (by rw [hz1] at hr ⊢; exact hr)
theorem wp_one_block {w : World} {o : Oper} {a : Act} {K : Act → World → Prop} {Q : Exit → Act → World → Prop} (x : Operand) (ho : o.op = .buildSlice 45 1 #[(0, x)]) (l : List UInt8) (hl : l.length = 64) (hx : a.eval x = .agg (bvs l).toArray)
    (h : K (a.put o.dst (.slice (some ⟨w.heap.size, 0, none⟩) 1 1)) (w.alloc (.cells (bvs l).toArray 37))) : o.wp Try.prog a w K Q := by
  unfold Oper.wp execOp
  simp only [ho, List.map_toArray, List.map_cons, List.map_nil, hx, one_block hl, Sem.run_bind, Result.andThen_ok]
  exact h

/-- The same but for what was drawn. -/
def Nw (a b : World) : Prop := b.heap = a.heap ∧ b.os = a.os ∧ b.tape = a.tape ∧ b.output = a.output
theorem Nw.drew (w : World) : Nw w w.drew := ⟨rfl, rfl, rfl, rfl⟩
theorem Nw.trans {a b c : World} (h : Nw a b) (k : Nw b c) : Nw a c := ⟨k.1.trans h.1, k.2.1.trans h.2.1, k.2.2.1.trans h.2.2.1, k.2.2.2.trans h.2.2.2⟩
theorem Nw.mv {a b : World} (h : Nw a b) (S : Nat → Prop) : Mv S a b := ⟨h.2.1, h.2.2.1, h.2.2.2, by rw [h.1]; exact Nat.le_refl _, fun k _ _ => by rw [h.1]⟩
theorem Nw.size {a b : World} (h : Nw a b) : b.heap.size = a.heap.size := by rw [h.1]
end Go.Proofs.Ytionbjocfepkaaa
