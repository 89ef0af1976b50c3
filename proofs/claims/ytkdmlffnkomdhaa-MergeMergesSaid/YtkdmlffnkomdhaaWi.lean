/-
  STAGE 5's REFERENCE: With.
-/
import Derived.Deep.AppendLies
import Derived.Test.YtkdmlffnkomdhaaCp
namespace Go.Proofs.Ytkdmlffnkomdhaa
set_option linter.unusedVariables false
set_option linter.unusedSimpArgs false
open Go.RowKit Go.WideShapes Go.ChangeShapes Go.Deep

def Sc (s : ByteArray) : List Value := [.string s]
theorem sc_sz (s : ByteArray) : (Sc s).length = 1 := rfl
abbrev SqS := Sq Sc 1
theorem info_str : (Try.prog.info? 9).map (fun i => (i.zero, i.size, i.bytes)) = some (some (.string ⟨#[]⟩), 1, 16) := by kernel_rfl
theorem sc_app {W : World} {base : Nat} {v : Value} {m : Nat} {l : List ByteArray} {x : ByteArray} (h : W.ownsRow base 9 1 v (m + 1) (l.flatMap Sc ++ [.string x])) : W.ownsRow base 9 1 v (m + 1) ((l ++ [x]).flatMap Sc) := by
  rw [List.flatMap_append]
  exact h
/-- What With has of the texts so far: whether s is in, and the texts. -/
def stepW (s : ByteArray) (st : Bool × List ByteArray) (x : ByteArray) : Bool × List ByteArray :=
  if st.1 = false ∧ lt s x = true then (true, st.2 ++ [s] ++ [x]) else (st.1, st.2 ++ [x])
def stW (s : ByteArray) (l : List ByteArray) : Bool × List ByteArray := l.foldl (stepW s) (false, [])
def withW (l : List ByteArray) (s : ByteArray) : List ByteArray :=
  if l.any (fun x => x.toList == s.toList) then l else if (stW s l).1 then (stW s l).2 else (stW s l).2 ++ [s]
theorem stW_take {s : ByteArray} {l : List ByteArray} {k : Nat} (hk : k < l.length) : stW s (l.take (k + 1)) = stepW s (stW s (l.take k)) l[k] := by
  unfold stW
  rw [List.take_add_one, List.getElem?_eq_getElem hk, List.foldl_append]
  rfl

set_option maxRecDepth 100000 in
set_option maxHeartbeats 4000000 in
theorem With_any {w : World} {A : Option Addr} {n c : Nat} {l : List ByteArray} (h : SqS w w.heap.size A n c l) (hn : n ≤ 100000) (s : ByteArray) :
    Calls Try.prog 49 #[.slice A n c, .string s] w fun e w' => (∃ A' n' c', e = .returned (.slice A' n' c') ∧ SqS w' w'.heap.size A' n' c' (withW l s)) ∧ Below w.heap.size w w' := by
  obtain ⟨i0, hi, hz, hz1, hz2⟩ := info_parts info_str
  have HS := Lib.hid h
  have hl := h.len
  clear h
  go_enter Try.func49, Try.ntmps49
  go_wp2
  go_loopw [5, 6, 7] (fun o p i wr => ∃ (k m : Nat) (Ao : Option Addr) (co : Nat) (pq : Bool) (acc : List ByteArray), k ≤ n ∧ m ≤ 2 * k ∧ o = .slice Ao m co ∧ p = .bool pq ∧ i = .int .i64 (k : Int) ∧ Hid (stW s (l.take k) = (pq, acc)) ∧ Hid (wr.ownsRow w.heap.size 9 1 (.slice Ao m co) m (acc.flatMap Sc)) ∧ Hid (∀ j (hj : j < k) (hl : j < l.length), (l[j].toList == s.toList) = false) ∧ Hid (Below w.heap.size w wr)) (fun _ _ i _ => n - (intOf i).toNat)
  case atStart => exact ⟨0, 0, none, 0, false, [], Nat.zero_le _, by omega, rfl, rfl, rfl, Lib.hid rfl, Lib.hid ⟨rfl, .inl ⟨rfl, rfl⟩⟩, Lib.hid (fun j hj => absurd hj (by omega)), Lib.hid (Below.refl _ _)⟩
  case round =>
    obtain ⟨k, m, Ao, co, pq, acc, hk, hm, rfl, rfl, rfl, hst, hown, hg, hb⟩ := hrel
    have hbs := hb.out.size
    by_cases hlt : k < n
    · have hd : decide ((k : Int) < (n : Int)) = true := by simp; omega
      have hk0 : (0 : Int) ≤ (k : Int) := Int.natCast_nonneg _
      have hk1 : (k : Int) < (n : Int) := by omega
      obtain ⟨b, o, rfl, hbl, hrg⟩ := (HS.out.below hb.out).at_ hlt
      obtain ⟨x, hx⟩ : ∃ x, l[k]'(by omega) = x := ⟨_, rfl⟩
      rw [hx] at hrg
      have r0 : wr.cell? ⟨b, o + k, none⟩ = some (.string x) := by have := hrg 0 _ rfl; simpa using this
      obtain ⟨q, hq⟩ : ∃ q, (x.toList == s.toList) = q := ⟨_, rfl⟩
      have YES : Hid (q = true → withW l s = l) := Lib.hid (fun h1 => by
        unfold withW
        rw [if_pos (List.any_eq_true.2 ⟨l[k]'(by omega), List.getElem_mem _, by rw [hx, hq]; exact h1⟩)])
      have NO : Hid (q = false → ∀ j (hj : j < k + 1) (hl : j < l.length), (l[j].toList == s.toList) = false) := Lib.hid (fun h1 j hj hl => by
        by_cases e : j = k
        · subst e; rw [hx, hq]; exact h1
        · exact hg.out j (by omega) hl)
      have ST : Hid (stW s (l.take (k + 1)) = stepW s (pq, acc) x) := Lib.hid (by rw [stW_take (by omega), hst.out, hx])
      have HR := Lib.hid (show ∀ W, Below w.heap.size w W → W.cell? ⟨b, o + k, none⟩ = some (.string x) from fun W hW => (hW.cell (p := ⟨b, o + k, none⟩) hbl).trans ((hb.out.cell (p := ⟨b, o + k, none⟩) hbl).symm.trans r0))
      clear hrg hx hst hg
      cases q
      · have NO1 := Lib.hid (NO.out rfl)
        clear NO YES
        cases pq
        · obtain ⟨bq, hbq⟩ : ∃ bq, Op.bytesLess s.toList x.toList = bq := ⟨_, rfl⟩
          have HBQ := Lib.hid (show lt s x = bq from hbq)
          cases bq
          · have ST1 := Lib.hid (show stW s (l.take (k + 1)) = (false, acc ++ [x]) by rw [ST.out]; unfold stepW; rw [if_neg (by rw [HBQ.out]; simp)])
            clear ST
            go_wp2_with (first | (at_builtin; refine wpList_append_lies _ rfl _ _ 64 rfl w.heap.size 9 i0 (.string ⟨#[]⟩) 1 16 Try.underlying64 hi hz hz1 hz2 rfl (by omega) (.slice Ao m co) (m) _ rfl (hown.out.alloc _) ⟨wr.heap.size, 0, none⟩ 1 1 [.string x] rfl rfl (World.news_of_block (cs := #[.string x]) (heap_alloc_new wr _)) (by simp [Value.oneCell']) (by omega) (by unfold maxLen; omega) (by omega) (by simp; omega) (wr.heap.size + 1) (by simp) ?_; intro g5 c5 w5 hown5 hg5 _ _; have hz9 := hg5.size; simp at hz9; have hb9 : Below w.heap.size w w5 := (hb.out.alloc hb.out.size (.cells #[.string x] 9)).grown hg5 (by have := hb.out.size; simp; omega) (fun k hk => (hown.out.lt k hk).1); have B5 := Lib.hid hb9; have O5 := Lib.hid (sc_app (l := acc) hown5); have z5 := hb9.size; clear hb9 hz9 hown5 hg5) | fail)
            go_roundw
            case rel => exact ⟨k + 1, m + 1, _, c5, false, acc ++ [x], by omega, by omega, rfl, rfl, by go_num, ST1, O5, NO1, B5⟩
            case measure => simp [intOf]; omega
          · have ST1 := Lib.hid (show stW s (l.take (k + 1)) = (true, acc ++ [s] ++ [x]) by rw [ST.out]; unfold stepW; rw [if_pos ⟨rfl, HBQ.out⟩])
            clear ST
            go_wp2_with (first | (at_builtin; refine wpList_append_lies _ rfl _ _ 64 rfl w.heap.size 9 i0 (.string ⟨#[]⟩) 1 16 Try.underlying64 hi hz hz1 hz2 rfl (by omega) (.slice (some ⟨g5, 0, none⟩) (m + 1) c5) (m + 1) _ rfl (O5.out.alloc _) ⟨w5.heap.size, 0, none⟩ 1 1 [.string x] rfl rfl (World.news_of_block (cs := #[.string x]) (heap_alloc_new w5 _)) (by simp [Value.oneCell']) (by omega) (by unfold maxLen; omega) (by omega) (by simp; omega) (w5.heap.size + 1) (by simp) ?_; intro g6 c6 w6 hown6 hg6 _ _; have hz9 := hg6.size; simp at hz9; have hb9 : Below w.heap.size w w6 := (B5.out.alloc B5.out.size (.cells #[.string x] 9)).grown hg6 (by have := B5.out.size; simp; omega) (fun k hk => (O5.out.lt k hk).1); have B6 := Lib.hid hb9; have O6 := Lib.hid (sc_app (l := acc ++ [s]) hown6); have z6 := hb9.size; clear hb9 hz9 hown6 hg6) | (at_builtin; refine wpList_append_lies _ rfl _ _ 64 rfl w.heap.size 9 i0 (.string ⟨#[]⟩) 1 16 Try.underlying64 hi hz hz1 hz2 rfl (by omega) (.slice Ao m co) (m) _ rfl (hown.out.alloc _) ⟨wr.heap.size, 0, none⟩ 1 1 [.string s] rfl rfl (World.news_of_block (cs := #[.string s]) (heap_alloc_new wr _)) (by simp [Value.oneCell']) (by omega) (by unfold maxLen; omega) (by omega) (by simp; omega) (wr.heap.size + 1) (by simp) ?_; intro g5 c5 w5 hown5 hg5 _ _; have hz9 := hg5.size; simp at hz9; have hb9 : Below w.heap.size w w5 := (hb.out.alloc hb.out.size (.cells #[.string s] 9)).grown hg5 (by have := hb.out.size; simp; omega) (fun k hk => (hown.out.lt k hk).1); have B5 := Lib.hid hb9; have O5 := Lib.hid (sc_app (l := acc) hown5); have z5 := hb9.size; clear hb9 hz9 hown5 hg5; have x5 := HR.out _ B5.out) | fail)
            go_roundw
            case rel => exact ⟨k + 1, m + 1 + 1, _, c6, true, acc ++ [s] ++ [x], by omega, by omega, rfl, rfl, by go_num, ST1, O6, NO1, B6⟩
            case measure => simp [intOf]; omega
        · have ST1 := Lib.hid (show stW s (l.take (k + 1)) = (true, acc ++ [x]) by rw [ST.out]; unfold stepW; rw [if_neg (by simp)])
          clear ST
          go_wp2_with (first | (at_builtin; refine wpList_append_lies _ rfl _ _ 64 rfl w.heap.size 9 i0 (.string ⟨#[]⟩) 1 16 Try.underlying64 hi hz hz1 hz2 rfl (by omega) (.slice Ao m co) (m) _ rfl (hown.out.alloc _) ⟨wr.heap.size, 0, none⟩ 1 1 [.string x] rfl rfl (World.news_of_block (cs := #[.string x]) (heap_alloc_new wr _)) (by simp [Value.oneCell']) (by omega) (by unfold maxLen; omega) (by omega) (by simp; omega) (wr.heap.size + 1) (by simp) ?_; intro g5 c5 w5 hown5 hg5 _ _; have hz9 := hg5.size; simp at hz9; have hb9 : Below w.heap.size w w5 := (hb.out.alloc hb.out.size (.cells #[.string x] 9)).grown hg5 (by have := hb.out.size; simp; omega) (fun k hk => (hown.out.lt k hk).1); have B5 := Lib.hid hb9; have O5 := Lib.hid (sc_app (l := acc) hown5); have z5 := hb9.size; clear hb9 hz9 hown5 hg5) | fail)
          go_roundw
          case rel => exact ⟨k + 1, m + 1, _, c5, true, acc ++ [x], by omega, by omega, rfl, rfl, by go_num, ST1, O5, NO1, B5⟩
          case measure => simp [intOf]; omega
      · have Y1 := Lib.hid (YES.out rfl)
        clear NO YES
        go_wp2
        go_ret
        exact ⟨⟨_, _, _, rfl, by rw [Y1.out]; exact (HS.out.below hb.out).more hbs⟩, hb.out⟩
    · have hd : decide ((k : Int) < (n : Int)) = false := by simp; omega
      obtain rfl : k = n := by omega
      have HW : Hid (withW l s = if pq then acc else acc ++ [s]) := Lib.hid (by
        have := hst.out
        rw [← hl, List.take_length] at this
        unfold withW
        rw [this, if_neg]
        intro hx
        obtain ⟨x, hx1, hx2⟩ := List.any_eq_true.1 hx
        obtain ⟨j, hj, rfl⟩ := List.getElem_of_mem hx1
        rw [hg.out j (by omega) hj] at hx2
        cases hx2)
      clear hst hg
      cases pq
      · go_wp2_with (first | (at_builtin; refine wpList_append_lies _ rfl _ _ 64 rfl w.heap.size 9 i0 (.string ⟨#[]⟩) 1 16 Try.underlying64 hi hz hz1 hz2 rfl (by omega) (.slice Ao m co) (m) _ rfl (hown.out.alloc _) ⟨wr.heap.size, 0, none⟩ 1 1 [.string s] rfl rfl (World.news_of_block (cs := #[.string s]) (heap_alloc_new wr _)) (by simp [Value.oneCell']) (by omega) (by unfold maxLen; omega) (by omega) (by simp; omega) (wr.heap.size + 1) (by simp) ?_; intro g5 c5 w5 hown5 hg5 _ _; have hz9 := hg5.size; simp at hz9; have hb9 : Below w.heap.size w w5 := (hb.out.alloc hb.out.size (.cells #[.string s] 9)).grown hg5 (by have := hb.out.size; simp; omega) (fun k hk => (hown.out.lt k hk).1); have B5 := Lib.hid hb9; have O5 := Lib.hid (sc_app (l := acc) hown5); have z5 := hb9.size; clear hb9 hz9 hown5 hg5) | fail)
        go_ret
        exact ⟨⟨_, _, _, rfl, by rw [HW.out]; exact own_sq O5.out sc_sz (by omega)⟩, B5.out⟩
      · go_wp2
        go_ret
        exact ⟨⟨_, _, _, rfl, by rw [HW.out]; exact own_sq hown.out sc_sz (by omega)⟩, hb.out⟩
end Go.Proofs.Ytkdmlffnkomdhaa
