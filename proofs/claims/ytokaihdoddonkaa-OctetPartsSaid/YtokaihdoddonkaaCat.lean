/-
  slices.Grow of nil, and slices.Concat of rows of bytes.
-/
import Derived.Test.YtokaihdoddonkaaLaw1
import Derived.Lib.AppendZerosOnto
import Derived.WalkLawsBesides
import Derived.Deep.RegionWith
import Derived.Deep.DeepCutAuto
namespace Go.Proofs.Ytokaihdoddonkaa
set_option linter.unusedVariables false
open Go.RowKit Go.WideShapes Go.ChangeShapes

theorem grow_nil (w : World) (k : Nat) (hk : k ≤ 140737488355328) :
    Calls Try.prog 44 #[.slice none 0 0, .int .i64 (k : Int)] w fun e w' =>
      ∃ A c, e = .returned (.slice A 0 c) ∧ w'.ownsRow w.heap.size 5 1 (.slice A 0 c) 0 [] ∧ Below w.heap.size w w' := by
  obtain ⟨i0, hi0, hz0, hz1, hz2⟩ := info_parts info_u8
  by_cases h0 : k = 0
  · subst h0
    go_enter Try.func44, Try.ntmps44
    go_wp2
    go_ret
    exact ⟨none, 0, rfl, World.ownsRow_nil _ _ _ _, Below.refl _ _⟩
  · have hr := fun ty => Lib.run_append_nil_zeros (P := Try.prog) w 22 3 ty 5 i0 _ .i64 .i64 Try.underlying22 Try.underlying3 hi0 hz0 k (by omega) (by omega) (by omega) (by rw [hz2]; omega)
    have hc1 := grownCap_ge w k 0 5
    have hc2 := grownCap_le_maxLen w k 0 5 (by unfold maxLen; omega)
    generalize grownCap w k 0 5 = C at *
    unfold maxLen at hc2
    have HR : ∀ ty, Hid (Sem.run Try.prog (Builtin.append_ #[22, 3] ty #[.slice none 0 0, .int .i64 (k : Int)]) w = .ok (.slice (some ⟨w.heap.size, 0, none⟩) k C) (w.drew.alloc (.cells (Builtin.zeroCells #[Value.int .u8 0] k ++ Builtin.zeroCells #[Value.int .u8 0] (C - k)) 5))) := hr
    clear hr
    go_enter Try.func44, Try.ntmps44
    go_wp2_with (at_builtin; go_loud (refine Lib.wpList_append_run _ rfl (.tmp 20) (.tmp 21) 22 3 rfl _ _ rfl rfl _ _ (HR _).out ?_))
    go_ret
    refine ⟨_, C, rfl, World.ownsRow_made (base := w.heap.size) (size := 1) w (Builtin.zeroCells #[Value.int .u8 0] k ++ Builtin.zeroCells #[Value.int .u8 0] (C - k)) C (Nat.le_refl _) (by unfold maxLen; omega) ?_, ((Below.refl _ _).alloc (Nat.le_refl _) _).drew⟩
    rw [Array.size_append, size_zeroCells, size_zeroCells]
    simp
    omega

/-- A row of rows: the j-th cell holds a slice that reads as the j-th list. -/
structure Row where
  A : Option Addr
  n : Nat
  c : Nat
  l : List UInt8
def RowsIn (w : World) (B g : Nat) (rs : List Row) : Prop :=
  ∀ j (h : j < rs.length), w.cell? ⟨g, j, none⟩ = some (.slice rs[j].A rs[j].n rs[j].c) ∧ SlB w B rs[j].A rs[j].n rs[j].c rs[j].l
theorem RowsIn.below {w w' : World} {B g B' : Nat} {rs : List Row} (h : RowsIn w B g rs) (hb : Below B' w w') (hB : B ≤ B') (hg : g < B') : RowsIn w' B g rs :=
  fun j hj => ⟨(hb.cell (p := ⟨g, j, none⟩) hg).trans (h j hj).1, (h j hj).2.below (hb.mono hB)⟩
def sizes (rs : List Row) : Nat := (rs.map Row.n).sum
def joined (rs : List Row) : List UInt8 := (rs.map Row.l).flatten
theorem sizes_app (a b : List Row) : sizes (a ++ b) = sizes a + sizes b := by simp [sizes]
theorem sizes_snoc (rs : List Row) (r : Row) : sizes (rs ++ [r]) = sizes rs + r.n := by simp [sizes]
theorem joined_snoc (rs : List Row) (r : Row) : joined (rs ++ [r]) = joined rs ++ r.l := by simp [joined]
theorem takeR (rs : List Row) (k : Nat) (h : k < rs.length) : rs.take (k + 1) = rs.take k ++ [rs[k]] := by rw [List.take_succ_eq_append_getElem h]
theorem sizes_take (rs : List Row) (k : Nat) : sizes (rs.take k) ≤ sizes rs := by
  have h := congrArg sizes (List.take_append_drop k rs)
  rw [sizes_app] at h
  omega

theorem concat_any {w : World} {B g C : Nat} {rs : List Row} (h : RowsIn w B g rs) (hB : B ≤ w.heap.size) (hg : g < w.heap.size) (hs : sizes rs ≤ 140737488355328) (hl : rs.length ≤ 140737488355328) :
    Calls Try.prog 31 #[.slice (some ⟨g, 0, none⟩) rs.length C] w fun e w' =>
      ∃ A c, e = .returned (.slice A (sizes rs) c) ∧ w'.ownsRow w.heap.size 5 1 (.slice A (sizes rs) c) (sizes rs) (bvs (joined rs)) ∧ Below w.heap.size w w' := by
  obtain ⟨i0, hi0, hz0, hz1, hz2⟩ := info_parts info_u8
  have H := Lib.hid h
  clear h
  generalize hm : rs.length = m at *
  have HM := Lib.hid hm
  clear hm
  go_enter Try.func31, Try.ntmps31
  go_wp2_with fail
  go_loop [3, 11] (fun s i => ∃ q : Nat, q ≤ m ∧ i = .int .i64 q ∧ s = .int .i64 (sizes (rs.take q) : Nat)) (fun _ i => m - (intOf i).toNat)
  case atStart => exact ⟨0, Nat.zero_le _, rfl, by simp [sizes]⟩
  case round =>
    obtain ⟨q, hq, rfl, rfl⟩ := hrel
    have hle := sizes_take rs q
    by_cases hlt : q < m
    · have hqr : q < rs.length := by rw [HM.out]; exact hlt
      have hc := (H.out q hqr).1
      have hle1 := sizes_take rs (q + 1)
      have HN : Hid (sizes (rs.take (q + 1)) = sizes (rs.take q) + rs[q].n) := by rw [takeR rs q hqr, sizes_snoc]; exact rfl
      have hle2 : sizes (rs.take q) + rs[q].n ≤ sizes rs := by rw [← HN.out]; exact hle1
      clear hle1
      go_wp2
      go_round
      case rel => exact ⟨q + 1, by omega, by go_num, by rw [HN.out]; go_num⟩
      case measure => simp [intOf]; omega
    · obtain rfl : q = m := by omega
      have hr : rs.take q = rs := List.take_of_length_le (by rw [HM.out]; omega)
      rw [hr]
      clear hr hle
      go_wp2_with (go_at_call 44; refine (grow_nil _ (sizes rs) hs).mono ?_; rintro x w1 ⟨A1, c1, rfl, ho1, hb1⟩)
      have HO1 := Lib.hid ho1
      clear ho1
      go_loopw [6, 27] (fun v i wr => ∃ (p : Nat) (A : Option Addr) (c : Nat), p ≤ q ∧ i = .int .i64 p ∧ v = .slice A (sizes (rs.take p)) c ∧ Hid (wr.ownsRow w.heap.size 5 1 (.slice A (sizes (rs.take p)) c) (sizes (rs.take p)) (bvs (joined (rs.take p)))) ∧ Below w.heap.size w wr) (fun _ i _ => q - (intOf i).toNat)
      case atStart => exact ⟨0, A1, c1, Nat.zero_le _, rfl, by simp [sizes], by simpa [sizes, joined, bvs] using HO1, hb1⟩
      case round =>
        obtain ⟨p, A, c, hp, rfl, rfl, hown, hbw⟩ := hrel
        have hsz := hbw.size
        have hle := sizes_take rs p
        by_cases hlt : p < q
        · have hpr : p < rs.length := by rw [HM.out]; exact hlt
          obtain ⟨hc, hsl⟩ := (H.out.below hbw hB hg) p hpr
          have hle1 := sizes_take rs (p + 1)
          have HN : Hid (sizes (rs.take (p + 1)) = sizes (rs.take p) + rs[p].n) := by rw [takeR rs p hpr, sizes_snoc]; exact rfl
          have HJ : Hid (joined (rs.take (p + 1)) = joined (rs.take p) ++ rs[p].l) := by rw [takeR rs p hpr, joined_snoc]; exact rfl
          have hle2 : sizes (rs.take p) + rs[p].n ≤ sizes rs := by rw [← HN.out]; exact hle1
          clear hle1
          go_wp2_with (at_builtin; refine wpList_append_sl rfl (.tmp 31) (.tmp 32) 22 rfl w.heap.size 5 i0 Try.underlying22 hi0 hz0 hz1 hz2 _ _ (joined (rs.take p)) rfl hown.out rfl hsl (by omega) hsz ?_; intro v2 w2 ho2 hg2)
          obtain ⟨A2, c2, rfl⟩ := own_form ho2
          have hlt2 := hown.out.lt
          go_roundw
          case rel => exact ⟨p + 1, A2, c2, by omega, by go_num, by rw [HN.out], by rw [HN.out, HJ.out]; exact ho2, hbw.grown hg2 hsz (fun k hk => (hlt2 k hk).1)⟩
          case measure => simp [intOf]; omega
        · obtain rfl : p = q := by omega
          have hr2 : rs.take p = rs := List.take_of_length_le (by rw [HM.out]; omega)
          rw [hr2] at hown
          rw [hr2]
          clear hle
          go_wp2
          go_ret
          exact ⟨A, c, rfl, hown.out, hbw⟩

theorem rows2 {w : World} {B n c n' c' : Nat} {A A' : Option Addr} {l l' : List UInt8} (h : SlB w B A n c l) (h' : SlB w B A' n' c' l') (hB : B ≤ w.heap.size) (T : TypeId) :
    RowsIn (w.alloc (.cells #[.slice A n c, .slice A' n' c'] T)) B w.heap.size [⟨A, n, c, l⟩, ⟨A', n', c', l'⟩] := by
  have hb : Below B w (w.alloc (.cells #[.slice A n c, .slice A' n' c'] T)) := (Below.refl _ _).alloc hB _
  intro j hj
  have hbl := Bl.new w T [.slice A n c, .slice A' n' c']
  match j, hj with
  | 0, _ => exact ⟨(hbl.cell 0).trans rfl, h.below hb⟩
  | 1, _ => exact ⟨(hbl.cell 1).trans rfl, h'.below hb⟩
theorem concat2 {w : World} {B n c n' c' : Nat} {A A' : Option Addr} {l l' : List UInt8} (h : SlB w B A n c l) (h' : SlB w B A' n' c' l') (hB : B ≤ w.heap.size) (hs : n + n' ≤ 140737488355320) :
    Calls Try.prog 31 #[.slice (some ⟨w.heap.size, 0, none⟩) 2 2] (w.alloc (.cells #[.slice A n c, .slice A' n' c'] 22)) fun e w' =>
      ∃ A3 c3, e = .returned (.slice A3 (n + n') c3) ∧ Ow w' w.heap.size A3 (n + n') c3 (l ++ l') ∧ Below w.heap.size w w' := by
  have hr := rows2 h h' hB 22
  have e1 : sizes [⟨A, n, c, l⟩, ⟨A', n', c', l'⟩] = n + n' := by simp [sizes]
  have e2 : joined [⟨A, n, c, l⟩, ⟨A', n', c', l'⟩] = l ++ l' := by simp [joined]
  have hc := concat_any (C := 2) hr (by simp; omega) (by simp) (by rw [e1]; omega) (by simp)
  rw [e1, e2] at hc
  refine hc.mono ?_
  rintro e w' ⟨A3, c3, rfl, ho, hb⟩
  refine ⟨A3, c3, rfl, ⟨ho.1, ?_⟩, below_new hb⟩
  rcases ho.2 with ho | ⟨g, cap, cur, hv, hg, hrest⟩
  · exact .inl ho
  · exact .inr ⟨g, cap, cur, hv, by simp at hg; omega, hrest⟩
end Go.Proofs.Ytokaihdoddonkaa
