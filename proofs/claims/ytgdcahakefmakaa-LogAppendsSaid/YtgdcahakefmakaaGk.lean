/-
  LOGS: slices.Concat of lists of entries.
-/
import Derived.Test.YtgdcahakefmakaaGj
namespace Go.Proofs.Ytgdcahakefmakaa
set_option linter.unusedVariables false
set_option linter.unusedSimpArgs false
open Go.RowKit Go.WideShapes Go.ChangeShapes Go.Deep Go.Shelf
attribute [local irreducible] wpQuiet

/-- A list of entries by its slice. -/
structure Ls where
  a : Option Addr
  n : Nat
  c : Nat
  l : List En
def Ls.cells (x : Ls) : List Value := [.slice x.a x.n x.c]
theorem ls_sz (x : Ls) : x.cells.length = 1 := rfl
def catL (ls : List Ls) : List En := ls.flatMap Ls.l
structure SqL (w : World) (B : Nat) (A : Option Addr) (n c : Nat) (ls : List Ls) : Prop where
  s : Sq Ls.cells 1 w B A n c ls
  e : ∀ x ∈ ls, SqE w B x.a x.n x.c x.l
theorem SqL.below {w w' : World} {B n c : Nat} {A : Option Addr} {ls : List Ls} (h : SqL w B A n c ls) (hb : Below B w w') : SqL w' B A n c ls := ⟨h.s.below hb, fun x hx => (h.e x hx).below hb⟩
theorem SqL.more {w : World} {B B' n c : Nat} {A : Option Addr} {ls : List Ls} (h : SqL w B A n c ls) (hb : B ≤ B') : SqL w B' A n c ls := ⟨h.s.more hb, fun x hx => (h.e x hx).more hb⟩
theorem catL_snoc (ls : List Ls) (x : Ls) : catL (ls ++ [x]) = catL ls ++ x.l := by simp [catL]
theorem catL_take {ls : List Ls} {k : Nat} (h : k < ls.length) : catL (ls.take (k + 1)) = catL (ls.take k) ++ (ls[k]).l := by
  rw [List.take_add_one, List.getElem?_eq_getElem h]
  exact catL_snoc _ _
theorem catL_le {ls : List Ls} (k : Nat) : (catL (ls.take k)).length ≤ (catL ls).length := by
  have e := congrArg (fun z => (catL z).length) (List.take_append_drop k ls)
  simp only [catL, List.flatMap_append, List.length_append] at e ⊢
  omega
set_option maxRecDepth 100000 in
set_option maxHeartbeats 2000000 in
theorem Concat_any {w : World} {A : Option Addr} {m c : Nat} {ls : List Ls} (h : SqL w w.heap.size A m c ls) (hm : m ≤ 100) (hN : (catL ls).length ≤ 10000) :
    Calls Try.prog 58 #[.slice A m c] w fun e w' => ∃ A' c', e = .returned (.slice A' (catL ls).length c') ∧ w'.ownsRow w.heap.size 44 3 (.slice A' (catL ls).length c') (catL ls).length ((catL ls).flatMap En.cells) ∧ Below w.heap.size w w' := by
  have hlm := h.s.len
  have H := Lib.hid h
  have HC := Lib.hid (catL_le (ls := ls))
  have HN := Lib.hid hN
  clear h hN
  go_enter Try.func58, Try.ntmps58
  go_wp2_with fail
  go_loopw [3, 11] (fun sz i wr => ∃ k : Nat, k ≤ m ∧ i = .int .i64 (k : Int) ∧ sz = .int .i64 ((catL (ls.take k)).length : Int) ∧ wr = w) (fun _ i _ => m - (intOf i).toNat)
  case atStart => exact ⟨0, Nat.zero_le _, rfl, rfl, rfl⟩
  case round =>
    obtain ⟨k, hk, rfl, rfl, rfl⟩ := hrel
    have hk0 : (0 : Int) ≤ (k : Int) := Int.natCast_nonneg _
    by_cases hlt : k < m
    · have hd : decide ((k : Int) < (m : Int)) = true := by simp; omega
      have hk1 : (k : Int) < (m : Int) := by omega
      obtain ⟨b, o, rfl, hbl, hrg⟩ := H.out.s.at_ hlt
      have hkl : k < ls.length := by omega
      have hxe := H.out.e _ (List.getElem_mem hkl)
      have hct := catL_take hkl
      obtain ⟨x, hx⟩ : ∃ x, ls[k] = x := ⟨_, rfl⟩
      rw [hx] at hrg hxe hct
      have r0 : wr.cell? ⟨b, o + k, none⟩ = some (.slice x.a x.n x.c) := by have := hrg 0 _ rfl; simpa using this
      have hle := HC.out (k + 1)
      have hl := hxe.len
      rw [hct, List.length_append, hl] at hle
      have hs0 : (0 : Int) ≤ ((catL (ls.take k)).length : Int) := Int.natCast_nonneg _
      have hs1 : ((catL (ls.take k)).length : Int) + (x.n : Int) ≤ 10000 := by have := HN.out; omega
      have HCT := Lib.hid (show ((catL (ls.take k)).length : Int) + (x.n : Int) = ((catL (ls.take (k + 1))).length : Int) by rw [hct, List.length_append, hl]; omega)
      clear hxe hct hx hle hl hrg
      have hn0 : decide (((catL (ls.take k)).length : Int) + (x.n : Int) < 0) = false := by simp; omega
      go_wp2_with fail
      go_roundw
      case rel => exact ⟨k + 1, by omega, by go_num, by first | (rw [← HCT.out]; done) | (rw [← HCT.out]; go_num), by first | rfl | trivial⟩
      case measure => simp [intOf]; omega
    · have hd : decide ((k : Int) < (m : Int)) = false := by simp; omega
      have hall : catL (ls.take k) = catL ls := by rw [List.take_of_length_le (by omega)]
      rw [hall]
      have CG := Lib.hid (Grow_any wr (catL ls).length (by have := HN.out; omega))
      clear hall hk
      go_wp2_with (first | (go_at_call 60; refine CG.out.mono ?_; rintro e w1 ⟨A1, c1, rfl, ho1, hb1⟩; have HO1 := Lib.hid ho1; have HB1 := Lib.hid hb1; clear ho1 hb1) | fail)
      obtain ⟨wo, rfl⟩ : ∃ wo : World, wo = wr := ⟨_, rfl⟩
      go_loopw [6, 27] (fun v i wr => ∃ (k : Nat) (A2 : Option Addr) (c2 : Nat), k ≤ m ∧ i = .int .i64 (k : Int) ∧ v = .slice A2 (catL (ls.take k)).length c2 ∧ Hid (wr.ownsRow wo.heap.size 44 3 (.slice A2 (catL (ls.take k)).length c2) (catL (ls.take k)).length ((catL (ls.take k)).flatMap En.cells)) ∧ Hid (Below wo.heap.size wo wr)) (fun _ i _ => m - (intOf i).toNat)
      case atStart => exact ⟨0, A1, c1, Nat.zero_le _, rfl, rfl, HO1, HB1⟩
      case round =>
        obtain ⟨k2, A2, c2, hk2, rfl, rfl, ho2, hb2⟩ := hrel
        have hk0' : (0 : Int) ≤ (k2 : Int) := Int.natCast_nonneg _
        by_cases hlt2 : k2 < m
        · have hd2 : decide ((k2 : Int) < (m : Int)) = true := by simp; omega
          have hk1 : (k2 : Int) < (m : Int) := by omega
          have H2 := Lib.hid ((H.out.below hb2.out).more hb2.out.size)
          obtain ⟨b, o, rfl, hbl, hrg⟩ := H2.out.s.at_ hlt2
          have hkl : k2 < ls.length := by omega
          have hxe := H2.out.e _ (List.getElem_mem hkl)
          have hct := catL_take hkl
          obtain ⟨x, hx⟩ : ∃ x, ls[k2] = x := ⟨_, rfl⟩
          rw [hx] at hrg hxe hct
          have r0 : wr.cell? ⟨b, o + k2, none⟩ = some (.slice x.a x.n x.c) := by have := hrg 0 _ rfl; simpa using this
          have hle := HC.out (k2 + 1)
          have hl := hxe.len
          rw [hct, List.length_append, hl] at hle
          obtain ⟨P, hP⟩ : ∃ P, catL (ls.take k2) = P := ⟨_, rfl⟩
          rw [hP] at ho2 hct hle
          have HCT := Lib.hid hct
          have HX := Lib.hid hxe
          have HPL := Lib.hid (show P.length + x.n ≤ 10000 by have := HN.out; omega)
          have HL := Lib.hid hl
          rw [hP]
          obtain ⟨i0, hi, hz, hz1, hz2⟩ := info_parts info_en
          clear hxe hct hx hle hl hrg hP
          go_wp2_with (first | (at_builtin; refine wpList_append_sq (f := En.cells) (k := 3) rfl _ _ 25 rfl wo.heap.size 44 i0 _ 40 Try.underlying25 hi hz hz1 hz2 rfl (by omega) (.slice A2 P.length c2) P.length P rfl ho2.out rfl HX.out.s (en_one _) (by have := HPL.out; omega) (by omega) hb2.out.size ?_; intro v' w5 hown5 hg5; obtain ⟨A5, c5, rfl⟩ := own_shape hown5; have HO5 := Lib.hid hown5; have HG5 := Lib.hid (hb2.out.grown hg5 hb2.out.size (fun g hg => (ho2.out.lt g hg).1)); clear hown5 hg5) | fail)
          go_roundw
          case rel => exact ⟨k2 + 1, A5, c5, by omega, by go_num, by rw [HCT.out, List.length_append, HL.out], Lib.hid (by have := HO5.out; rw [HCT.out, List.length_append, HL.out]; exact this), HG5⟩
          case measure => simp [intOf]; omega
        · have hd2 : decide ((k2 : Int) < (m : Int)) = false := by simp; omega
          have hall : catL (ls.take k2) = catL ls := by rw [List.take_of_length_le (by omega)]
          rw [hall] at ho2 ⊢
          go_wp2_with fail
          go_ret
          exact ⟨A2, c2, rfl, ho2.out, hb2.out⟩
end Go.Proofs.Ytgdcahakefmakaa
