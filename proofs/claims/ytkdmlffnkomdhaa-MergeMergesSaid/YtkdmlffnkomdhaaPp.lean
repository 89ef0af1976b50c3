/-
  PATHS: of whatever maps, rising, none twice.
-/
import Derived.Test.YtkdmlffnkomdhaaSp
namespace Go.Proofs.Ytkdmlffnkomdhaa
set_option linter.unusedVariables false
set_option linter.unusedSimpArgs false
open Go.RowKit Go.WideShapes Go.ChangeShapes Go.Deep

/-- A map that is held. -/
structure Mp where
  a : Option Addr
  n : Nat
  c : Nat
  l : List Rw
def Mp.cells (m : Mp) : List Value := [.slice m.a m.n m.c]
theorem mp_sz (m : Mp) : m.cells.length = 1 := rfl
theorem flat_take1 {α β : Type} {f : α → List β} {l : List α} {k : Nat} (hk : k < l.length) : (l.take (k + 1)).flatMap f = (l.take k).flatMap f ++ f l[k] := by
  rw [List.take_add_one, List.getElem?_eq_getElem hk, List.flatMap_append]
  simp
theorem map_take1 {α β : Type} {f : α → β} {l : List α} {k : Nat} (hk : k < l.length) : (l.take (k + 1)).map f = (l.take k).map f ++ [f l[k]] := by
  rw [List.take_add_one, List.getElem?_eq_getElem hk, List.map_append]
  rfl

set_option maxRecDepth 100000 in
set_option maxHeartbeats 4000000 in
theorem Paths_own {w : World} {A : Option Addr} {n c : Nat} {ms : List Mp} (h : Sq Mp.cells 1 w w.heap.size A n c ms) (hm : ∀ m ∈ ms, SqR w w.heap.size m.a m.n m.c m.l ∧ m.n ≤ 1000) (hn : n ≤ 100) :
    Calls Try.prog 33 #[.slice A n c] w fun e w' => (∃ A2 n2 c2, e = .returned (.slice A2 n2 c2) ∧ n2 ≤ 100000 ∧ SqS w' w'.heap.size A2 n2 c2 (pathsW Rw.p [] (ms.flatMap (·.l))) ∧ w'.ownsRow w.heap.size 9 1 (.slice A2 n2 c2) n2 ((pathsW Rw.p [] (ms.flatMap (·.l))).flatMap Sc)) ∧ Below w.heap.size w w' := by
  obtain ⟨i0, hi, hz, hz1, hz2⟩ := info_parts info_str
  have HS := Lib.hid h
  have HM := Lib.hid hm
  have hl := h.len
  have HLn := Lib.hid hl
  have hn0 : (0 : Int) ≤ (n : Int) := Int.natCast_nonneg _
  clear h hm
  go_enter Try.func33, Try.ntmps33
  go_wp2_with fail
  go_loopw [3, 10] (fun s i wr => ∃ (k m : Nat) (Ao : Option Addr) (co : Nat) (acc : List ByteArray), k ≤ n ∧ m ≤ 1000 * k ∧ s = .slice Ao m co ∧ i = .int .i64 (k : Int) ∧ Hid (((ms.take k).flatMap (·.l)).map Rw.p = acc) ∧ Hid (wr.ownsRow w.heap.size 9 1 (.slice Ao m co) m (acc.flatMap Sc)) ∧ Hid (Below w.heap.size w wr)) (fun _ i _ => n - (intOf i).toNat)
  case atStart => exact ⟨0, 0, none, 0, [], Nat.zero_le _, by omega, rfl, rfl, Lib.hid rfl, Lib.hid ⟨rfl, .inl ⟨rfl, rfl⟩⟩, Lib.hid (Below.refl _ _)⟩
  case round =>
    obtain ⟨k, m, Ao, co, acc, hk, hmk, rfl, rfl, hacc, hown, hb⟩ := hrel
    by_cases hlt : k < n
    · have hd : decide ((k : Int) < (n : Int)) = true := by simp; omega
      have hk0 : (0 : Int) ≤ (k : Int) := Int.natCast_nonneg _
      have hk1 : (k : Int) < (n : Int) := by omega
      obtain ⟨b, o, rfl, hbl, hrg⟩ := (HS.out.below hb.out).at_ hlt
      obtain ⟨mp, hmp⟩ : ∃ mp, ms[k]'(by omega) = mp := ⟨_, rfl⟩
      rw [hmp] at hrg
      have r0 : wr.cell? ⟨b, o + k, none⟩ = some (.slice mp.a mp.n mp.c) := by have := hrg 0 _ rfl; simpa using this
      obtain ⟨A1, n1, c1, l1⟩ := mp
      simp only at r0
      obtain ⟨hs1, hn1⟩ : SqR w w.heap.size A1 n1 c1 l1 ∧ n1 ≤ 1000 := HM.out ⟨A1, n1, c1, l1⟩ (by rw [← hmp]; exact List.getElem_mem _)
      have HS1 := Lib.hid hs1
      have hl1 := hs1.len
      have HT : Hid (((ms.take (k + 1)).flatMap (·.l)).map Rw.p = acc ++ l1.map Rw.p) := Lib.hid (by rw [flat_take1 (by omega), List.map_append, hacc.out, hmp])
      obtain ⟨wo, hwo⟩ : ∃ wo : World, wo = wr := ⟨_, rfl⟩
      rw [← hwo] at hown hb r0 ⊢
      clear hrg hmp hs1 hacc hwo
      obtain ⟨w1, hw1⟩ : ∃ w1, wo.alloc (.cells #[.slice A1 n1 c1] 24) = w1 := ⟨_, rfl⟩
      have B1 := Lib.hid (show Below w.heap.size w w1 by rw [← hw1]; exact hb.out.alloc hb.out.size _)
      have O1 := Lib.hid (show w1.ownsRow w.heap.size 9 1 (.slice Ao m co) m (acc.flatMap Sc) by rw [← hw1]; exact hown.out.alloc _)
      have X1 : Hid (Lies w1 wo.heap.size 1 [.slice A1 n1 c1]) := Lib.hid (by rw [← hw1]; exact Lies.new wo [.slice A1 n1 c1] 24)
      have HW1 := Lib.hid hw1
      clear hw1 hown hb
      go_upto_region 5 with fail
      rw [HW1.out]
      clear HW1 r0
      have q0 := X1.out.cell (j := 0) rfl
      go_wp2_with fail
      clear q0 X1
      go_loopw [3, 17] (fun s i wr => ∃ (j m2 : Nat) (A2 : Option Addr) (c2 : Nat) (acc2 : List ByteArray), j ≤ n1 ∧ m2 ≤ 1000 * k + j ∧ s = .slice A2 m2 c2 ∧ i = .int .i64 (j : Int) ∧ Hid (acc ++ (l1.take j).map Rw.p = acc2) ∧ Hid (wr.ownsRow w.heap.size 9 1 (.slice A2 m2 c2) m2 (acc2.flatMap Sc)) ∧ Hid (Below w.heap.size w wr)) (fun _ i _ => n1 - (intOf i).toNat)
      case atStart => exact ⟨0, m, Ao, co, acc, Nat.zero_le _, by omega, rfl, rfl, Lib.hid (by simp), O1, B1⟩
      case round =>
        obtain ⟨j, m2, A2, c2, acc2, hj, hm2, rfl, rfl, hacc, hown, hb⟩ := hrel
        by_cases hlt2 : j < n1
        · have hd2 : decide ((j : Int) < (n1 : Int)) = true := by simp; omega
          have hj0 : (0 : Int) ≤ (j : Int) := Int.natCast_nonneg _
          have hj1 : (j : Int) < (n1 : Int) := by omega
          obtain ⟨b', o', rfl, hbl', hrg⟩ := (HS1.out.below hb.out).at_ hlt2
          obtain ⟨r, hr⟩ : ∃ r, l1[j]'(by omega) = r := ⟨_, rfl⟩
          rw [hr] at hrg
          have r0 : wr.cell? ⟨b', o' + j * 2, none⟩ = some (.string r.p) := hrg 0 _ rfl
          have r1 : wr.cell? ⟨b', o' + j * 2 + 1, none⟩ = some (.string r.t) := hrg 1 _ rfl
          have HT2 : Hid (acc ++ (l1.take (j + 1)).map Rw.p = acc2 ++ [r.p]) := Lib.hid (by rw [map_take1 (by omega), ← List.append_assoc, hacc.out, hr])
          clear hrg hr hacc
          obtain ⟨w3, hw3⟩ : ∃ w3, wr.alloc (.cells #[.string r.p, .string r.t] 70) = w3 := ⟨_, rfl⟩
          have B3 := Lib.hid (show Below w.heap.size w w3 by rw [← hw3]; exact hb.out.alloc hb.out.size _)
          have O3 := Lib.hid (show w3.ownsRow w.heap.size 9 1 (.slice A2 m2 c2) m2 (acc2.flatMap Sc) by rw [← hw3]; exact hown.out.alloc _)
          have X3 : Hid (Lies w3 wr.heap.size 2 [.string r.p, .string r.t]) := Lib.hid (by rw [← hw3]; exact Lies.new wr [.string r.p, .string r.t] 70)
          have HW3 := Lib.hid hw3
          clear hw3 hown hb
          go_upto_region 8 with fail
          rw [HW3.out]
          clear HW3 r0 r1
          have q0 := X3.out.cell (j := 0) rfl
          have z3 := B3.out.size
          go_wp2_with (first | (at_builtin; refine wpList_append_lies _ rfl _ _ 64 rfl w.heap.size 9 i0 (.string ⟨#[]⟩) 1 16 Try.underlying64 hi hz hz1 hz2 rfl (by omega) (.slice A2 m2 c2) (m2) _ rfl (O3.out.alloc _) ⟨w3.heap.size, 0, none⟩ 1 1 [.string r.p] rfl rfl (World.news_of_block (cs := #[.string r.p]) (heap_alloc_new w3 _)) (by simp [Value.oneCell']) (by omega) (by unfold maxLen; omega) (by omega) (by simp; omega) (w3.heap.size + 1) (by simp) ?_; intro g5 c5 w5 hown5 hg5 _ _; have hz9 := hg5.size; simp at hz9; have hb9 : Below w.heap.size w w5 := (B3.out.alloc B3.out.size (.cells #[.string r.p] 9)).grown hg5 (by have := B3.out.size; simp; omega) (fun k hk => (O3.out.lt k hk).1); have B5 := Lib.hid hb9; have O5 := Lib.hid (sc_app (l := acc2) hown5); have z5 := hb9.size; clear hb9 hz9 hown5 hg5) | fail)
          go_roundw
          case rel => exact ⟨j + 1, m2 + 1, _, c5, acc2 ++ [r.p], by omega, by omega, rfl, by go_num, HT2, O5, B5⟩
          case measure => simp [intOf]; omega
        · have hd2 : decide ((j : Int) < (n1 : Int)) = false := by simp; omega
          obtain rfl : n1 = j := by omega
          have HT3 : Hid (((ms.take (k + 1)).flatMap (·.l)).map Rw.p = acc2) := Lib.hid (by rw [HT.out, ← hacc.out, ← hl1, List.take_length])
          clear hacc
          go_wp2_with fail
          go_roundw
          case rel => exact ⟨k + 1, m2, A2, c2, acc2, by omega, by omega, rfl, by go_num, HT3, hown, hb⟩
          case measure => simp [intOf]; omega
    · have hd : decide ((k : Int) < (n : Int)) = false := by simp; omega
      obtain rfl : n = k := by omega
      have HA : Hid ((ms.flatMap (·.l)).map Rw.p = acc) := Lib.hid (by have := hacc.out; rwa [← hl, List.take_length] at this)
      have hal : acc.length = m := by have := hown.out.1; rw [flat_sc] at this; simpa using this
      have hw1 := hown.out
      rw [flat_sc] at hw1
      have HO := Lib.hid hw1
      have HSO := Lib.hid (Sort_own HO.out (by simpa using hal) (show m ≤ 1000000 by omega))
      clear hacc hw1
      go_wp2_with fail
      refine HSO.out.mono ?_
      rintro e w2 ⟨rfl, ho2, hb2⟩
      have B2 := Lib.hid (hb.out.trans hb2)
      have HCO := Lib.hid (Compact_own ho2 (by simpa using hal) (show m ≤ 1000000 by omega))
      clear ho2 hb2
      go_wp2_with fail
      refine HCO.out.mono ?_
      rintro e w3 ⟨⟨k3, hk3, rfl, ho3⟩, hb3⟩
      have B3 := Lib.hid (B2.out.trans hb3)
      have HF : Hid (SqS w3 w3.heap.size Ao k3 co (pathsW Rw.p [] (ms.flatMap (·.l)))) := Lib.hid (by
        rw [flat_of] at ho3
        have := own_sq ho3 sc_sz (by omega)
        rw [show (Go.Lib.compact ((acc.map (·.toList)).mergeSort fun x y => decide (x ≤ y))).map ofL = srt acc from rfl, ← HA.out, srt_paths] at this
        exact this)
      have HF2 : Hid (w3.ownsRow w.heap.size 9 1 (.slice Ao k3 co) k3 ((pathsW Rw.p [] (ms.flatMap (·.l))).flatMap Sc)) := Lib.hid (by
        rw [flat_of] at ho3
        rw [show (Go.Lib.compact ((acc.map (·.toList)).mergeSort fun x y => decide (x ≤ y))).map ofL = srt acc from rfl, ← HA.out, srt_paths] at ho3
        exact ho3)
      clear ho3 hb3
      go_wp2_with fail
      go_ret
      exact ⟨⟨_, _, _, rfl, by omega, HF.out, HF2.out⟩, B3.out⟩
theorem Paths_any {w : World} {A : Option Addr} {n c : Nat} {ms : List Mp} (h : Sq Mp.cells 1 w w.heap.size A n c ms) (hm : ∀ m ∈ ms, SqR w w.heap.size m.a m.n m.c m.l ∧ m.n ≤ 1000) (hn : n ≤ 100) :
    Calls Try.prog 33 #[.slice A n c] w fun e w' => (∃ A2 n2 c2, e = .returned (.slice A2 n2 c2) ∧ n2 ≤ 100000 ∧ SqS w' w'.heap.size A2 n2 c2 (pathsW Rw.p [] (ms.flatMap (·.l)))) ∧ Below w.heap.size w w' :=
  (Paths_own h hm hn).mono fun e w' hh => by
    obtain ⟨⟨A2, n2, c2, h1, h2, h3, _⟩, hb⟩ := hh
    exact ⟨⟨A2, n2, c2, h1, h2, h3⟩, hb⟩
end Go.Proofs.Ytkdmlffnkomdhaa
