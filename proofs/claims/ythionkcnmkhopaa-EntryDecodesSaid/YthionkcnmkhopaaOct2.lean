/-
  CONTRACTS OF PACKAGE octet, TWO: widths, and numbers as bytes.
-/
import Derived.Test.YthionkcnmkhopaaOct
import Derived.Lib.BitFns
import Derived.Lib.Small
import Derived.Lib.Walk
namespace Go.Proofs.Ythionkcnmkhopaa
set_option linter.unusedVariables false
open Go.RowKit Go.WideShapes Go.ChangeShapes

/-- The lowest k digits to the base 256, the highest first. -/
def be : Nat → Nat → List UInt8
  | 0, _ => []
  | k + 1, x => be k (x / 256) ++ [UInt8.ofNat x]
theorem be_len : ∀ (k x : Nat), (be k x).length = k
  | 0, _ => rfl
  | k + 1, x => by simp [be, be_len k]
theorem be_cons : ∀ (k x : Nat), be (k + 1) x = UInt8.ofNat (x / 256 ^ k) :: be k x
  | 0, x => by simp [be]
  | k + 1, x => by
    rw [be, be_cons k (x / 256), be, List.cons_append, Nat.div_div_eq_div_mul, ← Nat.pow_succ']
theorem byte_of (x : Nat) : ((UInt8.ofNat x).toNat : Int) = (x : Int) % 256 := by simp
theorem put_step (l : List UInt8) (q j x : Nat) :
    (bvs (l ++ List.replicate (q + 1) 0 ++ be j x)).set (l.length + q) (bv (UInt8.ofNat (x / 256 ^ j))) = bvs (l ++ List.replicate q 0 ++ be (j + 1) x) := by
  have h1 : l ++ List.replicate (q + 1) 0 ++ be j x = (l ++ List.replicate q 0) ++ (0 :: be j x) := by
    rw [List.replicate_succ']; simp
  rw [h1, be_cons]
  simp only [bvs, List.map_append, List.map_cons]
  rw [List.set_append_right _ _ (by simp)]
  simp

theorem tab_size : Lib.len8tab.size = 256 := by decide +kernel
theorem tab_fin : ∀ b : Fin 128, Lib.len8tab.data.getD (b.val + 128) 0 = 8 := by decide +kernel
theorem tab_top (i : Nat) (h : i < Lib.len8tab.size) (h0 : 128 ≤ i) : Lib.len8tab[i].toNat = 8 := by
  have hs : Lib.len8tab.data.size = 256 := tab_size
  have hi : i < Lib.len8tab.data.size := h
  have e := tab_fin ⟨i - 128, by omega⟩
  simp only [] at e
  rw [show i - 128 + 128 = i by omega, Array.getD_eq_getD_getElem?, Array.getElem?_eq_getElem hi] at e
  have e2 : Lib.len8tab[i] = 8 := e
  rw [e2]
  rfl

set_option maxHeartbeats 1000000 in
set_option maxRecDepth 100000 in
theorem len64_8 (x : Int) (w : World) (h0 : 128 ≤ x) (h1 : x ≤ 255) : Calls Try.prog 48 #[.int .u64 x] w fun e w' => e = .returned (.int .i64 8) ∧ w = w' := by
  have hb : x < (Lib.len8tab.size : Int) := by rw [tab_size]; omega
  go_enter Try.func48, Try.ntmps48
  go_wp2
  go_ret
  refine ⟨congrArg Ending.returned (congrArg (Value.int IntKind.i64) ?_), rfl⟩
  rw [tab_top _ _ (by omega)]
  unfold wrap64
  rfl

set_option maxHeartbeats 1000000 in
set_option maxRecDepth 100000 in
theorem len64_16 (x : Int) (w : World) (h0 : 32768 ≤ x) (h1 : x ≤ 65535) : Calls Try.prog 48 #[.int .u64 x] w fun e w' => e = .returned (.int .i64 16) ∧ w = w' := by
  have hb : x / 256 < (Lib.len8tab.size : Int) := by rw [tab_size]; omega
  go_enter Try.func48, Try.ntmps48
  go_wp2
  go_ret
  refine ⟨congrArg Ending.returned (congrArg (Value.int IntKind.i64) ?_), rfl⟩
  rw [tab_top _ _ (by omega)]
  unfold wrap64
  rfl

set_option maxHeartbeats 1000000 in
set_option maxRecDepth 100000 in
theorem len64_32 (x : Int) (w : World) (h0 : 2147483648 ≤ x) (h1 : x ≤ 4294967295) : Calls Try.prog 48 #[.int .u64 x] w fun e w' => e = .returned (.int .i64 32) ∧ w = w' := by
  have hb : x / 65536 / 256 < (Lib.len8tab.size : Int) := by rw [tab_size]; omega
  go_enter Try.func48, Try.ntmps48
  go_wp2
  go_ret
  refine ⟨congrArg Ending.returned (congrArg (Value.int IntKind.i64) ?_), rfl⟩
  rw [tab_top _ _ (by omega)]
  unfold wrap64
  rfl

set_option maxHeartbeats 1000000 in
set_option maxRecDepth 100000 in
theorem len64_64 (x : Int) (w : World) (h0 : 9223372036854775808 ≤ x) (h1 : x ≤ 18446744073709551615) : Calls Try.prog 48 #[.int .u64 x] w fun e w' => e = .returned (.int .i64 64) ∧ w = w' := by
  have hb : x / 4294967296 / 65536 / 256 < (Lib.len8tab.size : Int) := by rw [tab_size]; omega
  go_enter Try.func48, Try.ntmps48
  go_wp2
  go_ret
  refine ⟨congrArg Ending.returned (congrArg (Value.int IntKind.i64) ?_), rfl⟩
  rw [tab_top _ _ (by omega)]
  unfold wrap64
  rfl

theorem width_u16 (w : World) : Calls Try.prog 47 #[] w fun e w' => e = .returned (.int .i64 2) ∧ w = w' := by
  go_enter Try.func47, Try.ntmps47
  go_wp2_with (go_at_call 48; refine (len64_16 _ _ (by decide +kernel) (by decide +kernel)).mono ?_; rintro e w' ⟨rfl, rfl⟩)
  go_ret
  exact ⟨rfl, rfl⟩

theorem width_u32 (w : World) : Calls Try.prog 46 #[] w fun e w' => e = .returned (.int .i64 4) ∧ w = w' := by
  go_enter Try.func46, Try.ntmps46
  go_wp2_with (go_at_call 48; refine (len64_32 _ _ (by decide +kernel) (by decide +kernel)).mono ?_; rintro e w' ⟨rfl, rfl⟩)
  go_ret
  exact ⟨rfl, rfl⟩

theorem width_u8 (w : World) : Calls Try.prog 45 #[] w fun e w' => e = .returned (.int .i64 1) ∧ w = w' := by
  go_enter Try.func45, Try.ntmps45
  go_wp2_with (go_at_call 48; refine (len64_8 _ _ (by decide +kernel) (by decide +kernel)).mono ?_; rintro e w' ⟨rfl, rfl⟩)
  go_ret
  exact ⟨rfl, rfl⟩

theorem lay_u16 {A : Option Addr} {n c : Nat} {l : List UInt8} {w : World} {B : Nat} (hs : SlB w B A n c l) (hB : B ≤ w.heap.size) (x : Nat) (X : Int) (hX : X = (x : Int)) (hx : x < 65536) (hn : n ≤ 140737488355320) :
    Calls Try.prog 44 #[.slice A n c, .int .u16 X] w fun e w' =>
      ∃ g, w.heap.size ≤ g ∧ e = .returned (.slice (some ⟨g, 0, none⟩) (n + 2) (n + 2)) ∧ Bl w' g 5 (bvs (l ++ be 2 x)) ∧ Below w.heap.size w w' := by
  subst hX
  have hl := hs.le
  have hlen := Lib.hid hs.len
  unfold maxLen at hl
  go_enter Try.func44, Try.ntmps44
  go_wp2_with (first | (go_at_call 47; refine (width_u16 _).mono ?_; rintro e w' ⟨rfl, rfl⟩) | (go_at_call 38; refine (grown_any hs hB 2 _ rfl (by omega)).mono ?_; rintro e w1 ⟨rfl, hb1, hw1⟩))
  have HB1 := Lib.hid hb1
  clear hb1
  go_loopw [6, 7] (fun lf pl wr => ∃ (q j : Nat) (P : Int), q + j = 2 ∧ P ≤ (n : Int) + q - 1 ∧ (n : Int) + q - 1 ≤ P ∧ pl = .int .i64 P ∧ lf = .int .u64 ((x / 256 ^ j : Nat) : Int) ∧ Hid (Bl wr w.heap.size 5 (bvs (l ++ List.replicate q 0 ++ be j x))) ∧ Below w.heap.size w wr) (fun _ pl _ => (intOf pl + 1 - n).toNat)
  case atStart => exact ⟨2, 0, _, rfl, by omega, by omega, rfl, by simp, by simpa [be] using HB1, hw1⟩
  case round =>
    obtain ⟨q, j, P, hq, hP1, hP2, rfl, rfl, hbl, hbw⟩ := hrel
    by_cases h0 : q = 0
    · subst h0
      have hlt : P < (n : Int) := by omega
      obtain rfl : j = 2 := by omega
      go_wp2
      go_ret
      exact ⟨_, Nat.le_refl _, rfl, by simpa using hbl.out, hbw⟩
    · have hge : (n : Int) ≤ P := by omega
      obtain ⟨q, rfl⟩ : ∃ q', q = q' + 1 := ⟨q - 1, by omega⟩
      have hPn : P.toNat = l.length + q := by rw [hlen.out]; omega
      have hcell : ∃ v, wr.cell? ⟨w.heap.size, P.toNat, none⟩ = some v := by
        rw [Bl.cell hbl.out, hPn]
        exact ⟨_, List.getElem?_eq_getElem (by simp [bvs_len]; omega)⟩
      obtain ⟨v0, hcell⟩ := hcell
      have hfr := Bl.frozen hbl.out P.toNat
      have hP3 : P < (n : Int) + 2 := by omega
      have hnew := Bl.set_ hbl.out P.toNat (bv (UInt8.ofNat (x / 256 ^ j)))
      rw [hPn, put_step, ← hPn] at hnew
      have HN := Lib.hid hnew
      have HP := Lib.hid hPn
      clear hnew hPn
      go_wp2
      refine ⟨⟨q, j + 1, P - 1, by omega, by omega, by omega, rfl, ?_, ?_, hbw.setCell (Nat.le_refl _) _⟩, by simp [intOf]; omega⟩
      · rw [Nat.pow_succ, ← Nat.div_div_eq_div_mul]; simp
      · have e : (Value.int IntKind.u8 ((x : Int) / 256 ^ j % 256)) = bv (UInt8.ofNat (x / 256 ^ j)) := by
          simp [bv]
        rw [e]
        exact HN.out

theorem lay_u32 {A : Option Addr} {n c : Nat} {l : List UInt8} {w : World} {B : Nat} (hs : SlB w B A n c l) (hB : B ≤ w.heap.size) (x : Nat) (X : Int) (hX : X = (x : Int)) (hx : x < 4294967296) (hn : n ≤ 140737488355320) :
    Calls Try.prog 43 #[.slice A n c, .int .u32 X] w fun e w' =>
      ∃ g, w.heap.size ≤ g ∧ e = .returned (.slice (some ⟨g, 0, none⟩) (n + 4) (n + 4)) ∧ Bl w' g 5 (bvs (l ++ be 4 x)) ∧ Below w.heap.size w w' := by
  subst hX
  have hl := hs.le
  have hlen := Lib.hid hs.len
  unfold maxLen at hl
  go_enter Try.func43, Try.ntmps43
  go_wp2_with (first | (go_at_call 46; refine (width_u32 _).mono ?_; rintro e w' ⟨rfl, rfl⟩) | (go_at_call 38; refine (grown_any hs hB 4 _ rfl (by omega)).mono ?_; rintro e w1 ⟨rfl, hb1, hw1⟩))
  have HB1 := Lib.hid hb1
  clear hb1
  go_loopw [6, 7] (fun lf pl wr => ∃ (q j : Nat) (P : Int), q + j = 4 ∧ P ≤ (n : Int) + q - 1 ∧ (n : Int) + q - 1 ≤ P ∧ pl = .int .i64 P ∧ lf = .int .u64 ((x / 256 ^ j : Nat) : Int) ∧ Hid (Bl wr w.heap.size 5 (bvs (l ++ List.replicate q 0 ++ be j x))) ∧ Below w.heap.size w wr) (fun _ pl _ => (intOf pl + 1 - n).toNat)
  case atStart => exact ⟨4, 0, _, rfl, by omega, by omega, rfl, by simp, by simpa [be] using HB1, hw1⟩
  case round =>
    obtain ⟨q, j, P, hq, hP1, hP2, rfl, rfl, hbl, hbw⟩ := hrel
    by_cases h0 : q = 0
    · subst h0
      have hlt : P < (n : Int) := by omega
      obtain rfl : j = 4 := by omega
      go_wp2
      go_ret
      exact ⟨_, Nat.le_refl _, rfl, by simpa using hbl.out, hbw⟩
    · have hge : (n : Int) ≤ P := by omega
      obtain ⟨q, rfl⟩ : ∃ q', q = q' + 1 := ⟨q - 1, by omega⟩
      have hPn : P.toNat = l.length + q := by rw [hlen.out]; omega
      have hcell : ∃ v, wr.cell? ⟨w.heap.size, P.toNat, none⟩ = some v := by
        rw [Bl.cell hbl.out, hPn]
        exact ⟨_, List.getElem?_eq_getElem (by simp [bvs_len]; omega)⟩
      obtain ⟨v0, hcell⟩ := hcell
      have hfr := Bl.frozen hbl.out P.toNat
      have hP3 : P < (n : Int) + 4 := by omega
      have hnew := Bl.set_ hbl.out P.toNat (bv (UInt8.ofNat (x / 256 ^ j)))
      rw [hPn, put_step, ← hPn] at hnew
      have HN := Lib.hid hnew
      have HP := Lib.hid hPn
      clear hnew hPn
      go_wp2
      refine ⟨⟨q, j + 1, P - 1, by omega, by omega, by omega, rfl, ?_, ?_, hbw.setCell (Nat.le_refl _) _⟩, by simp [intOf]; omega⟩
      · rw [Nat.pow_succ, ← Nat.div_div_eq_div_mul]; simp
      · have e : (Value.int IntKind.u8 ((x : Int) / 256 ^ j % 256)) = bv (UInt8.ofNat (x / 256 ^ j)) := by
          simp [bv]
        rw [e]
        exact HN.out

end Go.Proofs.Ythionkcnmkhopaa
