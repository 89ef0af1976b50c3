/-
  WHAT THE LAWS OF LAYER 1 HAVE IN COMMON: 'wakes' answers true; 'own' is a copy of at most 600 bytes.
-/
import Derived.Test.YtokaihdoddonkaaOct4
namespace Go.Proofs.Ytokaihdoddonkaa
set_option linter.unusedVariables false
open Go.RowKit Go.WideShapes Go.ChangeShapes

/-- THE SLICE '.slice A n c' IS THE CALL's OWN, from block 'base' on, and reads as l. -/
def Ow (w : World) (base : Nat) (A : Option Addr) (n c : Nat) (l : List UInt8) : Prop := w.ownsRow base 5 1 (.slice A n c) n (bvs l)
theorem Ow.sl {w : World} {base n c B : Nat} {A : Option Addr} {l : List UInt8} (h : Ow w base A n c l) (hB : w.heap.size ≤ B) : SlB w B A n c l := by
  obtain ⟨h1, h2⟩ := h
  rw [bvs_len, Nat.mul_one] at h1
  rcases h2 with ⟨h2, h3⟩ | ⟨g, cap, cur, hv, hb, hh, hn, hc, hs, ht⟩
  · injection h2 with e1 e2 e3
    subst e1 e2 e3
    exact ⟨h1, Nat.le_refl _, Nat.zero_le _, fun _ => rfl, fun h => absurd h (by omega)⟩
  · injection hv with e1 e2 e3
    subst e1 e3
    refine ⟨h1, hn, hc, fun e => (by cases e), fun h0 => ⟨g, 0, rfl, by have := (Array.getElem?_eq_some_iff.1 hh).1; omega, fun j hj => ?_⟩⟩
    rw [Nat.zero_add, cell_of_row w g j cur _ (0, 0) hh]
    have h4 : (bvs l)[j]? = some (bv l[j]) := by simp [bvs, List.getElem?_eq_getElem hj]
    rw [← ht, List.getElem?_take] at h4
    split at h4
    · simpa using h4
    · cases h4
theorem Ow.len {w : World} {base n c : Nat} {A : Option Addr} {l : List UInt8} (h : Ow w base A n c l) : l.length = n := by
  have h1 := h.1
  rwa [bvs_len, Nat.mul_one] at h1
theorem Ow.below {w w' : World} {base n c B : Nat} {A : Option Addr} {l : List UInt8} (h : Ow w base A n c l) (hb : Below B w w') (hB : w.heap.size ≤ B) : Ow w' base A n c l :=
  h.kept (w' := w') (row := none) ⟨hb.os, hb.tape, hb.output, hb.size, fun k hk _ => hb.block k (by omega)⟩ (by cases hv : Value.ownBlock (.slice A n c) <;> simp)

theorem own_any {A : Option Addr} {n c : Nat} {l : List UInt8} {w : World} {B : Nat} (hs : SlB w B A n c l) (hB : B ≤ w.heap.size) :
    Calls Try.prog 11 #[.slice A n c] w fun e w' =>
      ∃ A' c', e = .returned (.slice A' (min n 600) c') ∧ Ow w' w.heap.size A' (min n 600) c' (l.take 600) ∧ Below w.heap.size w w' := by
  obtain ⟨i0, hi0, hz0, hz1, hz2⟩ := info_parts info_u8
  have hm := hs.le
  have hcm := hs.max
  have hcc := hs.cap
  unfold maxLen at hm hcm
  have ht := hs.take (k := min n 600) (Nat.min_le_left _ _)
  have ek : l.take (min n 600) = l.take 600 := by
    have := hs.len
    by_cases h6 : n ≤ 600
    · rw [Nat.min_eq_left h6, List.take_of_length_le (by omega), List.take_of_length_le (by omega)]
    · rw [Nat.min_eq_right (by omega)]
  rw [ek] at ht
  have hK : min n 600 ≤ 600 := Nat.min_le_right _ _
  have he : (min (n : Int) 600).toNat = min n 600 := by omega
  have HE := Lib.hid he
  clear he ek
  generalize hk : min n 600 = k at *
  clear hk
  have h0 := World.ownsRow_made (base := w.heap.size) (e := 5) (size := 1) w #[] 0 (Nat.le_refl _) (Nat.zero_le _) rfl
  have hb0 : Below w.heap.size w (w.alloc (.cells #[] 5)) := (Below.refl _ _).alloc (Nat.le_refl _) _
  have ht1 := ht.below (hb0.mono hB)
  have he := HE.out
  go_enter Try.func11, Try.ntmps11
  go_wp2_with (at_builtin; go_loud (refine wpList_append_sl rfl (.tmp 3) (.tmp 8) 22 rfl w.heap.size 5 i0 Try.underlying22 hi0 hz0 hz1 hz2 _ 0 [] rfl h0 rfl ht1 (by omega) (by simp) ?_); intro v1 w1 hown1 hg1)
  go_ret
  obtain ⟨A', c', rfl⟩ := own_form hown1
  simp only [Nat.zero_add, List.nil_append] at hown1
  refine ⟨A', c', ?_, hown1, hb0.grown hg1 (by simp) (fun k hk => ?_)⟩
  · show Ending.returned (.slice A' (0 + k) c') = _
    rw [Nat.zero_add]
  · simp [Act.eval, Value.ownBlock] at hk
    omega

/-- A row that was just written out. -/
theorem lit_at (w : World) (b : Nat) (l : List UInt8) (hb : b = w.heap.size) (hl : l.length ≤ 1000) : SlB (w.alloc (.cells (bvs l).toArray 5)) (b + 1) (some ⟨b, 0, none⟩) l.length l.length l := by
  subst hb
  exact Bl.sl (Bl.new w 5 (bvs l)) (Nat.lt_succ_self _) (by unfold maxLen; omega)
theorem lit_sl (w : World) (l : List UInt8) (hl : l.length ≤ 1000) : SlB (w.alloc (.cells (bvs l).toArray 5)) (w.heap.size + 1) (some ⟨w.heap.size, 0, none⟩) l.length l.length l :=
  Bl.sl (Bl.new w 5 (bvs l)) (Nat.lt_succ_self _) (by unfold maxLen; omega)

set_option maxHeartbeats 1000000 in
theorem wakes_any (w : World) : Calls Try.prog 10 #[] w fun e w' => e = .returned (.bool true) ∧ Below w.heap.size w w' := by
  go_enter Try.func10, Try.ntmps10
  go_wp2_with fail
  refine (read_any (lit_sl _ [1, 2, 5] (by decide)) (by simp) (by decide)).mono ?_
  rintro x w1 ⟨g, hg, rfl, hR, hb1⟩
  go_wp2_with fail
  refine (put_u16 (lit_sl _ [7] (by decide)) (by simp) 258 _ rfl (by decide) (by decide)).mono ?_
  rintro x w2 ⟨g2, hg2, rfl, hP, hb2⟩
  have hz1 : w.heap.size + 1 ≤ g := by simpa using hg
  have hz2 : w1.heap.size + 1 ≤ g2 := by simpa using hg2
  have hb1' := below_new hb1
  have hb2' := below_new hb2
  have hglt := hR.lt
  have hR2 := hR.below hb2' hR.lt
  have c3 := take_u16 hR2
  rw [show num (offT [1, 2, 5] 0 2) = 258 by decide, show offL [1, 2, 5] 0 2 = [5] by decide, show offE [1, 2, 5] 0 2 = 0 by decide] at c3
  have C3 := Lib.hid c3
  clear c3 hb1 hb2 hR
  go_wp2_with fail
  refine C3.out.mono ?_
  rintro x w3 ⟨rfl, hR3, hG3⟩
  go_wp2_with fail
  refine (left_any hR3).mono ?_
  rintro x w4 ⟨rfl, k4, rfl⟩
  have hR4 : Rd (w3.drewN k4) g [5] 0 := hR3.drewN k4
  have c5 := take_u16 hR4
  rw [show num (offT [5] 0 2) = 0 by decide, show offL [5] 0 2 = [5] by decide, show offE [5] 0 2 = 7 by decide] at c5
  have C5 := Lib.hid c5
  clear c5
  go_wp2_with fail
  refine C5.out.mono ?_
  rintro x w5 ⟨rfl, hR5, hG5⟩
  go_wp2_with fail
  refine (err_any hR5).mono ?_
  rintro x w5 ⟨rfl, rfl⟩
  have hP5 : Bl w5 g2 5 (bvs [7, 1, 2]) := ((hP.grown hG3 (by simp; omega)).grown (w := w3.drewN k4) hG5 (by simp; omega))
  have hs5 := Bl.sl (B := w5.heap.size) hP5 hP5.lt (by decide)
  have hBW : Below w.heap.size w w5 := by
    have q1 := hb1'.size
    have q2 := hb2'.size
    have q3 := hG3.size
    have s1 : Below w.heap.size w w3 := (hb1'.trans (hb2'.mono q1)).trans (below_of_only hG3 (by omega) (by omega))
    have s2 : Below w.heap.size (w3.drewN k4) w5 := below_of_only hG5 (by omega) (by have : (w3.drewN k4).heap.size = w3.heap.size := rfl; omega)
    exact (below_drewN s1 k4).trans s2
  clear hP hP5 hR2 hR3 hR4 hR5 hG3 hG5 hg hg2 hb1' hb2' C3 C5
  go_wp2_with fail
  have c6 := equal_any (hs5.below ((Below.refl _ _).alloc (Nat.le_refl _) _)) (lit_sl w5 [7, 1, 2] (by decide))
  rw [show (([7, 1, 2] : List UInt8) == [7, 1, 2]) = true by decide] at c6
  refine c6.mono ?_
  rintro x w6 ⟨rfl, rfl⟩
  clear c6 hs5
  go_wp2_with fail
  have c7 := zero_any (lit_at (w5.alloc (.cells #[.int .u8 7, .int .u8 1, .int .u8 2] 5)) (w5.heap.size + 1) [0] (by simp) (by decide))
  rw [show zeros [0] = true by decide] at c7
  refine c7.mono ?_
  rintro x w6 ⟨rfl, rfl⟩
  clear c7
  go_wp2_with fail
  have c8 := zero_any (lit_at ((w5.alloc (.cells #[.int .u8 7, .int .u8 1, .int .u8 2] 5)).alloc (.cells #[.int .u8 0] 5)) (w5.heap.size + 1 + 1) [0, 1] (by simp) (by decide))
  rw [show zeros [0, 1] = false by decide] at c8
  refine c8.mono ?_
  rintro x w6 ⟨rfl, rfl⟩
  clear c8
  go_wp2_with fail
  have c9 := equal_any ((lit_at (((w5.alloc (.cells #[.int .u8 7, .int .u8 1, .int .u8 2] 5)).alloc (.cells #[.int .u8 0] 5)).alloc (.cells #[.int .u8 0, .int .u8 1] 5)) (w5.heap.size + 1 + 1 + 1) [1] (by simp) (by decide)).below ((Below.refl _ _).alloc (by simp) (.cells #[.int .u8 1, .int .u8 0] 5))) (lit_at ((((w5.alloc (.cells #[.int .u8 7, .int .u8 1, .int .u8 2] 5)).alloc (.cells #[.int .u8 0] 5)).alloc (.cells #[.int .u8 0, .int .u8 1] 5)).alloc (.cells #[.int .u8 1] 5)) (w5.heap.size + 1 + 1 + 1 + 1) [1, 0] (by simp) (by decide))
  rw [show (([1] : List UInt8) == [1, 0]) = false by decide] at c9
  refine c9.mono ?_
  rintro x w6 ⟨rfl, rfl⟩
  clear c9
  go_wp2_with fail
  go_ret
  have q5 := hBW.size
  exact ⟨rfl, ((((hBW.alloc q5 _).alloc (by simp; omega) _).alloc (by simp; omega) _).alloc (by simp; omega) _).alloc (by simp; omega) _⟩
end Go.Proofs.Ytokaihdoddonkaa
