/-
  CONTRACTS OF PACKAGE octet, THREE: numbers put behind bytes; a reader.
-/
import Derived.Test.YthionkcnmkhopaaOct2
import Derived.RegionTactic
namespace Go.Proofs.Ythionkcnmkhopaa
set_option linter.unusedVariables false
open Go.RowKit Go.WideShapes Go.ChangeShapes

theorem put_u16 {A : Option Addr} {n c : Nat} {l : List UInt8} {w : World} {B : Nat} (hs : SlB w B A n c l) (hB : B ≤ w.heap.size) (x : Nat) (X : Int) (hX : X = (x : Int)) (hx : x < 65536) (hn : n ≤ 140737488355320) :
    Calls Try.prog 35 #[.slice A n c, .int .u16 X] w fun e w' =>
      ∃ g, w.heap.size ≤ g ∧ e = .returned (.slice (some ⟨g, 0, none⟩) (n + 2) (n + 2)) ∧ Bl w' g 5 (bvs (l ++ be 2 x)) ∧ Below w.heap.size w w' := by
  subst hX
  go_enter Try.func35, Try.ntmps35
  go_wp2_with (go_at_call 44; refine (lay_u16 hs hB x _ rfl hx hn).mono ?_; rintro e w1 ⟨g, hg, rfl, hb1, hw1⟩)
  go_ret
  exact ⟨g, hg, rfl, hb1, hw1⟩

theorem put_u32 {A : Option Addr} {n c : Nat} {l : List UInt8} {w : World} {B : Nat} (hs : SlB w B A n c l) (hB : B ≤ w.heap.size) (x : Nat) (X : Int) (hX : X = (x : Int)) (hx : x < 4294967296) (hn : n ≤ 140737488355320) :
    Calls Try.prog 34 #[.slice A n c, .int .u32 X] w fun e w' =>
      ∃ g, w.heap.size ≤ g ∧ e = .returned (.slice (some ⟨g, 0, none⟩) (n + 4) (n + 4)) ∧ Bl w' g 5 (bvs (l ++ be 4 x)) ∧ Below w.heap.size w w' := by
  subst hX
  go_enter Try.func34, Try.ntmps34
  go_wp2_with (go_at_call 43; refine (lay_u32 hs hB x _ rfl hx hn).mono ?_; rintro e w1 ⟨g, hg, rfl, hb1, hw1⟩)
  go_ret
  exact ⟨g, hg, rfl, hb1, hw1⟩

/-- BLOCK g IS A READER that has the bytes l still, and whose error is e. -/
def Rd (w : World) (g : Nat) (l : List UInt8) (e : Int) : Prop :=
  ∃ (A : Option Addr) (n c t : Nat) (full : List UInt8), Bl w g 66 [.slice A n c, .int .i64 (t : Int), .int .i64 e] ∧ SlB w g A n c full ∧ t ≤ n ∧ l = full.drop t
abbrev rp (g : Nat) : Value := .pointer (some ⟨g, 0, none⟩)

theorem Rd.keep {w w' : World} {g : Nat} {l : List UInt8} {e : Int} (h : Rd w g l e) (hk : ∀ k, k ≤ g → w'.heap[k]? = w.heap[k]?) : Rd w' g l e := by
  obtain ⟨A, n, c, t, full, hb, hs, ht, hl⟩ := h
  exact ⟨A, n, c, t, full, (hk g (Nat.le_refl _)).trans hb, hs.keep fun p hp => World.cell?_of_block (hk p.block (by omega)), ht, hl⟩
theorem Rd.lt {w : World} {g : Nat} {l : List UInt8} {e : Int} (h : Rd w g l e) : g < w.heap.size := by
  obtain ⟨A, n, c, t, full, hb, hs, ht, hl⟩ := h
  exact hb.lt
theorem Rd.below {w w' : World} {g B : Nat} {l : List UInt8} {e : Int} (h : Rd w g l e) (hb : Below B w w') (hg : g < B) : Rd w' g l e := h.keep fun k hk => hb.block k (by omega)
theorem Rd.drewN {w : World} {g : Nat} {l : List UInt8} {e : Int} (h : Rd w g l e) (k : Nat) : Rd (w.drewN k) g l e := h.keep fun _ _ => rfl
theorem Rd.len {w : World} {g : Nat} {l : List UInt8} {e : Int} (h : Rd w g l e) : l.length ≤ 9223372036854775807 := by
  obtain ⟨A, n, c, t, full, hb, hs, ht, rfl⟩ := h
  have h1 := hs.le
  have h2 := hs.len
  unfold maxLen at h1
  simp
  omega

/-- Another reader's step leaves this one as it was. -/
theorem Rd.other {w w' : World} {g g' : Nat} {l l' : List UInt8} {e e' : Int} (h : Rd w g l e) (h' : Rd w g' l' e') (hne : g ≠ g') (hG : w.grownBy w' (some g')) : Rd w' g l e := by
  obtain ⟨A, n, c, t, full, hb, hs, ht, hl⟩ := h
  obtain ⟨A', n', c', t', full', hb', hs', ht', hl'⟩ := h'
  refine ⟨A, n, c, t, full, hb.grown hG (by simpa using hne), ⟨hs.len, hs.cap, hs.max, hs.non, fun h0 => ?_⟩, ht, hl⟩
  obtain ⟨b, o, e1, hlt, hc⟩ := hs.pos h0
  have hbg : b ≠ g' := by
    rintro rfl
    have h1 := hc 0 (by rw [hs.len]; exact h0)
    rw [Nat.add_zero, hb'.cell o] at h1
    match o, h1 with
    | 0, h1 => simp [bv] at h1
    | 1, h1 => simp [bv] at h1
    | 2, h1 => simp [bv] at h1
    | _ + 3, h1 => simp at h1
  exact ⟨b, o, e1, hlt, fun j hj => (World.cell?_of_block (hG.block b (by have := hb.lt; omega) (by simpa using hbg))).trans (hc j hj)⟩
theorem err_any {w : World} {g : Nat} {l : List UInt8} {e : Int} (h : Rd w g l e) : Calls Try.prog 30 #[rp g] w fun x w' => x = .returned (.int .i64 e) ∧ w = w' := by
  obtain ⟨A, n, c, t, full, hb, hs, ht, hl⟩ := h
  have h2 := hb.cell 2
  simp only [List.getElem?_cons_succ, List.getElem?_cons_zero] at h2
  unfold rp
  clear hl
  go_enter Try.func30, Try.ntmps30
  go_wp2
  go_ret
  exact ⟨rfl, rfl⟩
theorem err_nil (w : World) : Calls Try.prog 30 #[.pointer none] w fun x w' => x = .returned (.int .i64 1) ∧ w = w' := by
  go_enter Try.func30, Try.ntmps30
  go_wp2
  go_ret
  exact ⟨rfl, rfl⟩

theorem left_any {w : World} {g : Nat} {l : List UInt8} {e : Int} (h : Rd w g l e) : Calls Try.prog 31 #[rp g] w fun x w' => x = .returned (.int .i64 l.length) ∧ ∃ k, w' = w.drewN k := by
  obtain ⟨A, n, c, t, full, hb, hs, ht, hl⟩ := h
  have h0 := hb.cell 0
  have h1 := hb.cell 1
  simp only [List.getElem?_cons_succ, List.getElem?_cons_zero] at h0 h1
  have hm := hs.le
  unfold maxLen at hm
  unfold rp
  have HL : Hid (l.length = n - t) := by subst hl; have := hs.len; simp [Hid, this]
  clear hl
  have hi : ((n : Int) - (t : Int)) = (((n - t : Nat)) : Int) := by omega
  have HI := Lib.hid hi
  clear hi
  go_enter Try.func31, Try.ntmps31
  go_wp2
  go_quiet (fail)
  go_wp2
  go_ret
  rw [HL.out, HI.out]
  exact ⟨rfl, _, rfl⟩
theorem left_nil (w : World) : Calls Try.prog 31 #[.pointer none] w fun x w' => x = .returned (.int .i64 0) ∧ w = w' := by
  go_enter Try.func31, Try.ntmps31
  go_wp2
  go_ret
  exact ⟨rfl, rfl⟩

theorem read_any {A : Option Addr} {n c : Nat} {l : List UInt8} {w : World} {B : Nat} (hs : SlB w B A n c l) (hB : B ≤ w.heap.size) (hn : n ≤ 140737488355320) :
    Calls Try.prog 24 #[.slice A n c] w fun x w' => ∃ g, w.heap.size ≤ g ∧ x = .returned (rp g) ∧ Rd w' g l 0 ∧ Below w.heap.size w w' := by
  have hlen := Lib.hid hs.len
  go_enter Try.func24, Try.ntmps24
  go_wp2_with (go_at_call 38; refine (grown_any hs hB 0 _ rfl (by omega)).mono ?_; rintro e w1 ⟨rfl, hb1, hw1⟩)
  go_ret
  have hsz := hw1.size
  have hlt := hb1.lt
  have e0 : l ++ List.replicate 0 0 = l := by simp
  rw [e0] at hb1
  have hs1 : SlB w1 w1.heap.size (some ⟨w.heap.size, 0, none⟩) n n l := by
    have := hb1.sl (B := w1.heap.size) hlt (by rw [hlen.out]; exact hs.le)
    rwa [hlen.out] at this
  refine ⟨w1.heap.size, hsz, rfl, ⟨_, n, n, 0, l, Bl.new w1 _ [_, _, _], hs1.below ((Below.refl _ _).alloc (Nat.le_refl _) _), Nat.zero_le _, rfl⟩, hw1.alloc hsz _⟩

/-- What a reader takes off, what is left, its error behind it. -/
def offT (l : List UInt8) (e n : Int) : List UInt8 := if e = 0 ∧ 0 ≤ n ∧ n ≤ l.length then l.take n.toNat else []
def offL (l : List UInt8) (e n : Int) : List UInt8 := if e = 0 ∧ 0 ≤ n ∧ n ≤ l.length then l.drop n.toNat else l
def offE (l : List UInt8) (e n : Int) : Int := if e = 0 then (if n < 0 then 2 else if n ≤ l.length then 0 else 7) else e

theorem cut_any {w : World} {g : Nat} {l : List UInt8} {e : Int} (h : Rd w g l e) (n : Int) (wn : -9223372036854775808 ≤ n ∧ n ≤ 9223372036854775807) :
    Calls Try.prog 39 #[rp g, .int .i64 n] w fun x w' =>
      ∃ A m c, x = .returned (.slice A m c) ∧ SlB w' g A m c (offT l e n) ∧ Rd w' g (offL l e n) (offE l e n) ∧ w.grownBy w' (some g) := by
  by_cases he : e = 0
  · subst he
    by_cases h1 : n < 0
    · obtain ⟨A, m, c, t, full, hb, hs, ht, hl⟩ := id h
      have hc2 := hb.cell 2
      simp only [List.getElem?_cons_succ, List.getElem?_cons_zero] at hc2
      have hf := hb.frozen 2
      have HB := Lib.hid hb
      have HL := Lib.hid hl
      clear hb hl
      unfold rp
      go_enter Try.func39, Try.ntmps39
      go_wp2_with (go_at_call 30; refine (err_any h).mono ?_; rintro x w' ⟨rfl, rfl⟩)
      go_ret
      have eE : offE l 0 n = 2 := by unfold offE; rw [if_pos rfl, if_pos h1]
      rw [eE]
      refine ⟨none, 0, 0, rfl, ?_, ⟨A, m, c, t, full, HB.out.set_ 2 _, hs.below ((Below.refl _ _).setCell (p := ⟨g, 2, none⟩) (Nat.le_refl _) _), ht, ?_⟩, only_set (p := ⟨g, 2, none⟩) (only_refl _ _) rfl _⟩
      · have : offT l 0 n = [] := by unfold offT; rw [if_neg (by omega)]
        rw [this]; exact SlB.nil_
      · unfold offL; rw [if_neg (by omega)]; exact HL.out
    · have hlen := h.len
      by_cases h2 : n ≤ l.length
      · obtain ⟨A, m, c, t, full, hb, hs, ht, hl⟩ := id h
        have hc0 := hb.cell 0
        have hc1 := hb.cell 1
        have hc2 := hb.cell 2
        simp only [List.getElem?_cons_succ, List.getElem?_cons_zero] at hc0 hc1 hc2
        have hf := hb.frozen 1
        have hmm := hs.le
        have hcc := hs.max
        have hmc := hs.cap
        unfold maxLen at hmm hcc
        have hfl := hs.len
        have hll : l.length = m - t := by rw [hl, List.length_drop, hfl]
        have h3 : (t : Int) + n ≤ m := by omega
        obtain ⟨k, rfl⟩ := Int.eq_ofNat_of_zero_le (show 0 ≤ n by omega)
        have HB := Lib.hid hb
        have HL := Lib.hid hl
        have HLL := Lib.hid hll
        have HF := Lib.hid hfl
        clear hb hl hll hfl
        unfold rp
        go_enter Try.func39, Try.ntmps39
        go_wp2_with (first | (go_at_call 30; refine (err_any h).mono ?_; rintro x w' ⟨rfl, rfl⟩) | (go_at_call 31; refine (left_any h).mono ?_; rintro x w' ⟨rfl, q, rfl⟩))
        go_quiet (fail)
        go_wp2
        all_goals go_ret
        all_goals
          have eE : offE l 0 k = 0 := by unfold offE; rw [if_pos rfl, if_neg (by omega), if_pos h2]
          have eL : offL l 0 k = l.drop k := by unfold offL; rw [if_pos (by omega)]; simp
          have eT : offT l 0 k = l.take k := by unfold offT; rw [if_pos (by omega)]; simp
          rw [eE, eL, eT]
          have hbw : Below g w (((w.drewN q).setCell ⟨g, 1, none⟩ (.int .i64 ((t : Int) + (k : Int)))).drewN nq) := below_drewN ((below_drewN (Below.refl _ _) q).setCell (p := ⟨g, 1, none⟩) (Nat.le_refl _) _) _
          have hR : Rd (((w.drewN q).setCell ⟨g, 1, none⟩ (.int .i64 ((t : Int) + (k : Int)))).drewN nq) g (l.drop k) 0 := by
            refine ⟨A, m, c, t + k, full, ?_, hs.below hbw, by omega, by rw [HL.out, List.drop_drop]⟩
            rw [show (((t + k : Nat)) : Int) = (t : Int) + (k : Int) by omega]
            exact Bl.set_ (w := w.drewN q) HB.out 1 _
          have hG : w.grownBy (((w.drewN q).setCell ⟨g, 1, none⟩ (.int .i64 ((t : Int) + (k : Int)))).drewN nq) (some g) := only_drewN (only_set (p := ⟨g, 1, none⟩) (only_drewN (only_refl _ _) q) rfl _) _
          have hS := (hs.below hbw).cut3 (t := t) (k := k) (by omega)
          rw [← HL.out] at hS
        · rename_i hk0
          obtain rfl : k = 0 := by omega
          exact ⟨A, 0, 0, rfl, SlB.zero_, hR, hG⟩
        · exact ⟨_, k, k, rfl, hS, hR, hG⟩
      · obtain ⟨A, m, c, t, full, hb, hs, ht, hl⟩ := id h
        have hc2 := hb.cell 2
        simp only [List.getElem?_cons_succ, List.getElem?_cons_zero] at hc2
        have hf := hb.frozen 2
        have h2' : (l.length : Int) < n := by omega
        have HB := Lib.hid hb
        have HL := Lib.hid hl
        clear hb hl
        unfold rp
        go_enter Try.func39, Try.ntmps39
        go_wp2_with (first | (go_at_call 30; refine (err_any h).mono ?_; rintro x w' ⟨rfl, rfl⟩) | (go_at_call 31; refine (left_any h).mono ?_; rintro x w' ⟨rfl, q, rfl⟩))
        go_ret
        have e7 : offE l 0 n = 7 := by unfold offE; rw [if_pos rfl, if_neg (by omega), if_neg (by omega)]
        have eL : offL l 0 n = l := by unfold offL; rw [if_neg (by omega)]
        have eT : offT l 0 n = [] := by unfold offT; rw [if_neg (by omega)]
        rw [e7, eL, eT]
        refine ⟨none, 0, 0, rfl, SlB.nil_, ⟨A, m, c, t, full, Bl.set_ (w := w.drewN q) HB.out 2 _, hs.below ((below_drewN (Below.refl _ _) q).setCell (p := ⟨g, 2, none⟩) (Nat.le_refl _) _), ht, HL.out⟩, only_set (p := ⟨g, 2, none⟩) (only_drewN (only_refl _ _) q) rfl _⟩
  · have hb : (e != 0) = true := by simpa using he
    go_enter Try.func39, Try.ntmps39
    go_wp2_with (go_at_call 30; refine (err_any h).mono ?_; rintro x w' ⟨rfl, rfl⟩)
    go_ret
    have eE : offE l e n = e := by unfold offE; rw [if_neg he]
    have eL : offL l e n = l := by unfold offL; rw [if_neg (by omega)]
    have eT : offT l e n = [] := by unfold offT; rw [if_neg (by omega)]
    rw [eE, eL, eT]
    exact ⟨none, 0, 0, rfl, SlB.nil_, h, only_refl _ _⟩

theorem cut_nil (n : Int) (w : World) : Calls Try.prog 39 #[.pointer none, .int .i64 n] w fun x w' => x = .returned (.slice none 0 0) ∧ w = w' := by
  go_enter Try.func39, Try.ntmps39
  go_wp2_with (go_at_call 30; refine (err_nil _).mono ?_; rintro x w' ⟨rfl, rfl⟩)
  go_ret
  exact ⟨rfl, rfl⟩

/-- The number that lies in bytes. -/
def num (l : List UInt8) : Nat := l.foldl (fun x b => x * 256 + b.toNat) 0
theorem num_snoc (l : List UInt8) (b : UInt8) : num (l ++ [b]) = num l * 256 + b.toNat := by simp [num]
theorem num_lt' : ∀ (l : List UInt8) (a : Nat), l.foldl (fun x b => x * 256 + b.toNat) a < (a + 1) * 256 ^ l.length
  | [], a => by simp
  | b :: l, a => by
    have h := num_lt' l (a * 256 + b.toNat)
    have hb := b.toNat_lt
    have h2 : (a * 256 + b.toNat + 1) * 256 ^ l.length ≤ ((a + 1) * 256) * 256 ^ l.length := Nat.mul_le_mul_right _ (by omega)
    simp only [List.foldl_cons, List.length_cons]
    rw [Nat.pow_succ', ← Nat.mul_assoc]
    omega
theorem num_lt (l : List UInt8) : num l < 256 ^ l.length := by
  have h := num_lt' l 0
  rw [Nat.zero_add, Nat.one_mul] at h
  exact h
theorem take_at (l : List UInt8) (k : Nat) (h : k < l.length) : l.take (k + 1) = l.take k ++ [l[k]] := by rw [List.take_succ_eq_append_getElem h]
theorem or_byte (x b : Nat) (hx : x < 72057594037927936) (hb : b < 256) : bits .or .u64 ((x : Int) * 256) (b : Int) = ((x * 256 + b : Nat) : Int) := by
  rw [show (x : Int) * 256 = ((x * 256 : Nat) : Int) by omega, u64_or_nat _ _ (by omega) (by omega), nat_join 8 _ _ (by omega) (by omega)]

theorem takeOff_u8 {w : World} {g : Nat} {l : List UInt8} {e : Int} (h : Rd w g l e) :
    Calls Try.prog 40 #[rp g] w fun x w' =>
      x = .returned (.int .u8 (num (offT l e 1) : Nat)) ∧ Rd w' g (offL l e 1) (offE l e 1) ∧ w.grownBy w' (some g) := by
  have hT : (offT l e 1).length ≤ 1 := by unfold offT; split <;> simp; omega
  go_enter Try.func40, Try.ntmps40
  go_wp2_with (first | (go_at_call 45; refine (width_u8 _).mono ?_; rintro x w' ⟨rfl, rfl⟩) | (go_at_call 39; refine (cut_any h _ (by omega)).mono ?_; rintro x w1 ⟨A, m, c, rfl, hS, hR, hG⟩))
  generalize hrr : offT l e 1 = r at *
  have HRR := Lib.hid hrr
  clear hrr
  have hlen := Lib.hid hS.len
  have hm := hS.le
  unfold maxLen at hm
  have hm8 : m ≤ 1 := by have := hlen.out; omega
  go_loop [3, 10] (fun x i => ∃ q : Nat, q ≤ m ∧ i = .int .i64 q ∧ x = .int .u64 (num (r.take q) : Nat)) (fun _ i => m - (intOf i).toNat)
  case atStart => exact ⟨0, Nat.zero_le _, rfl, by simp [num]⟩
  case round =>
    obtain ⟨q, hq, rfl, rfl⟩ := hrel
    have hlt2 := num_lt (r.take q)
    have hp : 256 ^ (r.take q).length ≤ 256 ^ 1 := Nat.pow_le_pow_right (by omega) (by have := hlen.out; simp; omega)
    by_cases hlt : q < m
    · have hqr : q < r.length := by rw [hlen.out]; exact hlt
      have hp1 : 256 ^ (r.take q).length ≤ 256 ^ 0 := Nat.pow_le_pow_right (by omega) (by have := hlen.out; simp; omega)
      have hx : num (r.take q) < 72057594037927936 := by omega
      have hb := r[q].toNat_lt
      have HJ := Lib.hid (or_byte (num (r.take q)) r[q].toNat hx hb)
      have HN : Hid (num (r.take (q + 1)) = num (r.take q) * 256 + r[q].toNat) := by rw [take_at r q hqr, num_snoc]; exact rfl
      clear hp hp1 hlt2
      obtain ⟨b, o, rfl, hbb, hc⟩ := hS.pos (by omega)
      have hcq := hc q hqr
      unfold bv at hcq
      clear hc
      go_wp2
      go_round
      case rel => exact ⟨q + 1, by omega, by go_num, by rw [HN.out, ← HJ.out]⟩
      case measure => simp [intOf]; omega
    · obtain rfl : q = m := by omega
      have hr : r.take q = r := List.take_of_length_le (by rw [hlen.out]; omega)
      have HR := Lib.hid hr
      clear hr
      go_wp2
      go_ret
      refine ⟨?_, hR, hG⟩
      show Ending.returned (.int .u8 (num (r.take q) : Nat)) = _
      rw [HR.out, HRR.out]

theorem takeOff_u8_nil (w : World) : Calls Try.prog 40 #[.pointer none] w fun x w' => x = .returned (.int .u8 0) ∧ w = w' := by
  go_enter Try.func40, Try.ntmps40
  go_wp2_with (first | (go_at_call 45; refine (width_u8 _).mono ?_; rintro x w' ⟨rfl, rfl⟩) | (go_at_call 39; refine (cut_nil _ _).mono ?_; rintro x w' ⟨rfl, rfl⟩))
  refine wp_loop_rounds 1 ?_
  rw [rounds_succ]
  go_wp2
  go_ret
  exact ⟨rfl, rfl⟩

theorem take_u8 {w : World} {g : Nat} {l : List UInt8} {e : Int} (h : Rd w g l e) :
    Calls Try.prog 27 #[rp g] w fun x w' =>
      x = .returned (.int .u8 (num (offT l e 1) : Nat)) ∧ Rd w' g (offL l e 1) (offE l e 1) ∧ w.grownBy w' (some g) := by
  go_enter Try.func27, Try.ntmps27
  go_wp2_with (go_at_call 40; refine (takeOff_u8 h).mono ?_; rintro x w1 ⟨rfl, hR, hG⟩)
  go_ret
  exact ⟨rfl, hR, hG⟩
theorem take_u8_nil (w : World) : Calls Try.prog 27 #[.pointer none] w fun x w' => x = .returned (.int .u8 0) ∧ w = w' := by
  go_enter Try.func27, Try.ntmps27
  go_wp2_with (go_at_call 40; refine (takeOff_u8_nil _).mono ?_; rintro x w' ⟨rfl, rfl⟩)
  go_ret
  exact ⟨rfl, rfl⟩

theorem takeOff_u16 {w : World} {g : Nat} {l : List UInt8} {e : Int} (h : Rd w g l e) :
    Calls Try.prog 42 #[rp g] w fun x w' =>
      x = .returned (.int .u16 (num (offT l e 2) : Nat)) ∧ Rd w' g (offL l e 2) (offE l e 2) ∧ w.grownBy w' (some g) := by
  have hT : (offT l e 2).length ≤ 2 := by unfold offT; split <;> simp; omega
  go_enter Try.func42, Try.ntmps42
  go_wp2_with (first | (go_at_call 47; refine (width_u16 _).mono ?_; rintro x w' ⟨rfl, rfl⟩) | (go_at_call 39; refine (cut_any h _ (by omega)).mono ?_; rintro x w1 ⟨A, m, c, rfl, hS, hR, hG⟩))
  generalize hrr : offT l e 2 = r at *
  have HRR := Lib.hid hrr
  clear hrr
  have hlen := Lib.hid hS.len
  have hm := hS.le
  unfold maxLen at hm
  have hm8 : m ≤ 2 := by have := hlen.out; omega
  go_loop [3, 10] (fun x i => ∃ q : Nat, q ≤ m ∧ i = .int .i64 q ∧ x = .int .u64 (num (r.take q) : Nat)) (fun _ i => m - (intOf i).toNat)
  case atStart => exact ⟨0, Nat.zero_le _, rfl, by simp [num]⟩
  case round =>
    obtain ⟨q, hq, rfl, rfl⟩ := hrel
    have hlt2 := num_lt (r.take q)
    have hp : 256 ^ (r.take q).length ≤ 256 ^ 2 := Nat.pow_le_pow_right (by omega) (by have := hlen.out; simp; omega)
    by_cases hlt : q < m
    · have hqr : q < r.length := by rw [hlen.out]; exact hlt
      have hp1 : 256 ^ (r.take q).length ≤ 256 ^ 1 := Nat.pow_le_pow_right (by omega) (by have := hlen.out; simp; omega)
      have hx : num (r.take q) < 72057594037927936 := by omega
      have hb := r[q].toNat_lt
      have HJ := Lib.hid (or_byte (num (r.take q)) r[q].toNat hx hb)
      have HN : Hid (num (r.take (q + 1)) = num (r.take q) * 256 + r[q].toNat) := by rw [take_at r q hqr, num_snoc]; exact rfl
      clear hp hp1 hlt2
      obtain ⟨b, o, rfl, hbb, hc⟩ := hS.pos (by omega)
      have hcq := hc q hqr
      unfold bv at hcq
      clear hc
      go_wp2
      go_round
      case rel => exact ⟨q + 1, by omega, by go_num, by rw [HN.out, ← HJ.out]⟩
      case measure => simp [intOf]; omega
    · obtain rfl : q = m := by omega
      have hr : r.take q = r := List.take_of_length_le (by rw [hlen.out]; omega)
      have HR := Lib.hid hr
      clear hr
      go_wp2
      go_ret
      refine ⟨?_, hR, hG⟩
      show Ending.returned (.int .u16 (num (r.take q) : Nat)) = _
      rw [HR.out, HRR.out]

theorem takeOff_u16_nil (w : World) : Calls Try.prog 42 #[.pointer none] w fun x w' => x = .returned (.int .u16 0) ∧ w = w' := by
  go_enter Try.func42, Try.ntmps42
  go_wp2_with (first | (go_at_call 47; refine (width_u16 _).mono ?_; rintro x w' ⟨rfl, rfl⟩) | (go_at_call 39; refine (cut_nil _ _).mono ?_; rintro x w' ⟨rfl, rfl⟩))
  refine wp_loop_rounds 1 ?_
  rw [rounds_succ]
  go_wp2
  go_ret
  exact ⟨rfl, rfl⟩

theorem take_u16 {w : World} {g : Nat} {l : List UInt8} {e : Int} (h : Rd w g l e) :
    Calls Try.prog 29 #[rp g] w fun x w' =>
      x = .returned (.int .u16 (num (offT l e 2) : Nat)) ∧ Rd w' g (offL l e 2) (offE l e 2) ∧ w.grownBy w' (some g) := by
  go_enter Try.func29, Try.ntmps29
  go_wp2_with (go_at_call 42; refine (takeOff_u16 h).mono ?_; rintro x w1 ⟨rfl, hR, hG⟩)
  go_ret
  exact ⟨rfl, hR, hG⟩
theorem take_u16_nil (w : World) : Calls Try.prog 29 #[.pointer none] w fun x w' => x = .returned (.int .u16 0) ∧ w = w' := by
  go_enter Try.func29, Try.ntmps29
  go_wp2_with (go_at_call 42; refine (takeOff_u16_nil _).mono ?_; rintro x w' ⟨rfl, rfl⟩)
  go_ret
  exact ⟨rfl, rfl⟩

theorem takeOff_u32 {w : World} {g : Nat} {l : List UInt8} {e : Int} (h : Rd w g l e) :
    Calls Try.prog 41 #[rp g] w fun x w' =>
      x = .returned (.int .u32 (num (offT l e 4) : Nat)) ∧ Rd w' g (offL l e 4) (offE l e 4) ∧ w.grownBy w' (some g) := by
  have hT : (offT l e 4).length ≤ 4 := by unfold offT; split <;> simp; omega
  go_enter Try.func41, Try.ntmps41
  go_wp2_with (first | (go_at_call 46; refine (width_u32 _).mono ?_; rintro x w' ⟨rfl, rfl⟩) | (go_at_call 39; refine (cut_any h _ (by omega)).mono ?_; rintro x w1 ⟨A, m, c, rfl, hS, hR, hG⟩))
  generalize hrr : offT l e 4 = r at *
  have HRR := Lib.hid hrr
  clear hrr
  have hlen := Lib.hid hS.len
  have hm := hS.le
  unfold maxLen at hm
  have hm8 : m ≤ 4 := by have := hlen.out; omega
  go_loop [3, 10] (fun x i => ∃ q : Nat, q ≤ m ∧ i = .int .i64 q ∧ x = .int .u64 (num (r.take q) : Nat)) (fun _ i => m - (intOf i).toNat)
  case atStart => exact ⟨0, Nat.zero_le _, rfl, by simp [num]⟩
  case round =>
    obtain ⟨q, hq, rfl, rfl⟩ := hrel
    have hlt2 := num_lt (r.take q)
    have hp : 256 ^ (r.take q).length ≤ 256 ^ 4 := Nat.pow_le_pow_right (by omega) (by have := hlen.out; simp; omega)
    by_cases hlt : q < m
    · have hqr : q < r.length := by rw [hlen.out]; exact hlt
      have hp1 : 256 ^ (r.take q).length ≤ 256 ^ 3 := Nat.pow_le_pow_right (by omega) (by have := hlen.out; simp; omega)
      have hx : num (r.take q) < 72057594037927936 := by omega
      have hb := r[q].toNat_lt
      have HJ := Lib.hid (or_byte (num (r.take q)) r[q].toNat hx hb)
      have HN : Hid (num (r.take (q + 1)) = num (r.take q) * 256 + r[q].toNat) := by rw [take_at r q hqr, num_snoc]; exact rfl
      clear hp hp1 hlt2
      obtain ⟨b, o, rfl, hbb, hc⟩ := hS.pos (by omega)
      have hcq := hc q hqr
      unfold bv at hcq
      clear hc
      go_wp2
      go_round
      case rel => exact ⟨q + 1, by omega, by go_num, by rw [HN.out, ← HJ.out]⟩
      case measure => simp [intOf]; omega
    · obtain rfl : q = m := by omega
      have hr : r.take q = r := List.take_of_length_le (by rw [hlen.out]; omega)
      have HR := Lib.hid hr
      clear hr
      go_wp2
      go_ret
      refine ⟨?_, hR, hG⟩
      show Ending.returned (.int .u32 (num (r.take q) : Nat)) = _
      rw [HR.out, HRR.out]

theorem takeOff_u32_nil (w : World) : Calls Try.prog 41 #[.pointer none] w fun x w' => x = .returned (.int .u32 0) ∧ w = w' := by
  go_enter Try.func41, Try.ntmps41
  go_wp2_with (first | (go_at_call 46; refine (width_u32 _).mono ?_; rintro x w' ⟨rfl, rfl⟩) | (go_at_call 39; refine (cut_nil _ _).mono ?_; rintro x w' ⟨rfl, rfl⟩))
  refine wp_loop_rounds 1 ?_
  rw [rounds_succ]
  go_wp2
  go_ret
  exact ⟨rfl, rfl⟩

theorem take_u32 {w : World} {g : Nat} {l : List UInt8} {e : Int} (h : Rd w g l e) :
    Calls Try.prog 28 #[rp g] w fun x w' =>
      x = .returned (.int .u32 (num (offT l e 4) : Nat)) ∧ Rd w' g (offL l e 4) (offE l e 4) ∧ w.grownBy w' (some g) := by
  go_enter Try.func28, Try.ntmps28
  go_wp2_with (go_at_call 41; refine (takeOff_u32 h).mono ?_; rintro x w1 ⟨rfl, hR, hG⟩)
  go_ret
  exact ⟨rfl, hR, hG⟩
theorem take_u32_nil (w : World) : Calls Try.prog 28 #[.pointer none] w fun x w' => x = .returned (.int .u32 0) ∧ w = w' := by
  go_enter Try.func28, Try.ntmps28
  go_wp2_with (go_at_call 41; refine (takeOff_u32_nil _).mono ?_; rintro x w' ⟨rfl, rfl⟩)
  go_ret
  exact ⟨rfl, rfl⟩

theorem raw_any {w : World} {g : Nat} {l : List UInt8} {e : Int} (h : Rd w g l e) (n : Int) (wn : -9223372036854775808 ≤ n ∧ n ≤ 9223372036854775807) (hl : l.length ≤ 140737488355320) :
    Calls Try.prog 26 #[rp g, .int .i64 n] w fun x w' =>
      ∃ b, w.heap.size ≤ b ∧ x = .returned (.slice (some ⟨b, 0, none⟩) (offT l e n).length (offT l e n).length) ∧ Bl w' b 5 (bvs (offT l e n)) ∧ Rd w' g (offL l e n) (offE l e n) ∧ w.grownBy w' (some g) := by
  have hT : (offT l e n).length ≤ 140737488355320 := by unfold offT; split <;> simp; omega
  go_enter Try.func26, Try.ntmps26
  go_wp2_with fail
  refine (cut_any h n wn).mono ?_
  rintro x w1 ⟨A, m, c, rfl, hS, hR, hG⟩
  have hlen := Lib.hid hS.len
  have hlt := hR.lt
  have hm : m ≤ 140737488355320 := by rw [← hlen.out]; exact hT
  clear hT
  generalize hrr : offT l e n = r at *
  have HRR := Lib.hid hrr
  clear hrr
  go_wp2_with fail
  refine (grown_any (hS.more (Nat.le_of_lt hlt)) (Nat.le_refl _) 0 _ rfl (by omega)).mono ?_
  rintro x w2 ⟨rfl, hb2, hw2⟩
  go_wp2_with fail
  go_ret
  rw [HRR.out]
  refine ⟨w1.heap.size, hG.size, ?_, by simpa using hb2, hR.below hw2 hlt, only_trans hG (only_of_below hw2 _)⟩
  show Ending.returned (.slice (some ⟨w1.heap.size, 0, none⟩) (m + 0) (m + 0)) = _
  rw [hlen.out]
  rfl
theorem raw_nil (n : Int) (w : World) : Calls Try.prog 26 #[.pointer none, .int .i64 n] w fun x w' =>
    ∃ b, w.heap.size ≤ b ∧ x = .returned (.slice (some ⟨b, 0, none⟩) 0 0) ∧ Below w.heap.size w w' := by
  go_enter Try.func26, Try.ntmps26
  go_wp2_with (first | (go_at_call 39; refine (cut_nil _ _).mono ?_; rintro x w' ⟨rfl, rfl⟩) | (go_at_call 38; refine (grown_any (B := w.heap.size) SlB.nil_ (Nat.le_refl _) 0 _ rfl (by omega)).mono ?_; rintro e w1 ⟨rfl, hb1, hw1⟩))
  go_ret
  exact ⟨_, Nat.le_refl _, rfl, hw1⟩

end Go.Proofs.Ythionkcnmkhopaa
