/-
  The document's own answer (confluenceref01): Number; a slice without its first bytes; a slice of pairs that came in.
-/
import Derived.Test.YthionkcnmkhopaaHigh
import Derived.Deep.SlicePairs
namespace Go.Proofs.Ythionkcnmkhopaa
set_option linter.unusedVariables false
open Go.RowKit Go.WideShapes Go.ChangeShapes

def w64 (n : Nat) : Nat := n % 18446744073709551616
theorem num_drop (l : List UInt8) (i : Nat) (h : i < l.length) : num (l.drop i) = l[i].toNat * 256 ^ (l.length - (i + 1)) + num (l.drop (i + 1)) := by
  rw [List.drop_eq_getElem_cons h, num_cons, List.length_drop]
theorem wrap_w64 (n : Nat) : IntKind.u64.wrap (n : Int) = ((w64 n : Nat) : Int) := by rw [IntKind.wrap_u64]; unfold w64; omega
theorem step_num (x wt b X W : Nat) (hx : x = w64 X) (hw : wt = w64 W) : w64 (x + w64 (wt * b)) = w64 (b * W + X) := by
  subst hx hw
  unfold w64
  rw [Nat.mul_comm b W]
  simp [Nat.add_mod, Nat.mul_mod, Nat.add_comm]

theorem number_any {A : Option Addr} {n c : Nat} {l : List UInt8} {w : World} {B : Nat} (h : SlB w B A n c l) :
    Calls Try.prog 32 #[.slice A n c] w fun e w' => e = .returned (.int .u64 (w64 (num l) : Nat)) ∧ w = w' := by
  have hlen := Lib.hid h.len
  have hm := h.le
  unfold maxLen at hm
  go_enter Try.func32, Try.ntmps32
  go_wp2
  go_loop [3, 4, 5] (fun x wt i => ∃ q xv wv : Nat, q ≤ n ∧ i = .int .i64 q ∧ x = .int .u64 (xv : Nat) ∧ wt = .int .u64 (wv : Nat) ∧ Hid (xv = w64 (num (l.drop q))) ∧ Hid (wv = w64 (256 ^ (n - q)))) (fun _ _ i => (intOf i).toNat)
  case atStart => exact ⟨n, 0, 1, Nat.le_refl _, rfl, rfl, rfl, by rw [List.drop_of_length_le (by rw [hlen.out]; exact Nat.le_refl _)]; rfl, by rw [Nat.sub_self]; rfl⟩
  case round =>
    obtain ⟨q, xv, wv, hq, rfl, rfl, rfl, hx, hw⟩ := hrel
    by_cases h0 : q = 0
    · subst h0
      go_wp2
      go_ret
      refine ⟨?_, rfl⟩
      have := hx.out
      rw [List.drop_zero] at this
      rw [← this]
      rfl
    · obtain ⟨q, rfl⟩ : ∃ q', q = q' + 1 := ⟨q - 1, by omega⟩
      have hql : q < l.length := by rw [hlen.out]; omega
      obtain ⟨b, o, rfl, hbb, hc⟩ := h.pos (by omega)
      have hcq := hc q hql
      unfold bv at hcq
      clear hc h0
      have hby := l[q].toNat_lt
      have HN : Hid (w64 (xv + w64 (wv * l[q].toNat)) = w64 (num (l.drop q))) := by
        have : w64 (xv + w64 (wv * l[q].toNat)) = w64 (num (l.drop q)) := by
          rw [step_num _ _ _ _ _ hx.out hw.out, num_drop l q hql, hlen.out]
        exact this
      have HW : Hid (w64 (wv * 256) = w64 (256 ^ (n - q))) := by
        have : w64 (wv * 256) = w64 (256 ^ (n - q)) := by
          rw [hw.out, show n - q = (n - (q + 1)) + 1 by omega, Nat.pow_succ]
          unfold w64
          simp [Nat.mul_mod]
        exact this
      go_wp2
      go_round
      case rel =>
        refine ⟨q, w64 (xv + w64 (wv * l[q].toNat)), w64 (wv * 256), by omega, rfl, ?_, ?_, HN, HW⟩
        · rw [← Int.natCast_mul, wrap_w64, ← Int.natCast_add, wrap_w64]
        · rw [show ((wv : Int) * 256) = ((wv * 256 : Nat) : Int) by omega, wrap_w64]
      case measure => simp [intOf]

/-- A slice without its first k bytes. -/
theorem SlB.cut2 {w : World} {B n c : Nat} {A : Option Addr} {l : List UInt8} (h : SlB w B A n c l) {k : Nat} (hk : k ≤ n) (hc : c ≠ k) : SlB w B (A.map fun x => x.add k) (n - k) (c - k) (l.drop k) := by
  have hcap := h.cap
  have hmax := h.max
  refine ⟨by rw [List.length_drop, h.len], by omega, by omega, fun e => ?_, fun h0 => ?_⟩
  · have := h.non (by simpa using e)
    omega
  · obtain ⟨b, o, rfl, hb, hcell⟩ := h.pos (by omega)
    refine ⟨b, o + k, by simp [addr_add], hb, fun j hj => ?_⟩
    rw [List.length_drop] at hj
    rw [List.getElem_drop, Nat.add_assoc]
    exact hcell (k + j) (by omega)

/-- THE SLICE '.slice A n c' HOLDS THE PAIRS ps (structs of two ints), in blocks below B. -/
structure SlP (w : World) (B : Nat) (A : Option Addr) (n c : Nat) (ps : List (Int × Int)) : Prop where
  len : ps.length = n
  cap : n ≤ c
  max : c ≤ maxLen
  rng : ∀ q ∈ ps, (-9223372036854775808 ≤ q.1 ∧ q.1 ≤ 9223372036854775807) ∧ (-9223372036854775808 ≤ q.2 ∧ q.2 ≤ 9223372036854775807)
  pos : 0 < n → ∃ b o, A = some ⟨b, o, none⟩ ∧ b < B ∧ ∀ j (h : j < ps.length), w.cell? ⟨b, o + j * 2, none⟩ = some (.int .i64 ps[j].1) ∧ w.cell? ⟨b, o + j * 2 + 1, none⟩ = some (.int .i64 ps[j].2)
theorem SlP.nil_ {w : World} {B : Nat} : SlP w B none 0 0 [] := ⟨rfl, Nat.le_refl _, Nat.zero_le _, by simp, fun h => absurd h (by omega)⟩
theorem slp_arg {W : World} {x : Addr} {len cap m : Nat} {V0 V1 : Nat → Value} (hl : len ≤ cap) (hm : cap ≤ maxLen) (hml : len ≤ m)
    (hcell : ∀ i, i < m → W.cell? (x.add (i * 2)) = some (V0 i) ∧ W.cell? (x.add (i * 2 + 1)) = some (V1 i) ∧ (∃ n, V0 i = .int .i64 n ∧ (Lit.int .i64 n).wf = true) ∧ ∃ n, V1 i = .int .i64 n ∧ (Lit.int .i64 n).wf = true) :
    ∃ ps, SlP W W.heap.size (some x) len cap ps := by
  refine ⟨(List.range len).map fun i => (intOf (V0 i), intOf (V1 i)), by simp, hl, hm, fun q hq => ?_, fun h0 => ?_⟩
  · simp only [List.mem_map, List.mem_range] at hq
    obtain ⟨i, hi, rfl⟩ := hq
    obtain ⟨_, _, ⟨n0, e0, w0⟩, n1, e1, w1⟩ := hcell i (by omega)
    rw [e0, e1]
    exact ⟨bounds_i64 w0, bounds_i64 w1⟩
  · obtain ⟨b, o, s⟩ := x
    have hc := (hcell 0 (by omega)).1
    have hs : s = none := by simpa [Addr.add] using World.cell?_spot hc
    subst hs
    refine ⟨b, o, rfl, by have := World.block_lt_of_cell? W _ hc; rw [addr_add] at this; exact this, fun j hj => ?_⟩
    simp only [List.length_map, List.length_range] at hj
    obtain ⟨h1, h2, ⟨n0, e0, _⟩, n1, e1, _⟩ := hcell j (by omega)
    rw [addr_add] at h1 h2
    simp only [List.getElem_map, List.getElem_range]
    rw [h1, e0, Nat.add_assoc, h2, e1]
    exact ⟨rfl, rfl⟩

/-! ### what a reader does, by the numbers of the document's answer -/
def em (e : Int) : Int := if e = 0 then 0 else if e = 1 then 2 else 7
def okE (e : Int) : Prop := e = 0 ∨ e = 1 ∨ e = 2
def tookN (t : Nat) (e n : Int) : Nat := if e = 0 ∧ 0 ≤ n ∧ n ≤ t then n.toNat else 0
def nextE (t : Nat) (e n : Int) : Int := if e = 0 then (if n < 0 then 1 else if n ≤ t then 0 else 2) else e
theorem took_le (t : Nat) (e n : Int) : tookN t e n ≤ t := by unfold tookN; split <;> omega
theorem nextE_ok {t : Nat} {e n : Int} (h : okE e) : okE (nextE t e n) := by
  unfold nextE okE at *
  split
  · split
    · omega
    · split <;> omega
  · exact h
theorem off_lst (l : List UInt8) (e n : Int) (h : okE e) : offT l (em e) n = l.take (tookN l.length e n) ∧ offL l (em e) n = l.drop (tookN l.length e n) ∧ offE l (em e) n = em (nextE l.length e n) := by
  have hem : em e = 0 ↔ e = 0 := by
    rcases h with rfl | rfl | rfl <;> decide
  by_cases h0 : e = 0 ∧ 0 ≤ n ∧ n ≤ l.length
  · have h1 : em e = 0 ∧ 0 ≤ n ∧ n ≤ l.length := ⟨hem.2 h0.1, h0.2⟩
    refine ⟨?_, ?_, ?_⟩
    · unfold offT tookN; rw [if_pos h1, if_pos h0]
    · unfold offL tookN; rw [if_pos h1, if_pos h0]
    · unfold offE nextE; rw [if_pos h1.1, if_pos h0.1, if_neg (by omega), if_pos h0.2.2, if_neg (by omega), if_pos h0.2.2]; rfl
  · have h1 : ¬ (em e = 0 ∧ 0 ≤ n ∧ n ≤ l.length) := by rw [hem]; exact h0
    refine ⟨?_, ?_, ?_⟩
    · unfold offT tookN; rw [if_neg h1, if_neg h0]; rfl
    · unfold offL tookN; rw [if_neg h1, if_neg h0]; rfl
    · unfold offE nextE
      rcases h with rfl | rfl | rfl
      · rw [if_pos (by decide), if_pos rfl]
        by_cases hn : n < 0
        · rw [if_pos hn, if_pos hn]; rfl
        · rw [if_neg hn, if_neg hn, if_neg (by omega), if_neg (by omega)]; rfl
      · rfl
      · rfl
theorem left_quiet {w : World} {g : Nat} {l : List UInt8} {e : Int} (h : Rd w g l e) (n : Nat) : Calls Try.prog 31 #[rp g] (w.drewN n) fun x w' => x = .returned (.int .i64 l.length) ∧ ∃ m, w' = w.drewN m :=
  (left_any (h.drewN n)).mono fun _ _ ⟨h1, k, h2⟩ => ⟨h1, n + k, by rw [h2, World.drewN_drewN]⟩
theorem err_quiet {w : World} {g : Nat} {l : List UInt8} {e : Int} (h : Rd w g l e) (n : Nat) : Calls Try.prog 30 #[rp g] (w.drewN n) fun x w' => x = .returned (.int .i64 e) ∧ ∃ m, w' = w.drewN m :=
  (err_any (h.drewN n)).mono fun _ _ ⟨h1, h2⟩ => ⟨h1, n, h2.symm⟩
theorem read_keep {A : Option Addr} {n c : Nat} {l : List UInt8} {w : World} {B : Nat} (hs : SlB w B A n c l) (hB : B ≤ w.heap.size) (hn : n ≤ 140737488355320) :
    Calls Try.prog 24 #[.slice A n c] w fun x w' => ∃ g, w.heap.size ≤ g ∧ x = .returned (rp g) ∧ g < w'.heap.size ∧
      (∀ W : World, (∀ k, w.heap.size ≤ k → k < w'.heap.size → W.heap[k]? = w'.heap[k]?) → Rd W g l 0) ∧ Below w.heap.size w w' := by
  have hlen := Lib.hid hs.len
  go_enter Try.func24, Try.ntmps24
  go_wp2_with (go_at_call 38; refine (grown_any hs hB 0 _ rfl (by omega)).mono ?_; rintro e w1 ⟨rfl, hb1, hw1⟩)
  go_ret
  have hsz := hw1.size
  have hlt := hb1.lt
  have e0 : l ++ List.replicate 0 0 = l := by simp
  rw [e0] at hb1
  have hgN := Bl.new w1 66 [.slice (some ⟨w.heap.size, 0, none⟩) n n, .int .i64 (0 : Nat), .int .i64 0]
  refine ⟨w1.heap.size, hsz, rfl, by simp, fun W hW => ⟨some ⟨w.heap.size, 0, none⟩, n, n, 0, l, (hW _ hsz (by simp)).trans hgN, ?_, Nat.zero_le _, rfl⟩, hw1.alloc hsz _⟩
  have hb2 : Bl W w.heap.size 5 (bvs l) := (hW _ (Nat.le_refl _) (by simp; omega)).trans (hb1.alloc _)
  have := hb2.sl (B := w1.heap.size) hlt (by rw [hlen.out]; exact hs.le)
  rwa [hlen.out] at this
theorem xor_byte (b : UInt8) : bits .xor .u8 (b.toNat : Int) 85 = ((b ^^^ 85).toNat : Int) := by
  have h := u8_xor_nat b.toNat 85 b.toNat_lt (by decide)
  rw [UInt8.toNat_xor]
  exact h
theorem kind_range (k0 : Int) : 0 ≤ wrap64 ((IntKind.u64.wrap k0).tmod 5) ∧ wrap64 ((IntKind.u64.wrap k0).tmod 5) ≤ 4 := by
  have h0 : 0 ≤ IntKind.u64.wrap k0 := by rw [IntKind.wrap_u64]; omega
  generalize IntKind.u64.wrap k0 = U at *
  rw [Int.tmod_eq_emod_of_nonneg h0, IntWalk.wrap64_in _ (by omega)]
  omega
theorem took_le' (t : Nat) (e n : Int) : tookN t e n ≤ n.toNat := by unfold tookN; split <;> omega
theorem w64_small (n : Nat) (h : n < 18446744073709551616) : w64 n = n := Nat.mod_eq_of_lt h
theorem only_new {a b c : World} {g b8 : Nat} (h : a.grownBy b (some g)) (k : b.grownBy c (some b8)) (hb : a.heap.size ≤ b8) : a.grownBy c (some g) :=
  ⟨k.os.trans h.os, k.tape.trans h.tape, k.output.trans h.output, Nat.le_trans h.size k.size, fun i hi hn => (k.block i (Nat.lt_of_lt_of_le hi h.size) (by simp; omega)).trans (h.block i hi hn)⟩
end Go.Proofs.Ythionkcnmkhopaa
