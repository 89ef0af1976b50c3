/-
  THE DOCUMENT'S WORDS BY ROOTS.
-/
import Derived.Test.YtgjkahoblopddaaDoorRoot3
namespace Go.Proofs.YtgjkahoblopddaaDoor
set_option linter.unusedVariables false
set_option linter.unusedSimpArgs false
open Go.RowKit Go.WideShapes Go.ChangeShapes

/-- How many primes there are below a number (from 2 on). -/
def cnt : Nat → Nat
  | 0 => 0
  | q + 1 => cnt q + (if 2 ≤ q && primeM q then 1 else 0)
theorem cnt_mono {a b : Nat} (h : a ≤ b) : cnt a ≤ cnt b := by
  induction h with
  | refl => exact Nat.le_refl _
  | step _ ih => exact Nat.le_trans ih (Nat.le_add_right _ _)
/-- The first words by the k-th roots are these. -/
structure Ro (k N P : Nat) (ws : List UInt32) : Prop where
  len : ws.length = N
  all : cnt P = N
  val : ∀ q, q < P → 2 ≤ q → primeM q = true → rootM q k = (ws.getD (cnt q) 0).toNat
  P1 : P ≤ 400
  P2 : 2 ≤ P
  k3 : k ≤ 3
def chkR (k : Nat) (ws : List UInt32) (P : Nat) : Bool := (List.range P).all fun q => !(decide (2 ≤ q) && primeM q) || rootM q k == (ws.getD (cnt q) 0).toNat
theorem chkR_val {k P : Nat} {ws : List UInt32} (h : chkR k ws P = true) : ∀ q, q < P → 2 ≤ q → primeM q = true → rootM q k = (ws.getD (cnt q) 0).toNat := fun q hq h2 hp => by
  have := List.all_eq_true.1 h q (List.mem_range.2 hq)
  simp only [h2, hp, decide_true, Bool.and_true, Bool.not_true, Bool.false_or] at this
  exact eq_of_beq this
set_option maxRecDepth 100000 in
theorem ro_cubes : Ro 3 64 312 ksW := ⟨rfl, by decide +kernel, chkR_val (by decide +kernel), by omega, by omega, by omega⟩
set_option maxRecDepth 100000 in
theorem ro_squares : Ro 2 8 20 startW.list := ⟨rfl, by decide +kernel, chkR_val (by decide +kernel), by omega, by omega, by omega⟩

set_option maxRecDepth 100000 in
set_option maxHeartbeats 2400000 in
theorem words_any {k N P : Nat} {ws : List UInt32} (H : Ro k N P ws) (hN : N ≤ 64) (n : Nat) (hn : n ≤ N) (I K : Int) (hI : I = (n : Int)) (hK : K = (k : Int)) (w : World) :
    Calls Tryd.prog 22 #[.int .i64 I, .int .i64 K] w fun e w' => ∃ v, e = .returned v ∧ w'.ownsRow w.heap.size 30 1 v n (wvs (ws.take n)) ∧ Below w.heap.size w w' := by
  subst hI hK
  have HH := Lib.hid H
  have hP4 := H.P1
  have hn0 : (0 : Int) ≤ (n : Int) := Int.natCast_nonneg _
  clear H
  go_enter Tryd.func22, Tryd.ntmps22
  go_wp2_with fail
  go_loopw [5, 6] (fun row pv wr => ∃ j q : Nat, j ≤ n ∧ pv = .int .u64 (q : Int) ∧ 2 ≤ q ∧ q ≤ P ∧ Hid (j = cnt q) ∧ (∃ A c, row = .slice A j c) ∧ Hid (wr.ownsRow w.heap.size 30 1 row j (wvs (ws.take j))) ∧ Hid (Below w.heap.size w wr)) (fun _ pv _ => 400 - (intOf pv).toNat)
  case atStart => exact ⟨0, 2, Nat.zero_le _, rfl, by omega, HH.out.P2, Lib.hid (by decide), ⟨none, 0, rfl⟩, Lib.hid (World.ownsRow_nil _ _ _ _), Lib.hid (Below.refl _ _)⟩
  case round =>
    obtain ⟨j, q, hj, rfl, hq2, hqP, hC, ⟨A, c, rfl⟩, hO, hB⟩ := hrel
    have hq0 : (0 : Int) ≤ (q : Int) := Int.natCast_nonneg _
    have hq4 : (q : Int) ≤ 400 := by omega
    have hj0 : (0 : Int) ≤ (j : Int) := Int.natCast_nonneg _
    by_cases hlt : j < n
    · have hd : decide ((j : Int) < (n : Int)) = true := by simp; omega
      have hdn : decide (j < n) = true := by simp; omega
      have hj1 : (j : Int) < (n : Int) := by omega
      have hqlt : q < P := Nat.lt_of_le_of_ne hqP fun e => by have h1 := HH.out.all; have h2 := hC.out; rw [e] at h2; omega
      have HPR := Lib.hid (prime_any q (by omega) (q : Int) rfl wr)
      obtain ⟨pr, hpr⟩ : ∃ pr, primeM q = pr := ⟨_, rfl⟩
      have HC1 : Hid (cnt (q + 1) = j + (if pr then 1 else 0)) := Lib.hid (by unfold cnt; rw [hpr, ← hC.out]; simp [hq2])
      have HV : Hid (pr = true → rootM q k = (ws.getD j 0).toNat) := Lib.hid (fun h => by rw [hC.out]; exact HH.out.val q hqlt hq2 (hpr.trans h))
      have HRT := Lib.hid (root_any q k (by omega) HH.out.k3 (q : Int) (k : Int) rfl rfl wr)
      rw [hpr] at HPR
      clear hpr hC
      cases pr with
      | true =>
        obtain ⟨y, hy⟩ : ∃ y, ws.getD j 0 = y := ⟨_, rfl⟩
        have hv := HV.out rfl
        rw [hy] at hv
        rw [hv] at HRT
        have HST : Hid (ws.take j ++ [y] = ws.take (j + 1)) := Lib.hid (by
          have hjl : j < ws.length := by rw [HH.out.len]; omega
          rw [List.take_succ_eq_append_getElem hjl, ← hy, List.getD_eq_getElem?_getD, List.getElem?_eq_getElem hjl]
          rfl)
        clear hv hy HV
        go_wp2_with fail
        refine (HPR.out).mono ?_
        rintro e w1 ⟨rfl, rfl⟩
        go_wp2_with fail
        refine (HRT.out).mono ?_
        rintro e w1 ⟨rfl, hb1⟩
        have B1 := Lib.hid (hB.out.trans (hb1.mono hB.out.size))
        have O1 : Hid (w1.ownsRow w.heap.size 30 1 (.slice A j c) j (wvs (ws.take j))) := Lib.hid (hO.out.kept (w' := w1) (row := none) ⟨hb1.os, hb1.tape, hb1.output, hb1.size, fun g hg _ => hb1.block g (by omega)⟩ (by cases hv : Value.ownBlock (.slice A j c) <;> simp))
        have HOW := Lib.hid (O1.out.alloc (.cells #[wv y] 30))
        have HBB := Lib.hid (B1.out.alloc B1.out.size (.cells #[wv y] 30))
        have HNC : Hid ((w1.alloc (.cells #[wv y] 30)).cell? ⟨w1.heap.size, 0, none⟩ = some (wv y)) := Lib.hid (Bl.cell (Bl.new w1 30 [wv y]) 0)
        clear hb1 hO hB
        go_wp2_with (at_builtin; with_reducible refine wpList_word rfl (.tmp 15) (.tmp 19) rfl w.heap.size (.slice A j c) j (ws.take j) rfl HOW.out ⟨w1.heap.size, 0, none⟩ y rfl HNC.out (by omega) HBB.out.size ?_; intro v5 w5 ho5 hg5)
        have hfm := ho5.form (by omega)
        obtain ⟨g5, c5, rfl, hg6⟩ := hfm
        go_wp2_with fail
        go_roundw
        case rel => exact ⟨j + 1, q + 1, by omega, by go_num, by omega, by omega, Lib.hid (by rw [HC1.out]; rfl), ⟨_, _, rfl⟩, Lib.hid (by rw [← HST.out]; exact ho5), Lib.hid (HBB.out.grown hg5 HBB.out.size (fun q hq => (HOW.out.lt q hq).1))⟩
        case measure => simp [intOf]; omega
      | false =>
        go_wp2_with fail
        refine (HPR.out).mono ?_
        rintro e w1 ⟨rfl, rfl⟩
        go_wp2_with fail
        go_roundw
        case rel => exact ⟨j, q + 1, by omega, by go_num, by omega, by omega, Lib.hid (by rw [HC1.out]; rfl), ⟨_, _, rfl⟩, hO, hB⟩
        case measure => simp [intOf]; omega
    · obtain rfl : j = n := by omega
      have hd : decide ((j : Int) < (j : Int)) = false := by simp
      have hdn : decide (j < j) = false := by simp
      go_wp2_with fail
      go_ret
      exact ⟨_, rfl, hO.out, hB.out⟩
end Go.Proofs.YtgjkahoblopddaaDoor
