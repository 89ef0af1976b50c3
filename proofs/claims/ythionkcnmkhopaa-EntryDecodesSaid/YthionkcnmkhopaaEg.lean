/-
  COMMANDS: which ones may be, as the document says.
-/
import Derived.Test.YthionkcnmkhopaaEf
namespace Go.Proofs.Ythionkcnmkhopaa
set_option linter.unusedVariables false
set_option linter.unusedSimpArgs false
open Go.RowKit Go.WideShapes Go.ChangeShapes Go.Deep
attribute [local irreducible] wpQuiet

theorem below_setCells {B : Nat} {a w : World} (h : Below B a w) {b : Nat} (hb : B ≤ b) (o : Nat) (vs : List Value) : Below B a (w.setCells b o vs) := by
  obtain ⟨h1, h2, h3, h4, h5⟩ := setCells_os b vs o w
  exact ⟨h1.trans h.os, h2.trans h.tape, h3.trans h.output, by rw [h4]; exact h.size, fun k hk => (h5 k (by omega)).trans (h.block k hk)⟩
def preR (x : Cf) : Bool := decide (x.kind < 1) || decide (4 < x.kind) || decide (x.client < 1) || decide (3 < x.client) || (x.seq : Int) == 0
def putR (x : Cf) (n : Nat) : Bool := x.branch.toList.isEmpty && x.old.b == Idv.zero.b && x.new.b == Idv.zero.b && decide (0 < n) && decide (n ≤ 800)
def sizeR (x : Cf) (n : Nat) : Bool := decide ((x.branch.size : Int) < 1) || decide ((24 : Int) < x.branch.size) || decide (0 < n)
def idsR (x : Cf) : Bool := (x.kind == 2 || x.old.b == Idv.zero.b) && (!(x.kind == 1) || x.new.b == Idv.zero.b)
def rightF (x : Cf) (n : Nat) : Bool := !preR x && if x.kind == 4 then putR x n else !sizeR x n && visW x.branch && idsR x
set_option maxHeartbeats 4000000 in
set_option maxRecDepth 100000 in
theorem Right_any (w : World) (x : Cf) (A : Option Addr) (n c : Nat) (hdv : x.dv = .slice A n c) (hn : n ≤ 140737488355328) :
    Calls Try.prog 10 #[cfV x] w fun e w' => e = .returned (.bool (rightF x n)) ∧ Below w.heap.size w w' := by
  have hsz : x.branch.data.toList.length = x.branch.size := by simp
  obtain ⟨zi, hzi⟩ : ∃ z, Idv.zero = z := ⟨_, rfl⟩
  have BZ : Hid (Try.prog.built 24 [] = some zi.cells.toArray) := Lib.hid (by rw [← hzi]; exact built_idz)
  have ZO : Hid (∀ w : World, (zeroValue 24).run Try.prog w = .ok (.agg zi.cells.toArray) w) := Lib.hid (by rw [← hzi]; exact zero_id)
  obtain ⟨w1, hw1, K1⟩ := Kc.new w x
  have s1 : w1.heap.size = w.heap.size + 1 := by rw [← hw1]; simp
  obtain ⟨wA, hwA⟩ : ∃ wA, w1.alloc (.cells zi.cells.toArray 24) = wA := ⟨_, rfl⟩
  have KA : Hid (Kc w x wA) := Lib.hid (by rw [← hwA]; exact K1.out.step ((Below.refl _ _).alloc (Nat.le_refl _) _))
  have ZA : Hid (Lies wA (w.heap.size + 1) 32 zi.cells) := Lib.hid (by
    rw [← hwA, ← s1]
    have := Lies.new w1 zi.cells 24
    rwa [id_sz] at this)
  have sA : w.heap.size + 2 ≤ wA.heap.size := by rw [← hwA]; simp; omega
  obtain ⟨w2, hw2⟩ : ∃ w2, wA.setCells (w.heap.size + 1) 0 zi.cells = w2 := ⟨_, rfl⟩
  have Z2 : Hid (Lies w2 (w.heap.size + 1) 32 zi.cells) := Lib.hid (by rw [← hw2]; exact ZA.out.set_ (id_sz _))
  have K2 : Hid (Kc w x w2) := Lib.hid (by
    rw [← hw2]
    exact ⟨below_setCells KA.out.b (by omega) _ _, KA.out.l.other (by omega) _ _⟩)
  have B2 := Lib.hid K2.out.b
  have TA := Lib.hid ZA.out.th
  have HW := Lib.hid hw1
  have HWA := Lib.hid hwA
  have HW2 := Lib.hid hw2
  obtain ⟨a0, a1, a2, a3, R4, R5, a6⟩ := cf_lies K2.out.l
  rw [hdv] at a6
  replace R4 := Lib.hid R4
  replace R5 := Lib.hid R5
  have RZ := Lib.hid Z2.out.rg
  clear hw1 hwA hw2 hdv KA K1 ZA sA K2 Z2
  have HF : Hid (rightF x n = (!preR x && if x.kind == 4 then putR x n else !sizeR x n && visW x.branch && idsR x)) := Lib.hid rfl
  unfold preR putR sizeR idsR at HF
  rw [hzi] at HF
  clear hzi
  obtain ⟨rr, hrr⟩ : ∃ q, rightF x n = q := ⟨_, rfl⟩
  rw [hrr] at HF ⊢
  clear hrr
  obtain ⟨p1, h1⟩ : ∃ q, decide (x.kind < 1) = q := ⟨_, rfl⟩
  obtain ⟨p2, h2⟩ : ∃ q, decide (4 < x.kind) = q := ⟨_, rfl⟩
  obtain ⟨p3, h3⟩ : ∃ q, decide (x.client < 1) = q := ⟨_, rfl⟩
  obtain ⟨p4, h4⟩ : ∃ q, decide (3 < x.client) = q := ⟨_, rfl⟩
  obtain ⟨p5, h5⟩ : ∃ q, ((x.seq : Int) == 0) = q := ⟨_, rfl⟩
  obtain ⟨k4, h6⟩ : ∃ q, (x.kind == 4) = q := ⟨_, rfl⟩
  obtain ⟨b0, h7⟩ : ∃ q, x.branch.toList.isEmpty = q := ⟨_, rfl⟩
  obtain ⟨o0, h8⟩ : ∃ q, (x.old.b == zi.b) = q := ⟨_, rfl⟩
  obtain ⟨n0, h9⟩ : ∃ q, (x.new.b == zi.b) = q := ⟨_, rfl⟩
  obtain ⟨d0, h10⟩ : ∃ q, decide (0 < n) = q := ⟨_, rfl⟩
  obtain ⟨d8, h11⟩ : ∃ q, decide (n ≤ 800) = q := ⟨_, rfl⟩
  obtain ⟨s1, h12⟩ : ∃ q, decide ((x.branch.size : Int) < 1) = q := ⟨_, rfl⟩
  obtain ⟨s2, h13⟩ : ∃ q, decide ((24 : Int) < x.branch.size) = q := ⟨_, rfl⟩
  obtain ⟨k2, h14⟩ : ∃ q, (x.kind == 2) = q := ⟨_, rfl⟩
  obtain ⟨k1, h15⟩ : ∃ q, (x.kind == 1) = q := ⟨_, rfl⟩
  rw [h1, h2, h3, h4, h5, h6, h7, h8, h9, h10, h11, h12, h13, h14, h15] at HF
  have E4 : Hid (∀ w, (Op.equalIn 10000 24 (.agg (bvs x.old.b).toArray) (.agg (bvs zi.b).toArray)).run Try.prog w = .ok o0 w) := Lib.hid (by rw [← h8]; exact eq_id x.old zi)
  have E5 : Hid (∀ w, (Op.equalIn 10000 24 (.agg (bvs x.new.b).toArray) (.agg (bvs zi.b).toArray)).run Try.prog w = .ok n0 w) := Lib.hid (by rw [← h9]; exact eq_id x.new zi)
  clear h8 h9
  have h16 : (x.kind != 1) = !k1 := by rw [← h15]; rfl
  have h17 : decide ((n : Int) ≤ 800) = d8 := by rw [← h11]; cases hq : decide (n ≤ 800) <;> simp at hq ⊢ <;> omega
  go_enter Try.func10, Try.ntmps10
  go_upto_region 1 with fail
  rw [HW.out]
  go_upto_region 2 with (first
        | ((with_reducible refine bdt 24 [] ?_ ?_ zi.cells.toArray ?_ ?_); rfl; rfl; exact BZ.out)
        | ((with_reducible refine alt 24 ?_ ?_ zi.cells ZO.out ?_); rfl; rfl; rw [HWA.out]; (try simp only [Act.put, List.setIfInBounds_toArray, List.set_cons_succ, List.set_cons_zero]))
        | ((with_reducible refine sti (.tmp 3) (.tmp 5) ?_ ?_ (w.heap.size + 1) 0 zi ?_ ?_ TA.out ?_); (rfl); rfl; (first | rfl | (rw [s1]; rfl) | go_simp); (rfl); rw [HW2.out]; (try simp only [Act.put, List.setIfInBounds_toArray, List.set_cons_succ, List.set_cons_zero]))
        | ((with_reducible refine ldi (.tmp 36) ?_ ?_ w.heap.size 4 x.old ?_ R4.out ?_); (rfl); (first | rfl | (go_simp <;> fail)); (first | rfl | (go_simp <;> fail)))
        | ((with_reducible refine ldi (.tmp 98) ?_ ?_ w.heap.size 4 x.old ?_ R4.out ?_); (rfl); (first | rfl | (go_simp <;> fail)); (first | rfl | (go_simp <;> fail)))
        | ((with_reducible refine ldi (.tmp 42) ?_ ?_ w.heap.size 36 x.new ?_ R5.out ?_); (rfl); (first | rfl | (go_simp <;> fail)); (first | rfl | (go_simp <;> fail)))
        | ((with_reducible refine ldi (.tmp 108) ?_ ?_ w.heap.size 36 x.new ?_ R5.out ?_); (rfl); (first | rfl | (go_simp <;> fail)); (first | rfl | (go_simp <;> fail)))
        | ((with_reducible refine ldi (.tmp 3) ?_ ?_ (w.heap.size + 1) 0 zi ?_ RZ.out ?_); (rfl); (first | rfl | (go_simp <;> fail)); (first | rfl | (go_simp <;> fail)))
        | fail)
  have e4 := E4.out
  have e5 := E5.out
  cases p1
  · cases p2
    · cases p3
      · cases p4
        · cases p5
          · cases k4
            · cases s1
              · cases s2
                · cases d0
                  · have hb24 : x.branch.size ≤ 24 := by simp at h13; omega
                    have NO : Hid (∀ (k : Nat) (h : k < x.branch.size), goodB (x.branch[k]'h) = false → rr = false) := Lib.hid fun k h hg => by
                      rw [HF.out, show visW x.branch = false from by
                        rw [visW, List.all_eq_false]
                        exact ⟨x.branch[k]'h, List.getElem_mem (l := x.branch.data.toList) (by rw [hsz]; exact h), by simp [hg]⟩]
                      rfl
                    go_wp2_with (first
                          | ((with_reducible refine bdt 24 [] ?_ ?_ zi.cells.toArray ?_ ?_); rfl; rfl; exact BZ.out)
                          | ((with_reducible refine alt 24 ?_ ?_ zi.cells ZO.out ?_); rfl; rfl; rw [HWA.out]; (try simp only [Act.put, List.setIfInBounds_toArray, List.set_cons_succ, List.set_cons_zero]))
                          | ((with_reducible refine sti (.tmp 3) (.tmp 5) ?_ ?_ (w.heap.size + 1) 0 zi ?_ ?_ TA.out ?_); (rfl); rfl; (first | rfl | (rw [s1]; rfl) | go_simp); (rfl); rw [HW2.out]; (try simp only [Act.put, List.setIfInBounds_toArray, List.set_cons_succ, List.set_cons_zero]))
                          | ((with_reducible refine ldi (.tmp 36) ?_ ?_ w.heap.size 4 x.old ?_ R4.out ?_); (rfl); (first | rfl | (go_simp <;> fail)); (first | rfl | (go_simp <;> fail)))
                          | ((with_reducible refine ldi (.tmp 98) ?_ ?_ w.heap.size 4 x.old ?_ R4.out ?_); (rfl); (first | rfl | (go_simp <;> fail)); (first | rfl | (go_simp <;> fail)))
                          | ((with_reducible refine ldi (.tmp 42) ?_ ?_ w.heap.size 36 x.new ?_ R5.out ?_); (rfl); (first | rfl | (go_simp <;> fail)); (first | rfl | (go_simp <;> fail)))
                          | ((with_reducible refine ldi (.tmp 108) ?_ ?_ w.heap.size 36 x.new ?_ R5.out ?_); (rfl); (first | rfl | (go_simp <;> fail)); (first | rfl | (go_simp <;> fail)))
                          | ((with_reducible refine ldi (.tmp 3) ?_ ?_ (w.heap.size + 1) 0 zi ?_ RZ.out ?_); (rfl); (first | rfl | (go_simp <;> fail)); (first | rfl | (go_simp <;> fail)))
                          | fail)
                    go_loopw [4] (fun i wr => ∃ k : Nat, k ≤ x.branch.size ∧ i = .int .i64 (k : Int) ∧ wr = w2 ∧ Hid ((x.branch.data.toList.take k).all goodB = true)) (fun i _ => x.branch.size - (intOf i).toNat)
                    case atStart => exact ⟨0, Nat.zero_le _, rfl, rfl, Lib.hid (by simp)⟩
                    case round =>
                      obtain ⟨k, hk, rfl, rfl, hg⟩ := hrel
                      by_cases hlt : k < x.branch.size
                      · have hd : decide ((k : Int) < (x.branch.size : Int)) = true := by simp; omega
                        have hk0 : (0 : Int) ≤ (k : Int) := Int.natCast_nonneg _
                        have hk1 : (k : Int) < (x.branch.size : Int) := by omega
                        have HAT := Lib.hid (all_take (s := x.branch.data.toList) (k := k) (by omega))
                        have hgk : x.branch.data.toList[k]'(by omega) = x.branch[k] := rfl
                        rw [hgk] at HAT
                        have HN := Lib.hid (NO.out k hlt)
                        clear hgk
                        by_cases g1 : (x.branch[k].toNat : Int) < 33
                        · have d1 : decide ((x.branch[k].toNat : Int) < 33) = true := by simpa using g1
                          have e := HN.out (by unfold goodB; simp; omega)
                          go_wp2
                          go_ret
                          exact ⟨by first | rfl | (rw [e]; rfl), B2.out⟩
                        · have d1 : decide ((x.branch[k].toNat : Int) < 33) = false := by simpa using g1
                          by_cases g2 : 126 < (x.branch[k].toNat : Int)
                          · have d2 : decide (126 < (x.branch[k].toNat : Int)) = true := by simpa using g2
                            have e := HN.out (by unfold goodB; simp; omega)
                            go_wp2
                            go_ret
                            exact ⟨by first | rfl | (rw [e]; rfl), B2.out⟩
                          · have d2 : decide (126 < (x.branch[k].toNat : Int)) = false := by simpa using g2
                            go_wp2
                            go_roundw
                            case rel => exact ⟨k + 1, by omega, by go_num, (by first | rfl | trivial), Lib.hid (by rw [HAT.out, hg.out]; unfold goodB; simp; omega)⟩
                            case measure => simp [intOf]; omega
                      · have hd : decide ((k : Int) < (x.branch.size : Int)) = false := by simp; omega
                        obtain rfl : k = x.branch.size := by omega
                        have e : visW x.branch = true := by rw [visW, ← hg.out, List.take_of_length_le (by omega)]
                        have HE : Hid (rr = ((k2 || o0) && (!k1 || n0))) := Lib.hid (by rw [HF.out, e]; simp)
                        clear e
                        cases k2 <;> cases o0 <;> cases k1 <;> cases n0 <;> (first
                          | exact absurd ((eq_of_beq h14).symm.trans (eq_of_beq h15)) (by decide)
                          | (go_wp2_with (first
                                | ((with_reducible refine bdt 24 [] ?_ ?_ zi.cells.toArray ?_ ?_); rfl; rfl; exact BZ.out)
                                | ((with_reducible refine alt 24 ?_ ?_ zi.cells ZO.out ?_); rfl; rfl; rw [HWA.out]; (try simp only [Act.put, List.setIfInBounds_toArray, List.set_cons_succ, List.set_cons_zero]))
                                | ((with_reducible refine sti (.tmp 3) (.tmp 5) ?_ ?_ (w.heap.size + 1) 0 zi ?_ ?_ TA.out ?_); (rfl); rfl; (first | rfl | (rw [s1]; rfl) | go_simp); (rfl); rw [HW2.out]; (try simp only [Act.put, List.setIfInBounds_toArray, List.set_cons_succ, List.set_cons_zero]))
                                | ((with_reducible refine ldi (.tmp 36) ?_ ?_ w.heap.size 4 x.old ?_ R4.out ?_); (rfl); (first | rfl | (go_simp <;> fail)); (first | rfl | (go_simp <;> fail)))
                                | ((with_reducible refine ldi (.tmp 98) ?_ ?_ w.heap.size 4 x.old ?_ R4.out ?_); (rfl); (first | rfl | (go_simp <;> fail)); (first | rfl | (go_simp <;> fail)))
                                | ((with_reducible refine ldi (.tmp 42) ?_ ?_ w.heap.size 36 x.new ?_ R5.out ?_); (rfl); (first | rfl | (go_simp <;> fail)); (first | rfl | (go_simp <;> fail)))
                                | ((with_reducible refine ldi (.tmp 108) ?_ ?_ w.heap.size 36 x.new ?_ R5.out ?_); (rfl); (first | rfl | (go_simp <;> fail)); (first | rfl | (go_simp <;> fail)))
                                | ((with_reducible refine ldi (.tmp 3) ?_ ?_ (w.heap.size + 1) 0 zi ?_ RZ.out ?_); (rfl); (first | rfl | (go_simp <;> fail)); (first | rfl | (go_simp <;> fail)))
                                | fail)
                             go_ret
                             exact ⟨by rw [HE.out]; rfl, B2.out⟩))
                  · go_wp2_with (first
                          | ((with_reducible refine bdt 24 [] ?_ ?_ zi.cells.toArray ?_ ?_); rfl; rfl; exact BZ.out)
                          | ((with_reducible refine alt 24 ?_ ?_ zi.cells ZO.out ?_); rfl; rfl; rw [HWA.out]; (try simp only [Act.put, List.setIfInBounds_toArray, List.set_cons_succ, List.set_cons_zero]))
                          | ((with_reducible refine sti (.tmp 3) (.tmp 5) ?_ ?_ (w.heap.size + 1) 0 zi ?_ ?_ TA.out ?_); (rfl); rfl; (first | rfl | (rw [s1]; rfl) | go_simp); (rfl); rw [HW2.out]; (try simp only [Act.put, List.setIfInBounds_toArray, List.set_cons_succ, List.set_cons_zero]))
                          | ((with_reducible refine ldi (.tmp 36) ?_ ?_ w.heap.size 4 x.old ?_ R4.out ?_); (rfl); (first | rfl | (go_simp <;> fail)); (first | rfl | (go_simp <;> fail)))
                          | ((with_reducible refine ldi (.tmp 98) ?_ ?_ w.heap.size 4 x.old ?_ R4.out ?_); (rfl); (first | rfl | (go_simp <;> fail)); (first | rfl | (go_simp <;> fail)))
                          | ((with_reducible refine ldi (.tmp 42) ?_ ?_ w.heap.size 36 x.new ?_ R5.out ?_); (rfl); (first | rfl | (go_simp <;> fail)); (first | rfl | (go_simp <;> fail)))
                          | ((with_reducible refine ldi (.tmp 108) ?_ ?_ w.heap.size 36 x.new ?_ R5.out ?_); (rfl); (first | rfl | (go_simp <;> fail)); (first | rfl | (go_simp <;> fail)))
                          | ((with_reducible refine ldi (.tmp 3) ?_ ?_ (w.heap.size + 1) 0 zi ?_ RZ.out ?_); (rfl); (first | rfl | (go_simp <;> fail)); (first | rfl | (go_simp <;> fail)))
                          | fail)
                    go_ret
                    exact ⟨by rw [HF.out]; rfl, B2.out⟩
                · go_wp2_with (first
                        | ((with_reducible refine bdt 24 [] ?_ ?_ zi.cells.toArray ?_ ?_); rfl; rfl; exact BZ.out)
                        | ((with_reducible refine alt 24 ?_ ?_ zi.cells ZO.out ?_); rfl; rfl; rw [HWA.out]; (try simp only [Act.put, List.setIfInBounds_toArray, List.set_cons_succ, List.set_cons_zero]))
                        | ((with_reducible refine sti (.tmp 3) (.tmp 5) ?_ ?_ (w.heap.size + 1) 0 zi ?_ ?_ TA.out ?_); (rfl); rfl; (first | rfl | (rw [s1]; rfl) | go_simp); (rfl); rw [HW2.out]; (try simp only [Act.put, List.setIfInBounds_toArray, List.set_cons_succ, List.set_cons_zero]))
                        | ((with_reducible refine ldi (.tmp 36) ?_ ?_ w.heap.size 4 x.old ?_ R4.out ?_); (rfl); (first | rfl | (go_simp <;> fail)); (first | rfl | (go_simp <;> fail)))
                        | ((with_reducible refine ldi (.tmp 98) ?_ ?_ w.heap.size 4 x.old ?_ R4.out ?_); (rfl); (first | rfl | (go_simp <;> fail)); (first | rfl | (go_simp <;> fail)))
                        | ((with_reducible refine ldi (.tmp 42) ?_ ?_ w.heap.size 36 x.new ?_ R5.out ?_); (rfl); (first | rfl | (go_simp <;> fail)); (first | rfl | (go_simp <;> fail)))
                        | ((with_reducible refine ldi (.tmp 108) ?_ ?_ w.heap.size 36 x.new ?_ R5.out ?_); (rfl); (first | rfl | (go_simp <;> fail)); (first | rfl | (go_simp <;> fail)))
                        | ((with_reducible refine ldi (.tmp 3) ?_ ?_ (w.heap.size + 1) 0 zi ?_ RZ.out ?_); (rfl); (first | rfl | (go_simp <;> fail)); (first | rfl | (go_simp <;> fail)))
                        | fail)
                  go_ret
                  exact ⟨by rw [HF.out]; rfl, B2.out⟩
              · go_wp2_with (first
                      | ((with_reducible refine bdt 24 [] ?_ ?_ zi.cells.toArray ?_ ?_); rfl; rfl; exact BZ.out)
                      | ((with_reducible refine alt 24 ?_ ?_ zi.cells ZO.out ?_); rfl; rfl; rw [HWA.out]; (try simp only [Act.put, List.setIfInBounds_toArray, List.set_cons_succ, List.set_cons_zero]))
                      | ((with_reducible refine sti (.tmp 3) (.tmp 5) ?_ ?_ (w.heap.size + 1) 0 zi ?_ ?_ TA.out ?_); (rfl); rfl; (first | rfl | (rw [s1]; rfl) | go_simp); (rfl); rw [HW2.out]; (try simp only [Act.put, List.setIfInBounds_toArray, List.set_cons_succ, List.set_cons_zero]))
                      | ((with_reducible refine ldi (.tmp 36) ?_ ?_ w.heap.size 4 x.old ?_ R4.out ?_); (rfl); (first | rfl | (go_simp <;> fail)); (first | rfl | (go_simp <;> fail)))
                      | ((with_reducible refine ldi (.tmp 98) ?_ ?_ w.heap.size 4 x.old ?_ R4.out ?_); (rfl); (first | rfl | (go_simp <;> fail)); (first | rfl | (go_simp <;> fail)))
                      | ((with_reducible refine ldi (.tmp 42) ?_ ?_ w.heap.size 36 x.new ?_ R5.out ?_); (rfl); (first | rfl | (go_simp <;> fail)); (first | rfl | (go_simp <;> fail)))
                      | ((with_reducible refine ldi (.tmp 108) ?_ ?_ w.heap.size 36 x.new ?_ R5.out ?_); (rfl); (first | rfl | (go_simp <;> fail)); (first | rfl | (go_simp <;> fail)))
                      | ((with_reducible refine ldi (.tmp 3) ?_ ?_ (w.heap.size + 1) 0 zi ?_ RZ.out ?_); (rfl); (first | rfl | (go_simp <;> fail)); (first | rfl | (go_simp <;> fail)))
                      | fail)
                go_ret
                exact ⟨by rw [HF.out]; rfl, B2.out⟩
            · cases b0
              · go_wp2_with (first
                      | ((with_reducible refine bdt 24 [] ?_ ?_ zi.cells.toArray ?_ ?_); rfl; rfl; exact BZ.out)
                      | ((with_reducible refine alt 24 ?_ ?_ zi.cells ZO.out ?_); rfl; rfl; rw [HWA.out]; (try simp only [Act.put, List.setIfInBounds_toArray, List.set_cons_succ, List.set_cons_zero]))
                      | ((with_reducible refine sti (.tmp 3) (.tmp 5) ?_ ?_ (w.heap.size + 1) 0 zi ?_ ?_ TA.out ?_); (rfl); rfl; (first | rfl | (rw [s1]; rfl) | go_simp); (rfl); rw [HW2.out]; (try simp only [Act.put, List.setIfInBounds_toArray, List.set_cons_succ, List.set_cons_zero]))
                      | ((with_reducible refine ldi (.tmp 36) ?_ ?_ w.heap.size 4 x.old ?_ R4.out ?_); (rfl); (first | rfl | (go_simp <;> fail)); (first | rfl | (go_simp <;> fail)))
                      | ((with_reducible refine ldi (.tmp 98) ?_ ?_ w.heap.size 4 x.old ?_ R4.out ?_); (rfl); (first | rfl | (go_simp <;> fail)); (first | rfl | (go_simp <;> fail)))
                      | ((with_reducible refine ldi (.tmp 42) ?_ ?_ w.heap.size 36 x.new ?_ R5.out ?_); (rfl); (first | rfl | (go_simp <;> fail)); (first | rfl | (go_simp <;> fail)))
                      | ((with_reducible refine ldi (.tmp 108) ?_ ?_ w.heap.size 36 x.new ?_ R5.out ?_); (rfl); (first | rfl | (go_simp <;> fail)); (first | rfl | (go_simp <;> fail)))
                      | ((with_reducible refine ldi (.tmp 3) ?_ ?_ (w.heap.size + 1) 0 zi ?_ RZ.out ?_); (rfl); (first | rfl | (go_simp <;> fail)); (first | rfl | (go_simp <;> fail)))
                      | fail)
                go_ret
                exact ⟨by rw [HF.out]; rfl, B2.out⟩
              cases o0
              · go_wp2_with (first
                      | ((with_reducible refine bdt 24 [] ?_ ?_ zi.cells.toArray ?_ ?_); rfl; rfl; exact BZ.out)
                      | ((with_reducible refine alt 24 ?_ ?_ zi.cells ZO.out ?_); rfl; rfl; rw [HWA.out]; (try simp only [Act.put, List.setIfInBounds_toArray, List.set_cons_succ, List.set_cons_zero]))
                      | ((with_reducible refine sti (.tmp 3) (.tmp 5) ?_ ?_ (w.heap.size + 1) 0 zi ?_ ?_ TA.out ?_); (rfl); rfl; (first | rfl | (rw [s1]; rfl) | go_simp); (rfl); rw [HW2.out]; (try simp only [Act.put, List.setIfInBounds_toArray, List.set_cons_succ, List.set_cons_zero]))
                      | ((with_reducible refine ldi (.tmp 36) ?_ ?_ w.heap.size 4 x.old ?_ R4.out ?_); (rfl); (first | rfl | (go_simp <;> fail)); (first | rfl | (go_simp <;> fail)))
                      | ((with_reducible refine ldi (.tmp 98) ?_ ?_ w.heap.size 4 x.old ?_ R4.out ?_); (rfl); (first | rfl | (go_simp <;> fail)); (first | rfl | (go_simp <;> fail)))
                      | ((with_reducible refine ldi (.tmp 42) ?_ ?_ w.heap.size 36 x.new ?_ R5.out ?_); (rfl); (first | rfl | (go_simp <;> fail)); (first | rfl | (go_simp <;> fail)))
                      | ((with_reducible refine ldi (.tmp 108) ?_ ?_ w.heap.size 36 x.new ?_ R5.out ?_); (rfl); (first | rfl | (go_simp <;> fail)); (first | rfl | (go_simp <;> fail)))
                      | ((with_reducible refine ldi (.tmp 3) ?_ ?_ (w.heap.size + 1) 0 zi ?_ RZ.out ?_); (rfl); (first | rfl | (go_simp <;> fail)); (first | rfl | (go_simp <;> fail)))
                      | fail)
                go_ret
                exact ⟨by rw [HF.out]; rfl, B2.out⟩
              cases n0
              · go_wp2_with (first
                      | ((with_reducible refine bdt 24 [] ?_ ?_ zi.cells.toArray ?_ ?_); rfl; rfl; exact BZ.out)
                      | ((with_reducible refine alt 24 ?_ ?_ zi.cells ZO.out ?_); rfl; rfl; rw [HWA.out]; (try simp only [Act.put, List.setIfInBounds_toArray, List.set_cons_succ, List.set_cons_zero]))
                      | ((with_reducible refine sti (.tmp 3) (.tmp 5) ?_ ?_ (w.heap.size + 1) 0 zi ?_ ?_ TA.out ?_); (rfl); rfl; (first | rfl | (rw [s1]; rfl) | go_simp); (rfl); rw [HW2.out]; (try simp only [Act.put, List.setIfInBounds_toArray, List.set_cons_succ, List.set_cons_zero]))
                      | ((with_reducible refine ldi (.tmp 36) ?_ ?_ w.heap.size 4 x.old ?_ R4.out ?_); (rfl); (first | rfl | (go_simp <;> fail)); (first | rfl | (go_simp <;> fail)))
                      | ((with_reducible refine ldi (.tmp 98) ?_ ?_ w.heap.size 4 x.old ?_ R4.out ?_); (rfl); (first | rfl | (go_simp <;> fail)); (first | rfl | (go_simp <;> fail)))
                      | ((with_reducible refine ldi (.tmp 42) ?_ ?_ w.heap.size 36 x.new ?_ R5.out ?_); (rfl); (first | rfl | (go_simp <;> fail)); (first | rfl | (go_simp <;> fail)))
                      | ((with_reducible refine ldi (.tmp 108) ?_ ?_ w.heap.size 36 x.new ?_ R5.out ?_); (rfl); (first | rfl | (go_simp <;> fail)); (first | rfl | (go_simp <;> fail)))
                      | ((with_reducible refine ldi (.tmp 3) ?_ ?_ (w.heap.size + 1) 0 zi ?_ RZ.out ?_); (rfl); (first | rfl | (go_simp <;> fail)); (first | rfl | (go_simp <;> fail)))
                      | fail)
                go_ret
                exact ⟨by rw [HF.out]; rfl, B2.out⟩
              cases d0
              · go_wp2_with (first
                      | ((with_reducible refine bdt 24 [] ?_ ?_ zi.cells.toArray ?_ ?_); rfl; rfl; exact BZ.out)
                      | ((with_reducible refine alt 24 ?_ ?_ zi.cells ZO.out ?_); rfl; rfl; rw [HWA.out]; (try simp only [Act.put, List.setIfInBounds_toArray, List.set_cons_succ, List.set_cons_zero]))
                      | ((with_reducible refine sti (.tmp 3) (.tmp 5) ?_ ?_ (w.heap.size + 1) 0 zi ?_ ?_ TA.out ?_); (rfl); rfl; (first | rfl | (rw [s1]; rfl) | go_simp); (rfl); rw [HW2.out]; (try simp only [Act.put, List.setIfInBounds_toArray, List.set_cons_succ, List.set_cons_zero]))
                      | ((with_reducible refine ldi (.tmp 36) ?_ ?_ w.heap.size 4 x.old ?_ R4.out ?_); (rfl); (first | rfl | (go_simp <;> fail)); (first | rfl | (go_simp <;> fail)))
                      | ((with_reducible refine ldi (.tmp 98) ?_ ?_ w.heap.size 4 x.old ?_ R4.out ?_); (rfl); (first | rfl | (go_simp <;> fail)); (first | rfl | (go_simp <;> fail)))
                      | ((with_reducible refine ldi (.tmp 42) ?_ ?_ w.heap.size 36 x.new ?_ R5.out ?_); (rfl); (first | rfl | (go_simp <;> fail)); (first | rfl | (go_simp <;> fail)))
                      | ((with_reducible refine ldi (.tmp 108) ?_ ?_ w.heap.size 36 x.new ?_ R5.out ?_); (rfl); (first | rfl | (go_simp <;> fail)); (first | rfl | (go_simp <;> fail)))
                      | ((with_reducible refine ldi (.tmp 3) ?_ ?_ (w.heap.size + 1) 0 zi ?_ RZ.out ?_); (rfl); (first | rfl | (go_simp <;> fail)); (first | rfl | (go_simp <;> fail)))
                      | fail)
                go_ret
                exact ⟨by rw [HF.out]; rfl, B2.out⟩
              cases d8
              · go_wp2_with (first
                      | ((with_reducible refine bdt 24 [] ?_ ?_ zi.cells.toArray ?_ ?_); rfl; rfl; exact BZ.out)
                      | ((with_reducible refine alt 24 ?_ ?_ zi.cells ZO.out ?_); rfl; rfl; rw [HWA.out]; (try simp only [Act.put, List.setIfInBounds_toArray, List.set_cons_succ, List.set_cons_zero]))
                      | ((with_reducible refine sti (.tmp 3) (.tmp 5) ?_ ?_ (w.heap.size + 1) 0 zi ?_ ?_ TA.out ?_); (rfl); rfl; (first | rfl | (rw [s1]; rfl) | go_simp); (rfl); rw [HW2.out]; (try simp only [Act.put, List.setIfInBounds_toArray, List.set_cons_succ, List.set_cons_zero]))
                      | ((with_reducible refine ldi (.tmp 36) ?_ ?_ w.heap.size 4 x.old ?_ R4.out ?_); (rfl); (first | rfl | (go_simp <;> fail)); (first | rfl | (go_simp <;> fail)))
                      | ((with_reducible refine ldi (.tmp 98) ?_ ?_ w.heap.size 4 x.old ?_ R4.out ?_); (rfl); (first | rfl | (go_simp <;> fail)); (first | rfl | (go_simp <;> fail)))
                      | ((with_reducible refine ldi (.tmp 42) ?_ ?_ w.heap.size 36 x.new ?_ R5.out ?_); (rfl); (first | rfl | (go_simp <;> fail)); (first | rfl | (go_simp <;> fail)))
                      | ((with_reducible refine ldi (.tmp 108) ?_ ?_ w.heap.size 36 x.new ?_ R5.out ?_); (rfl); (first | rfl | (go_simp <;> fail)); (first | rfl | (go_simp <;> fail)))
                      | ((with_reducible refine ldi (.tmp 3) ?_ ?_ (w.heap.size + 1) 0 zi ?_ RZ.out ?_); (rfl); (first | rfl | (go_simp <;> fail)); (first | rfl | (go_simp <;> fail)))
                      | fail)
                go_ret
                exact ⟨by rw [HF.out]; rfl, B2.out⟩
              go_wp2_with (first
                    | ((with_reducible refine bdt 24 [] ?_ ?_ zi.cells.toArray ?_ ?_); rfl; rfl; exact BZ.out)
                    | ((with_reducible refine alt 24 ?_ ?_ zi.cells ZO.out ?_); rfl; rfl; rw [HWA.out]; (try simp only [Act.put, List.setIfInBounds_toArray, List.set_cons_succ, List.set_cons_zero]))
                    | ((with_reducible refine sti (.tmp 3) (.tmp 5) ?_ ?_ (w.heap.size + 1) 0 zi ?_ ?_ TA.out ?_); (rfl); rfl; (first | rfl | (rw [s1]; rfl) | go_simp); (rfl); rw [HW2.out]; (try simp only [Act.put, List.setIfInBounds_toArray, List.set_cons_succ, List.set_cons_zero]))
                    | ((with_reducible refine ldi (.tmp 36) ?_ ?_ w.heap.size 4 x.old ?_ R4.out ?_); (rfl); (first | rfl | (go_simp <;> fail)); (first | rfl | (go_simp <;> fail)))
                    | ((with_reducible refine ldi (.tmp 98) ?_ ?_ w.heap.size 4 x.old ?_ R4.out ?_); (rfl); (first | rfl | (go_simp <;> fail)); (first | rfl | (go_simp <;> fail)))
                    | ((with_reducible refine ldi (.tmp 42) ?_ ?_ w.heap.size 36 x.new ?_ R5.out ?_); (rfl); (first | rfl | (go_simp <;> fail)); (first | rfl | (go_simp <;> fail)))
                    | ((with_reducible refine ldi (.tmp 108) ?_ ?_ w.heap.size 36 x.new ?_ R5.out ?_); (rfl); (first | rfl | (go_simp <;> fail)); (first | rfl | (go_simp <;> fail)))
                    | ((with_reducible refine ldi (.tmp 3) ?_ ?_ (w.heap.size + 1) 0 zi ?_ RZ.out ?_); (rfl); (first | rfl | (go_simp <;> fail)); (first | rfl | (go_simp <;> fail)))
                    | fail)
              go_ret
              exact ⟨by rw [HF.out]; rfl, B2.out⟩
          · go_wp2_with (first
                  | ((with_reducible refine bdt 24 [] ?_ ?_ zi.cells.toArray ?_ ?_); rfl; rfl; exact BZ.out)
                  | ((with_reducible refine alt 24 ?_ ?_ zi.cells ZO.out ?_); rfl; rfl; rw [HWA.out]; (try simp only [Act.put, List.setIfInBounds_toArray, List.set_cons_succ, List.set_cons_zero]))
                  | ((with_reducible refine sti (.tmp 3) (.tmp 5) ?_ ?_ (w.heap.size + 1) 0 zi ?_ ?_ TA.out ?_); (rfl); rfl; (first | rfl | (rw [s1]; rfl) | go_simp); (rfl); rw [HW2.out]; (try simp only [Act.put, List.setIfInBounds_toArray, List.set_cons_succ, List.set_cons_zero]))
                  | ((with_reducible refine ldi (.tmp 36) ?_ ?_ w.heap.size 4 x.old ?_ R4.out ?_); (rfl); (first | rfl | (go_simp <;> fail)); (first | rfl | (go_simp <;> fail)))
                  | ((with_reducible refine ldi (.tmp 98) ?_ ?_ w.heap.size 4 x.old ?_ R4.out ?_); (rfl); (first | rfl | (go_simp <;> fail)); (first | rfl | (go_simp <;> fail)))
                  | ((with_reducible refine ldi (.tmp 42) ?_ ?_ w.heap.size 36 x.new ?_ R5.out ?_); (rfl); (first | rfl | (go_simp <;> fail)); (first | rfl | (go_simp <;> fail)))
                  | ((with_reducible refine ldi (.tmp 108) ?_ ?_ w.heap.size 36 x.new ?_ R5.out ?_); (rfl); (first | rfl | (go_simp <;> fail)); (first | rfl | (go_simp <;> fail)))
                  | ((with_reducible refine ldi (.tmp 3) ?_ ?_ (w.heap.size + 1) 0 zi ?_ RZ.out ?_); (rfl); (first | rfl | (go_simp <;> fail)); (first | rfl | (go_simp <;> fail)))
                  | fail)
            go_ret
            exact ⟨by rw [HF.out]; rfl, B2.out⟩
        · go_wp2_with (first
                | ((with_reducible refine bdt 24 [] ?_ ?_ zi.cells.toArray ?_ ?_); rfl; rfl; exact BZ.out)
                | ((with_reducible refine alt 24 ?_ ?_ zi.cells ZO.out ?_); rfl; rfl; rw [HWA.out]; (try simp only [Act.put, List.setIfInBounds_toArray, List.set_cons_succ, List.set_cons_zero]))
                | ((with_reducible refine sti (.tmp 3) (.tmp 5) ?_ ?_ (w.heap.size + 1) 0 zi ?_ ?_ TA.out ?_); (rfl); rfl; (first | rfl | (rw [s1]; rfl) | go_simp); (rfl); rw [HW2.out]; (try simp only [Act.put, List.setIfInBounds_toArray, List.set_cons_succ, List.set_cons_zero]))
                | ((with_reducible refine ldi (.tmp 36) ?_ ?_ w.heap.size 4 x.old ?_ R4.out ?_); (rfl); (first | rfl | (go_simp <;> fail)); (first | rfl | (go_simp <;> fail)))
                | ((with_reducible refine ldi (.tmp 98) ?_ ?_ w.heap.size 4 x.old ?_ R4.out ?_); (rfl); (first | rfl | (go_simp <;> fail)); (first | rfl | (go_simp <;> fail)))
                | ((with_reducible refine ldi (.tmp 42) ?_ ?_ w.heap.size 36 x.new ?_ R5.out ?_); (rfl); (first | rfl | (go_simp <;> fail)); (first | rfl | (go_simp <;> fail)))
                | ((with_reducible refine ldi (.tmp 108) ?_ ?_ w.heap.size 36 x.new ?_ R5.out ?_); (rfl); (first | rfl | (go_simp <;> fail)); (first | rfl | (go_simp <;> fail)))
                | ((with_reducible refine ldi (.tmp 3) ?_ ?_ (w.heap.size + 1) 0 zi ?_ RZ.out ?_); (rfl); (first | rfl | (go_simp <;> fail)); (first | rfl | (go_simp <;> fail)))
                | fail)
          go_ret
          exact ⟨by rw [HF.out]; rfl, B2.out⟩
      · go_wp2_with (first
              | ((with_reducible refine bdt 24 [] ?_ ?_ zi.cells.toArray ?_ ?_); rfl; rfl; exact BZ.out)
              | ((with_reducible refine alt 24 ?_ ?_ zi.cells ZO.out ?_); rfl; rfl; rw [HWA.out]; (try simp only [Act.put, List.setIfInBounds_toArray, List.set_cons_succ, List.set_cons_zero]))
              | ((with_reducible refine sti (.tmp 3) (.tmp 5) ?_ ?_ (w.heap.size + 1) 0 zi ?_ ?_ TA.out ?_); (rfl); rfl; (first | rfl | (rw [s1]; rfl) | go_simp); (rfl); rw [HW2.out]; (try simp only [Act.put, List.setIfInBounds_toArray, List.set_cons_succ, List.set_cons_zero]))
              | ((with_reducible refine ldi (.tmp 36) ?_ ?_ w.heap.size 4 x.old ?_ R4.out ?_); (rfl); (first | rfl | (go_simp <;> fail)); (first | rfl | (go_simp <;> fail)))
              | ((with_reducible refine ldi (.tmp 98) ?_ ?_ w.heap.size 4 x.old ?_ R4.out ?_); (rfl); (first | rfl | (go_simp <;> fail)); (first | rfl | (go_simp <;> fail)))
              | ((with_reducible refine ldi (.tmp 42) ?_ ?_ w.heap.size 36 x.new ?_ R5.out ?_); (rfl); (first | rfl | (go_simp <;> fail)); (first | rfl | (go_simp <;> fail)))
              | ((with_reducible refine ldi (.tmp 108) ?_ ?_ w.heap.size 36 x.new ?_ R5.out ?_); (rfl); (first | rfl | (go_simp <;> fail)); (first | rfl | (go_simp <;> fail)))
              | ((with_reducible refine ldi (.tmp 3) ?_ ?_ (w.heap.size + 1) 0 zi ?_ RZ.out ?_); (rfl); (first | rfl | (go_simp <;> fail)); (first | rfl | (go_simp <;> fail)))
              | fail)
        go_ret
        exact ⟨by rw [HF.out]; rfl, B2.out⟩
    · go_wp2_with (first
            | ((with_reducible refine bdt 24 [] ?_ ?_ zi.cells.toArray ?_ ?_); rfl; rfl; exact BZ.out)
            | ((with_reducible refine alt 24 ?_ ?_ zi.cells ZO.out ?_); rfl; rfl; rw [HWA.out]; (try simp only [Act.put, List.setIfInBounds_toArray, List.set_cons_succ, List.set_cons_zero]))
            | ((with_reducible refine sti (.tmp 3) (.tmp 5) ?_ ?_ (w.heap.size + 1) 0 zi ?_ ?_ TA.out ?_); (rfl); rfl; (first | rfl | (rw [s1]; rfl) | go_simp); (rfl); rw [HW2.out]; (try simp only [Act.put, List.setIfInBounds_toArray, List.set_cons_succ, List.set_cons_zero]))
            | ((with_reducible refine ldi (.tmp 36) ?_ ?_ w.heap.size 4 x.old ?_ R4.out ?_); (rfl); (first | rfl | (go_simp <;> fail)); (first | rfl | (go_simp <;> fail)))
            | ((with_reducible refine ldi (.tmp 98) ?_ ?_ w.heap.size 4 x.old ?_ R4.out ?_); (rfl); (first | rfl | (go_simp <;> fail)); (first | rfl | (go_simp <;> fail)))
            | ((with_reducible refine ldi (.tmp 42) ?_ ?_ w.heap.size 36 x.new ?_ R5.out ?_); (rfl); (first | rfl | (go_simp <;> fail)); (first | rfl | (go_simp <;> fail)))
            | ((with_reducible refine ldi (.tmp 108) ?_ ?_ w.heap.size 36 x.new ?_ R5.out ?_); (rfl); (first | rfl | (go_simp <;> fail)); (first | rfl | (go_simp <;> fail)))
            | ((with_reducible refine ldi (.tmp 3) ?_ ?_ (w.heap.size + 1) 0 zi ?_ RZ.out ?_); (rfl); (first | rfl | (go_simp <;> fail)); (first | rfl | (go_simp <;> fail)))
            | fail)
      go_ret
      exact ⟨by rw [HF.out]; rfl, B2.out⟩
  · go_wp2_with (first
          | ((with_reducible refine bdt 24 [] ?_ ?_ zi.cells.toArray ?_ ?_); rfl; rfl; exact BZ.out)
          | ((with_reducible refine alt 24 ?_ ?_ zi.cells ZO.out ?_); rfl; rfl; rw [HWA.out]; (try simp only [Act.put, List.setIfInBounds_toArray, List.set_cons_succ, List.set_cons_zero]))
          | ((with_reducible refine sti (.tmp 3) (.tmp 5) ?_ ?_ (w.heap.size + 1) 0 zi ?_ ?_ TA.out ?_); (rfl); rfl; (first | rfl | (rw [s1]; rfl) | go_simp); (rfl); rw [HW2.out]; (try simp only [Act.put, List.setIfInBounds_toArray, List.set_cons_succ, List.set_cons_zero]))
          | ((with_reducible refine ldi (.tmp 36) ?_ ?_ w.heap.size 4 x.old ?_ R4.out ?_); (rfl); (first | rfl | (go_simp <;> fail)); (first | rfl | (go_simp <;> fail)))
          | ((with_reducible refine ldi (.tmp 98) ?_ ?_ w.heap.size 4 x.old ?_ R4.out ?_); (rfl); (first | rfl | (go_simp <;> fail)); (first | rfl | (go_simp <;> fail)))
          | ((with_reducible refine ldi (.tmp 42) ?_ ?_ w.heap.size 36 x.new ?_ R5.out ?_); (rfl); (first | rfl | (go_simp <;> fail)); (first | rfl | (go_simp <;> fail)))
          | ((with_reducible refine ldi (.tmp 108) ?_ ?_ w.heap.size 36 x.new ?_ R5.out ?_); (rfl); (first | rfl | (go_simp <;> fail)); (first | rfl | (go_simp <;> fail)))
          | ((with_reducible refine ldi (.tmp 3) ?_ ?_ (w.heap.size + 1) 0 zi ?_ RZ.out ?_); (rfl); (first | rfl | (go_simp <;> fail)); (first | rfl | (go_simp <;> fail)))
          | fail)
    go_ret
    exact ⟨by rw [HF.out]; rfl, B2.out⟩
end Go.Proofs.Ythionkcnmkhopaa
