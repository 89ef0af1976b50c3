/-
  COMMANDS THAT COME IN.
-/
import Derived.Test.YthionkcnmkhopaaEn
import Derived.ProofKit
import Derived.OpenShut
import Derived.ChangeOld
import Derived.Carry
import Derived.Deep.Slices
import Derived.Deep.Fields
import Derived.Lib.SmallJoins
import Derived.ChangeSame
namespace Go.Proofs.Ythionkcnmkhopaa
set_option linter.unusedVariables false
set_option linter.unusedSimpArgs false
open Go.RowKit Go.WideShapes Go.ChangeShapes Go.Deep

def asU8 : Value → UInt8
  | .int _ k => UInt8.ofNat k.toNat
  | _ => 0
/-- A row of bytes that came in. -/
theorem arr8_el {H : Type} {enc : TypeId × Value → H} {W : World} {base n m : Nat} {sp : Nat → Bool} {held : Bool} {t : TypeId} {cs : List Value} {y : DataW H × List MemPlace}
    (ht : Try.prog.underlying t = some (.array n 5)) (hc : Try.prog.cellsOf t = n) (hf : DataW.trod enc Try.prog W base sp held m t cs = some y) :
    ∃ l : List UInt8, l.length = n ∧ cs = bvs l := by
  obtain ⟨xs, m, _, _, hlen, hn, hel⟩ := DataW.trod_array ht hf
  have c1 : Try.prog.cellsOf 5 = 1 := by kernel_rfl
  rw [c1] at hel
  rw [hc] at hlen
  have hall : ∀ j, j < n → ∃ x : UInt8, cs[j]? = some (bv x) := fun j hj => by
    have h2 := hel j hj
    rw [Nat.mul_one] at h2
    obtain ⟨x, hx⟩ : ∃ x, xs[j]? = some x := ⟨_, List.getElem?_eq_getElem (by omega)⟩
    rw [hx] at h2
    obtain ⟨k, e1, _, hw⟩ := DataW.trod_int Try.underlying5 h2
    have h4 : cs[j]? = some (.int .u8 k) := by
      have := congrArg (fun l => l[0]?) e1
      simp only [List.getElem?_take, List.getElem?_drop] at this
      simpa using this
    have hb := bounds_u8 hw
    refine ⟨UInt8.ofNat k.toNat, h4.trans ?_⟩
    have : ((UInt8.ofNat k.toNat).toNat : Int) = k := by
      rw [UInt8.toNat_ofNat']
      omega
    unfold bv
    rw [this]
  refine ⟨cs.map asU8, by simpa using hlen, ?_⟩
  simp only [bvs]
  apply List.ext_getElem?
  intro j
  by_cases hj : j < n
  · obtain ⟨x, hx⟩ := hall j hj
    rw [hx, List.getElem?_map, List.getElem?_map, hx]
    simp [bv, asU8]
  · rw [List.getElem?_eq_none (by omega), List.getElem?_eq_none (by simp only [List.length_map]; omega)]
theorem split_at {α : Type} (l : List α) (a b : Nat) : l.drop a = (l.drop a).take b ++ l.drop (a + b) := by
  rw [← List.drop_drop, List.take_append_drop]
section
variable {H : Type} {enc : TypeId × Value → H} {W : World}
theorem cells_id : Try.prog.cellsOf 24 = 32 := by kernel_rfl
theorem cells_str : Try.prog.cellsOf 9 = 1 := by kernel_rfl
set_option maxRecDepth 100000 in
set_option maxHeartbeats 1000000 in
/-- A command that came in. -/
theorem cmd_arg {r : Reach} {b0 : Nat} {v : Value} {d : DataW H} {p : List MemPlace} (hv : Value.okWide Try.prog W r b0 27 v) (h : DataW.Trod enc Try.prog W 0 (fun _ => true) true 27 v d p) :
    ∃ x D, v = cfV (Cv.at_ x D) ∧ Cmd W W.heap.size x D := by
  obtain ⟨cs, rfl, hsz⟩ := okWide_struct Try.underlying27 hv
  have hC : Try.prog.cellsOf 27 = 69 := by kernel_rfl
  obtain ⟨fuel, hf⟩ := h
  obtain ⟨xs, n, _, _, hl, hlen, hfs⟩ := DataW.trod_struct Try.underlying27 hf
  have k6 : Try.prog.cellsOf 25 = 1 := by kernel_rfl
  have k9 : Try.prog.cellsOf 22 = 1 := by kernel_rfl
  have k10 : Try.prog.cellsOf 3 = 1 := by kernel_rfl
  obtain ⟨y0, y1, y2, y3, y4, y5, y6, rfl⟩ : ∃ y0 y1 y2 y3 y4 y5 y6, xs = [y0, y1, y2, y3, y4, y5, y6] := by
    match xs, hlen with
    | [y0, y1, y2, y3, y4, y5, y6], _ => exact ⟨y0, y1, y2, y3, y4, y5, y6, rfl⟩
  have f0 := hfs 0 _ rfl
  have f1 := hfs 1 _ rfl
  have f2 := hfs 2 _ rfl
  have f3 := hfs 3 _ rfl
  have f4 := hfs 4 _ rfl
  have f5 := hfs 5 _ rfl
  have f6 := hfs 6 _ rfl
  clear hfs
  simp only [Value.cells, List.getElem?_cons_zero, List.getElem?_cons_succ, List.getElem_toArray, List.getElem_cons_zero, List.getElem_cons_succ, cells_str, cells_id, k6, k9, k10] at f0 f1 f2 f3 f4 f5 f6
  obtain ⟨a0, e0, _, w0⟩ := DataW.trod_int Try.underlying3 f0
  obtain ⟨a1, e1, _, w1⟩ := DataW.trod_int Try.underlying3 f1
  obtain ⟨a2, e2, _, w2⟩ := DataW.trod_int Try.underlying22 f2
  obtain ⟨a3, e3, _, _⟩ := DataW.trod_string Try.underlying9 f3
  obtain ⟨a4, l4, e4⟩ := arr8_el Try.underlying24 cells_id f4
  obtain ⟨a5, l5, e5⟩ := arr8_el Try.underlying24 cells_id f5
  have one : ∀ k, k < 69 → ∃ c, (cs.toList.drop k).take 1 = [c] := fun k hk => by
    exact List.length_eq_one_iff.1 (by rw [List.length_take, List.length_drop, Array.length_toList]; omega)
  obtain ⟨c6, e6⟩ := one 68 (by omega)
  rw [e6] at f6
  obtain ⟨AL, nL, cL, L, rfl, hL⟩ : ∃ A n c l, c6 = .slice A n c ∧ SlB W W.heap.size A n c l := by
    rcases open_ints Try.underlying25 Try.underlying5 (by kernel_rfl) f6 with ⟨hcs, _⟩ | ⟨x, l, c, zs, hcs, _, hl, hm, hz, _, hcell, hwz⟩
    · injection hcs with hcs
      exact ⟨none, 0, 0, [], hcs, SlB.nil_.more (Nat.zero_le _)⟩
    · injection hcs with hcs
      obtain ⟨l', hs'⟩ := sl_arg hl hm (by simpa using hz) hcell hwz
      exact ⟨_, _, _, l', hcs, hs'⟩
  have b0 := bounds_i64 w0
  have b1 := bounds_i64 w1
  have b2 := bounds_u32 w2
  refine ⟨⟨a0, a1, a2.toNat, a3, ⟨a4, l4⟩, ⟨a5, l5⟩, L⟩, ⟨AL, nL, cL⟩, ?_, hL, b0, b1, by show a2.toNat < _; omega⟩
  have hall : cs.toList = Cf.cells (Cv.at_ ⟨a0, a1, a2.toNat, a3, ⟨a4, l4⟩, ⟨a5, l5⟩, L⟩ ⟨AL, nL, cL⟩) := by
    have hlen : cs.toList.length = 69 := by rw [Array.length_toList]; omega
    have s0 := split_at cs.toList 0 1
    have s1 := split_at cs.toList 1 1
    have s2 := split_at cs.toList 2 1
    have s3 := split_at cs.toList 3 1
    have s4 := split_at cs.toList 4 32
    have s5 := split_at cs.toList 36 32
    have s6 := split_at cs.toList 68 1
    have s7 : cs.toList.drop 69 = [] := List.drop_eq_nil_of_le (by omega)
    rw [s7] at s6
    simp only [Nat.reduceAdd, List.drop_zero] at s0 s1 s2 s3 s4 s5 s6
    rw [List.drop_zero] at e0
    rw [s0, s1, s2, s3, s4, s5, s6, e0, e1, e2, e3, e4, e5, e6]
    unfold Cf.cells Cv.at_
    rw [show ((a2.toNat : Nat) : Int) = a2 by omega]
    simp
  rw [show cfV (Cv.at_ ⟨a0, a1, a2.toNat, a3, ⟨a4, l4⟩, ⟨a5, l5⟩, L⟩ ⟨AL, nL, cL⟩) = .agg cs.toList.toArray from by rw [hall]]
end
end Go.Proofs.Ythionkcnmkhopaa
