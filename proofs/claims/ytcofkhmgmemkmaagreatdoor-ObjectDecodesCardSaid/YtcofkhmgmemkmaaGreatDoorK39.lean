/-
  WHAT THE CONDITION OF A ROW GIVES: the constants stand; an argument that is a row of bytes.
-/
import Derived.Test.YtcofkhmgmemkmaaGreatDoorK06
import Derived.Test.YtcofkhmgmemkmaaGreatDoorRows
import Derived.ProofKit
import Derived.LaidMore
import Derived.OpenShut
import Derived.Stop.Joined
import Derived.ChangeOld
import Derived.Carry
namespace Go.Proofs.YtcofkhmgmemkmaaGreatDoor.S3
set_option maxRecDepth 100000
set_option linter.unusedVariables false
set_option linter.unusedSimpArgs false
open Go.RowKit Go.WideShapes Go.ChangeShapes

theorem own : ownKnob Tryz.prog.godebug = none := by kernel_rfl
theorem laidOut : laidOutB Tryz.prog = true := by kernel_rfl
abbrev laidL {H : Type} : List (String × DataW H) := [("confluence/sha.constants", Rows.laid_confluence_sha_constants)]
theorem gK : Tryz.prog.globalNamed "confluence/sha.constants" = some 0 := by kernel_rfl
theorem tK : (Tryz.prog.globals[0]?).map (·.type) = some 152 := by kernel_rfl
theorem door_met (os : Os) (args : Array Value) : laidMetH Tryz.prog laidL ((World.doorLaid Tryz.prog 14 os).forCall (fun _ _ => 0) ⟨#[], args, []⟩).memory :=
  laidMetH_of_parts3 (fuel := 8) (laidMet_of_run' 8 (by kernel_rfl) (by kernel_rfl)) (by kernel_rfl) (by kernel_rfl)
theorem laid_ks {H : Type} : (Rows.laid_confluence_sha_constants : DataW H) = .agg (ksW.map fun x => .lit (.int .u32 (x.toNat : Int))) := rfl
theorem agg_inj {H : Type} {a b : List (DataW H)} (h : DataW.agg a = DataW.agg b) : a = b := by cases h; rfl
theorem gk_of_laid {W : World} (h : laidMetH Tryz.prog laidL W) : GK W := by
  rw [MakeChecks.laidMetH_plain _ _ _ (by kernel_rfl)] at h
  obtain ⟨ps, ⟨g0, t0, cs0, f0, p0, q0, hg0, ht0, hv0, hd0, _⟩, _, _⟩ := h
  obtain rfl := Option.some.inj (gK.symm.trans hg0)
  obtain rfl := Option.some.inj (tK.symm.trans ht0)
  obtain ⟨xs, m, rfl, hx, hlen, hn, hel⟩ := DataW.trod_array Tryz.underlying152 hd0
  have c1 : Tryz.prog.cellsOf 32 = 1 := by kernel_rfl
  simp only [Prod.mk.injEq] at hx
  have hx1 := agg_inj (laid_ks.symm.trans hx.1)
  have hcell : ∀ j, j < 64 → W.cell? ⟨0, j, none⟩ = some (wv (ksW.getD j 0)) := fun j hj => by
    have h1 := World.var?_cell hg0 hv0 j
    have h2 := hel j hj
    rw [c1, Nat.mul_one] at h2
    obtain ⟨x, hx⟩ : ∃ x, xs[j]? = some x := ⟨_, List.getElem?_eq_getElem (by omega)⟩
    rw [hx] at h2
    obtain ⟨k, e1, e2, _⟩ := DataW.trod_int Tryz.underlying32 h2
    have h3 : (xs.map (·.1))[j]? = some (.lit (.int .u32 k)) := by rw [List.getElem?_map, hx, e2]; rfl
    rw [← hx1, List.getElem?_map] at h3
    have hjk : j < ksW.length := by rw [ksW_len]; exact hj
    rw [List.getElem?_eq_getElem hjk] at h3
    simp only [Option.map_some, Option.some.injEq, DataW.lit.injEq, Lit.int.injEq, true_and] at h3
    have h4 : cs0.toList[j]? = some (.int .u32 k) := by
      have := congrArg (fun l => l[0]?) e1
      simp only [List.getElem?_take, List.getElem?_drop] at this
      simpa using this
    rw [h1, ← Array.getElem?_toList, h4, List.getD_eq_getElem?_getD, List.getElem?_eq_getElem hjk, ← h3]
    rfl
  refine ⟨?_, fun j v hv => ?_⟩
  · have := hcell 0 (by decide)
    exact Nat.lt_of_not_le fun h0 => by
      rw [World.cell?, Array.getElem?_eq_none h0] at this
      cases this
  · have hj : j < 64 := by
      have := (List.getElem?_eq_some_iff.1 hv).1
      rw [wvs_len, ksW_len] at this
      exact this
    rw [Nat.zero_add, hcell j hj, ← hv, List.getD_eq_getElem?_getD]
    simp [wvs, List.getElem?_eq_getElem (show j < ksW.length by rw [ksW_len]; exact hj)]

end Go.Proofs.YtcofkhmgmemkmaaGreatDoor.S3
