/-
  STAGE 7's STATEMENTS: the layer does something (pure part).
-/
import Derived.Test.YtgpakahmccafdaaMr
namespace Go.Proofs.Ytgpakahmccafdaa
set_option linter.unusedVariables false
set_option linter.unusedSimpArgs false
open Go.RowKit Go.WideShapes Go.ChangeShapes Go.Deep

abbrev wk1 : List Rw := [⟨⟨#[97]⟩, ⟨#[49]⟩⟩]
abbrev wk2 : List Rw := [⟨⟨#[97]⟩, ⟨#[50]⟩⟩]
abbrev wk3 : List Rw := [⟨⟨#[97]⟩, ⟨#[51]⟩⟩]
abbrev wk4 : List Rw := [⟨⟨#[97]⟩, ⟨#[49]⟩⟩, ⟨⟨#[98]⟩, ⟨#[51]⟩⟩]
theorem wk_aa : lt ⟨#[97]⟩ ⟨#[97]⟩ = false := by unfold lt; rw [ByteArray.toList_eq]; decide
theorem wk_ab : lt ⟨#[97]⟩ ⟨#[98]⟩ = true := by unfold lt; rw [ByteArray.toList_eq, ByteArray.toList_eq]; decide
theorem wk_ba : lt ⟨#[98]⟩ ⟨#[97]⟩ = false := by unfold lt; rw [ByteArray.toList_eq, ByteArray.toList_eq]; decide
theorem wk_paths : pathsW Rw.p [] (wk1 ++ (wk2 ++ wk4)) = [⟨#[97]⟩, ⟨#[98]⟩] := by
  simp [pathsW, withW, stW, stepW, wk_ab, wk_aa, wk_ba, ByteArray.toList_eq]
theorem wk_paths2 : pathsW Rw.p [] (wk1 ++ (wk2 ++ wk3)) = [⟨#[97]⟩] := by
  simp [pathsW, withW, stW, stepW, wk_ab, wk_aa, wk_ba, ByteArray.toList_eq]
theorem wk_r1 : rightR wk1 = true := by
  unfold rightR fitW fitP visW
  simp only [List.map_cons, List.map_nil, riseW, ByteArray.toList_eq]
  decide
theorem wk_r2 : rightR wk2 = true := by
  unfold rightR fitW fitP visW
  simp only [List.map_cons, List.map_nil, riseW, ByteArray.toList_eq]
  decide
theorem wk_r3 : rightR wk3 = true := by
  unfold rightR fitW fitP visW
  simp only [List.map_cons, List.map_nil, riseW, ByteArray.toList_eq]
  decide
theorem wk_r4 : rightR wk4 = true := by
  unfold rightR fitW fitP visW
  simp only [List.map_cons, List.map_nil, riseW, wk_ab, ByteArray.toList_eq]
  decide
theorem wk_pls : plsW wk1 wk2 wk4 = [⟨⟨#[97]⟩, ⟨true, ⟨#[49]⟩⟩, ⟨true, ⟨#[50]⟩⟩, ⟨true, ⟨#[49]⟩⟩⟩, ⟨⟨#[98]⟩, ⟨false, ⟨#[]⟩⟩, ⟨false, ⟨#[]⟩⟩, ⟨true, ⟨#[51]⟩⟩⟩] := by
  unfold plsW
  rw [wk_paths]
  simp [plW, sdW, findW, textR, ByteArray.toList_eq]
theorem wk_pls2 : plsW wk1 wk2 wk3 = [⟨⟨#[97]⟩, ⟨true, ⟨#[49]⟩⟩, ⟨true, ⟨#[50]⟩⟩, ⟨true, ⟨#[51]⟩⟩⟩] := by
  unfold plsW
  rw [wk_paths2]
  simp [plW, sdW, findW, textR, ByteArray.toList_eq]
theorem wk_conf : confW wk1 wk2 wk4 = [] := by
  unfold confW
  rw [wk_pls]
  simp [conflW, sameSd, ByteArray.toList_eq]
theorem wk_conf2 : confW wk1 wk2 wk3 = [⟨⟨#[97]⟩, ⟨true, ⟨#[49]⟩⟩, ⟨true, ⟨#[50]⟩⟩, ⟨true, ⟨#[51]⟩⟩⟩] := by
  unfold confW
  rw [wk_pls2]
  simp [conflW, sameSd, ByteArray.toList_eq]
theorem wk_merged : mergedW wk1 wk2 wk4 [] = [⟨⟨#[97]⟩, ⟨#[50]⟩⟩, ⟨⟨#[98]⟩, ⟨#[51]⟩⟩] := by
  unfold mergedW madeM
  rw [wk_pls]
  simp [pieceM, hasM, agreedW, conflW, sameSd, ByteArray.toList_eq]
theorem eqW_nil : eqW [] [] = true := by simp [eqW]
theorem wk_ce : confE wk1 wk2 wk4 = 0 := by unfold confE; rw [wk_r1, wk_r2, wk_r4]; rfl
theorem wk_ce2 : confE wk1 wk2 wk3 = 0 := by unfold confE; rw [wk_r1, wk_r2, wk_r3]; rfl
theorem wk_me : mergeE wk1 wk2 wk4 [] = 0 := by
  unfold mergeE
  rw [wk_ce, wk_conf, rightC_nil, eqW_nil]
  unfold mergedE
  rw [wk_merged]
  simp
end Go.Proofs.Ytgpakahmccafdaa
