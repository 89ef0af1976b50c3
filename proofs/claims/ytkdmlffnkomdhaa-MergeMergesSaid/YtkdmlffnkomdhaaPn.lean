/-
  WHAT LEADS FROM ONE MAP TO ANOTHER, AND WHAT AN EDIT MAKES, PATH BY PATH, PURE.
-/
import Derived.Test.YtkdmlffnkomdhaaPv
namespace Go.Proofs.Ytkdmlffnkomdhaa
set_option linter.unusedVariables false
set_option linter.unusedSimpArgs false

theorem find_path {α : Type} {p : α → ByteArray} {l : List α} {s : ByteArray} {r : α} (h : findW p l s = some r) : p r = s := by
  unfold findW at h
  have := List.find?_some h
  exact bytes_ext (by simpa using this)
/-- What the document's Diff has for a path. -/
def refD (la lb : List Rw) (s : ByteArray) : List Ch :=
  if ((findW Rw.p la s).isSome != (findW Rw.p lb s).isSome) || !((textR (findW Rw.p la s)).toList == (textR (findW Rw.p lb s)).toList) then [⟨s, (findW Rw.p lb s).isSome, textR (findW Rw.p lb s)⟩] else []
theorem refD_pD (la lb : List Rw) (s : ByteArray) : pD (findW Rw.p la s, findW Rw.p lb s) = refD la lb s := by
  unfold refD
  cases hx : findW Rw.p la s with
  | none =>
    cases hy : findW Rw.p lb s with
    | none => simp [pD, textR]
    | some b =>
      have := find_path hy
      simp [pD, textR, this]
  | some a =>
    have ha := find_path hx
    cases hy : findW Rw.p lb s with
    | none => simp [pD, textR, ha]
    | some b =>
      have := find_path hy
      cases ht : a.t.toList == b.t.toList with
      | true => simp [pD, textR, ht]
      | false => simp [pD, textR, ht, this]
theorem dif_paths {la lb : List Rw} (ha : Up Rw.p la) (hb : Up Rw.p lb) : dif la lb = (pathsW Rw.p (pathsW Rw.p [] la) lb).flatMap (refD la lb) := by
  unfold dif
  rw [merge_paths ha hb, List.flatMap_map]
  congr 1
  funext s
  exact refD_pD la lb s
/-- What the document's Apply has for a path. -/
def refA (la : List Rw) (lb : List Ch) (s : ByteArray) : List Rw :=
  match findW Ch.p lb s with
  | some c => if c.is then [⟨s, c.t⟩] else []
  | none => if (findW Rw.p la s).isSome then [⟨s, textR (findW Rw.p la s)⟩] else []
theorem refA_pA (la : List Rw) (lb : List Ch) (s : ByteArray) : pA (findW Rw.p la s, findW Ch.p lb s) = refA la lb s := by
  unfold refA
  cases hy : findW Ch.p lb s with
  | none =>
    cases hx : findW Rw.p la s with
    | none => simp [pA]
    | some a =>
      have ha := find_path hx
      obtain ⟨p, t⟩ := a
      simp only at ha
      subst ha
      simp [pA, textR]
  | some c =>
    have hc := find_path hy
    cases hi : c.is <;> cases hx : findW Rw.p la s <;> simp [pA, hi, hc]
theorem app_paths {la : List Rw} {lb : List Ch} (ha : Up Rw.p la) (hb : Up Ch.p lb) : app la lb = (pathsW Ch.p (pathsW Rw.p [] la) lb).flatMap (refA la lb) := by
  unfold app
  rw [merge_paths ha hb, List.flatMap_map]
  congr 1
  funext s
  exact refA_pA la lb s
end Go.Proofs.Ytkdmlffnkomdhaa
