/-
  STAGE 5's STATEMENTS: the layer does something.
-/
import Derived.Test.YtjcegafidiifkaaPx
import Derived.Test.YtjcegafidiifkaaPz
namespace Go.Proofs.Ytjcegafidiifkaa
set_option linter.unusedVariables false
set_option linter.unusedSimpArgs false
open Go.RowKit Go.WideShapes Go.ChangeShapes Go.Deep

abbrev wkA : List Rw := [⟨⟨#[97]⟩, ⟨#[49]⟩⟩, ⟨⟨#[98]⟩, ⟨#[50]⟩⟩]
abbrev wkB : List Ch := [⟨⟨#[98]⟩, false, ⟨#[]⟩⟩, ⟨⟨#[99]⟩, true, ⟨#[51]⟩⟩]
theorem wk_ab : lt ⟨#[97]⟩ ⟨#[98]⟩ = true := by unfold lt; rw [ByteArray.toList_eq, ByteArray.toList_eq]; decide
theorem wk_bc : lt ⟨#[98]⟩ ⟨#[99]⟩ = true := by unfold lt; rw [ByteArray.toList_eq, ByteArray.toList_eq]; decide
theorem wk_ac : lt ⟨#[97]⟩ ⟨#[99]⟩ = true := by unfold lt; rw [ByteArray.toList_eq, ByteArray.toList_eq]; decide
theorem wk_made : applyW wkA wkB = [⟨⟨#[97]⟩, ⟨#[49]⟩⟩, ⟨⟨#[99]⟩, ⟨#[51]⟩⟩] := by
  rw [applyW_app, app_keep (by
    intro c hc
    simp only [List.mem_cons, List.not_mem_nil, or_false] at hc
    rcases hc with rfl | rfl
    · exact wk_ab
    · exact wk_ac), app_here rfl, app_new (by simp) rfl, app_nil]
  rfl
theorem wk_ra : rightR wkA = true := by
  unfold rightR fitW fitP visW
  simp only [List.map_cons, List.map_nil, riseW, wk_ab, ByteArray.toList_eq]
  decide
theorem wk_rb : rightC wkB = true := by
  unfold rightC fitW fitP visW mudW
  simp only [List.map_cons, List.map_nil, riseW, wk_bc, ByteArray.toList_eq, mud, List.any_cons, List.any_nil]
  decide
theorem wk_ok : applyE wkA wkB = 0 := by
  unfold applyE
  rw [wk_ra, wk_rb, wk_made]
  simp
theorem wk_same : sameRw ⟨⟨#[99]⟩, ⟨#[51]⟩⟩ ⟨⟨#[99]⟩, ⟨#[51]⟩⟩ = true := by unfold sameRw; simp
set_option maxRecDepth 100000 in
set_option maxHeartbeats 2000000 in
theorem wakes_any (w : World) : Calls Try.prog 9 #[] w fun e w' => e = .returned (.bool true) ∧ Below w.heap.size w w' := by
  obtain ⟨w2, hw2⟩ : ∃ w2, (w.alloc (.cells #[.string ⟨#[97]⟩, .string ⟨#[49]⟩, .string ⟨#[98]⟩, .string ⟨#[50]⟩] 56)).alloc (.cells #[.string ⟨#[98]⟩, .bool false, .string ⟨#[]⟩, .string ⟨#[99]⟩, .bool true, .string ⟨#[51]⟩] 38) = w2 := ⟨_, rfl⟩
  have B2 : Hid (Below w.heap.size w w2) := Lib.hid (by rw [← hw2]; exact ((Below.refl _ _).alloc (Nat.le_refl _) _).alloc (by simp) _)
  have X0 : SqR w2 w2.heap.size (some ⟨w.heap.size, 0, none⟩) 2 2 wkA := by
    have h := ((Lies.new w [.string ⟨#[97]⟩, .string ⟨#[49]⟩, .string ⟨#[98]⟩, .string ⟨#[50]⟩] 56).alloc (.cells #[.string ⟨#[98]⟩, .bool false, .string ⟨#[]⟩, .string ⟨#[99]⟩, .bool true, .string ⟨#[51]⟩] 38))
    refine ⟨rfl, Nat.le_refl _, by unfold maxLen; omega, (fun e => by cases e), rw_sz, fun _ => ⟨w.heap.size, 0, rfl, by rw [← hw2]; simp; omega, ?_⟩⟩
    rw [← hw2]
    exact h.rg
  have X1 : SqC w2 w2.heap.size (some ⟨w.heap.size + 1, 0, none⟩) 2 2 wkB := by
    have h := Lies.new (w.alloc (.cells #[.string ⟨#[97]⟩, .string ⟨#[49]⟩, .string ⟨#[98]⟩, .string ⟨#[50]⟩] 56)) [.string ⟨#[98]⟩, .bool false, .string ⟨#[]⟩, .string ⟨#[99]⟩, .bool true, .string ⟨#[51]⟩] 38
    rw [World.size_alloc] at h
    refine ⟨rfl, Nat.le_refl _, by unfold maxLen; omega, (fun e => by cases e), ch_sz, fun _ => ⟨w.heap.size + 1, 0, rfl, by rw [← hw2]; simp, ?_⟩⟩
    rw [← hw2]
    exact h.rg
  have HA := Apply_any X0 (by omega) X1 (by omega)
  rw [wk_ok, wk_made] at HA
  simp only [if_true] at HA
  have HAP := Lib.hid HA
  have HW := Lib.hid hw2
  clear hw2 X0 X1 HA
  have hgd := row_guard
  have heq := fun w => eql_rows ⟨⟨#[99]⟩, ⟨#[51]⟩⟩ ⟨⟨#[99]⟩, ⟨#[51]⟩⟩ w
  rw [wk_same] at heq
  go_enter Try.func9, Try.ntmps9
  go_wp2_with fail
  rw [HW.out]
  clear HW
  refine HAP.out.mono ?_
  rintro e w3 ⟨A2, n2, c2, rfl, hsq, hb⟩
  have hn2 : n2 = 2 := by rw [← hsq.len]; rfl
  subst hn2
  obtain ⟨b, o, rfl, hbl, hrg⟩ := hsq.at_ (i := 1) (by omega)
  have r0 : w3.cell? ⟨b, o + 1 * 2, none⟩ = some (.string ⟨#[99]⟩) := hrg 0 _ rfl
  have r1 : w3.cell? ⟨b, o + 1 * 2 + 1, none⟩ = some (.string ⟨#[51]⟩) := hrg 1 _ rfl
  rw [Nat.one_mul] at r0 r1
  have HB := Lib.hid (B2.out.trans (hb.mono B2.out.size))
  have HC := Lib.hid (hb.size)
  clear hsq hb hrg HAP
  go_wp2_with fail
  go_ret
  exact ⟨rfl, HB.out.alloc HB.out.size _⟩
end Go.Proofs.Ytjcegafidiifkaa
