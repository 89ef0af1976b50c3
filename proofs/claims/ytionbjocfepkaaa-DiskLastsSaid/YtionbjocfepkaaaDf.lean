/-
  CONTRACTS OF PACKAGE disk: Read.
-/
import Derived.Test.YtionbjocfepkaaaDe
import Derived.Deep.DrawnRows
namespace Go.Proofs.Ytionbjocfepkaaa
set_option linter.unusedVariables false
open Go.RowKit Go.WideShapes Go.ChangeShapes
attribute [local go_sem ↓] Go.wp_at_zero Go.wp_at_succ

theorem setCells_far {w : World} {b : Nat} {p : Addr} (h : p.block ≠ b) (o : Nat) (vs : List Value) : (w.setCells b o vs).cell? p = w.cell? p := World.cell?_of_block ((setCells_os b vs o w).2.2.2.2 _ h)
theorem there_below {w w' : World} {b o n B : Nat} (h : w.there b o n) (hb : Below B w w') (hB : b < B) : w'.there b o n := fun j hj => by
  obtain ⟨h1, h2⟩ := h j hj
  exact ⟨by rw [hb.cell (p := ⟨b, o + j, none⟩) hB]; exact h1, by rw [hb.frozen (p := ⟨b, o + j, none⟩) hB]; exact h2⟩
set_option maxRecDepth 100000 in
set_option maxHeartbeats 800000 in
theorem read1_any {w : World} {bd bi bb g ga n i : Nat} (x : List UInt8) (hx : x.length = 64) (h0 : w.cell? ⟨bd, 0, none⟩ = some (rp g)) (h1 : w.cell? ⟨bi, 0, none⟩ = some (.int .i64 (i : Int))) (h2 : w.cell? ⟨g, 0, none⟩ = some (.slice (some ⟨ga, 0, none⟩) n n)) (hin : i < n) (hn : n ≤ 2048)
    (hbb : w.there bb 0 64)
    (hbb' : bb < w.heap.size) (hd0 : bd ≠ bb) (hd1 : bi ≠ bb) (hd2 : g ≠ bb) (hh : ∀ w1, Below w.heap.size w w1 → Calls Try.prog 45 #[.pointer (some ⟨ga, i * 65, none⟩)] w1 fun e w' => e = .returned (.agg (bvs x).toArray) ∧ Below w1.heap.size w1 w') :
    Calls Try.prog 44 #[rp bd, rp bi, rp bb] w fun e w' => e = .returned (.int .i64 0) ∧ ∃ w1, Below w.heap.size w w1 ∧ w' = w1.setCells bb 0 (bvs x) := by
  have hk0 : (0 : Int) ≤ (i : Int) := Int.natCast_nonneg _
  have hk8 : (i : Int) < (n : Int) := by omega
  have hu := Try.underlying37
  have hi : (Try.prog.info? 37).map (·.size) = some (bvs x).length := size_of hx
  have h64 : (bvs x).length = 64 := by rw [bvs_len, hx]
  have hall := bvs_one x
  have hlt0 := block_lt_of_cell h0
  have hlt1 := block_lt_of_cell h1
  have hlt2 := block_lt_of_cell h2
  have HH := Lib.hid hh
  have HX := Lib.hid hx
  clear hh hx
  simp only at hlt0 hlt1 hlt2
  go_enter Try.func44, Try.ntmps44
  go_wp2
  go_region_held3 (fun w' => w'.cell? ⟨bd, 0, none⟩ = some (rp g) ∧ w'.cell? ⟨bi, 0, none⟩ = some (.int .i64 (i : Int)) ∧ w'.cell? ⟨g, 0, none⟩ = some (.slice (some ⟨ga, 0, none⟩) n n) ∧ w'.there bb 0 64) (first | (exact ⟨(setCells_far hd0 _ _).trans ((hb1.cell hlt0).trans h0), (setCells_far hd1 _ _).trans ((hb1.cell hlt1).trans h1), (setCells_far hd2 _ _).trans ((hb1.cell hlt2).trans h2), World.there_setCells (there_below hbb hb1 hbb') _ _ _⟩) | (exact ⟨(hb1.cell hlt0).trans h0, (hb1.cell hlt1).trans h1, (hb1.cell hlt2).trans h2, there_below hbb hb1 hbb'⟩) | go_keep_ranges)
    ((go_at_call 45; refine (HH.out _ (Below.refl _ _).drew).mono ?_; rintro e w1 ⟨rfl, hb⟩; have hb1 : Below w.heap.size w w1 := (Below.refl _ _).drew.trans hb; clear hb))
  go_wp2
  go_ret
  exact ⟨rfl, w1, hb1, rfl⟩
end Go.Proofs.Ytionbjocfepkaaa
