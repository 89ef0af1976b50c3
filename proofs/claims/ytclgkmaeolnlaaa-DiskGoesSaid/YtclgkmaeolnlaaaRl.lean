/-
  CONTRACTS OF THE STATEMENTS' HELPERS: should, whole.
-/
import Derived.Test.YtclgkmaeolnlaaaRka
import Derived.Test.YtclgkmaeolnlaaaRkb
import Derived.Test.YtclgkmaeolnlaaaRkc
import Derived.Test.YtclgkmaeolnlaaaRkd
import Derived.Test.YtclgkmaeolnlaaaRke
import Derived.Test.YtclgkmaeolnlaaaRkf
import Derived.Test.YtclgkmaeolnlaaaRkg
import Derived.Test.YtclgkmaeolnlaaaRkh
namespace Go.Proofs.Ytclgkmaeolnlaaa
set_option linter.unusedVariables false
set_option linter.unusedSimpArgs false
open Go.RowKit Go.WideShapes Go.ChangeShapes Go.Deep

abbrev ShOut (w : World) (A : Option Addr) (N : Int) (r : (Rs × List En) × List UInt8 × Int) : Ending → World → Prop := ShPost w A N r.1.1 r.1.2 r.2.1 r.2.2
theorem should_any {w : World} {A : Option Addr} {l c : Nat} {es : List En} (h : Ew w A l c es) (hl : l ≤ 1000000) {s : Rs} (hs : s.Ok) (hd : s.done ≤ 4611686018427387904) (N : Int) (hN : N ≤ 2048) (kind n : Int) (b : UInt8) {B : Nat} {KA : Option Addr} {kl kc : Nat} {ks : List Bool} (hk : SlV w B KA kl kc (bls ks)) (hB : B ≤ w.heap.size) :
    Calls Try.prog 16 #[s.val N (.slice A l c), actV kind n b KA kl kc] w (ShOut w A N (shouldR N s es kind n b ks)) := by
  rcases whichI_cases kind with e | e | e | e | e | e | e
  · have ha : shouldR N s es kind n b ks = (((s.begin N n false).1, es), (if (s.begin N n false).2 = 0 then holdE es n.toNat else Zb), (s.begin N n false).2) := by unfold shouldR; rw [if_pos e]
    rw [ha]
    exact should_0 h hl hs hd N hN kind n b hk hB e
  · have ha : shouldR N s es kind n b ks = (((s.begin N n true).1, if (s.begin N n true).2 = 0 then es ++ [⟨n.toNat, actB b, false⟩] else es), Zb, (s.begin N n true).2) := by unfold shouldR; rw [if_neg (by omega), if_pos (by omega)]
    rw [ha]
    exact should_1 h hl hs hd N hN kind n b hk hB e
  · have ha : shouldR N s es kind n b ks = (((s.begin N n true).1, if (s.begin N n true).2 = 0 then es ++ [⟨n.toNat, actB b, false⟩] else es), Zb, (s.begin N n true).2) := by unfold shouldR; rw [if_neg (by omega), if_pos (by omega)]
    rw [ha]
    exact should_2 h hl hs hd N hN kind n b hk hB e
  · have ha : shouldR N s es kind n b ks = (((s.begin N 0 true).1, if (s.begin N 0 true).2 = 0 then liveE (lvA true []) es 0 else es), Zb, (s.begin N 0 true).2) := by unfold shouldR; rw [if_neg (by omega), if_neg (by omega), if_pos e]
    rw [ha]
    exact should_3 h hl hs hd N hN kind n b hk hB e
  · cases hdd : s.dead
    · have ha : shouldR N s es kind n b ks = (({ s with fu := setR n }, es), Zb, 0) := by unfold shouldR; rw [if_neg (by omega), if_neg (by omega), if_neg (by omega), if_neg (by omega), if_neg (by rw [hdd]; decide), if_pos e]
      rw [ha]
      exact should_4a h hl hs hd N hN kind n b hk hB e hdd
    · have ha : shouldR N s es kind n b ks = ((s, es), Zb, 9) := by unfold shouldR; rw [if_neg (by omega), if_neg (by omega), if_neg (by omega), if_neg (by omega), if_pos hdd]
      rw [ha]
      exact should_4d h hl hs hd N hN kind n b hk hB e hdd
  · cases hdd : s.dead
    · have ha : shouldR N s es kind n b ks = (({ s with fa := setR n }, es), Zb, 0) := by unfold shouldR; rw [if_neg (by omega), if_neg (by omega), if_neg (by omega), if_neg (by omega), if_neg (by rw [hdd]; decide), if_neg (by omega)]
      rw [ha]
      exact should_5a h hl hs hd N hN kind n b hk hB e hdd
    · have ha : shouldR N s es kind n b ks = ((s, es), Zb, 9) := by unfold shouldR; rw [if_neg (by omega), if_neg (by omega), if_neg (by omega), if_neg (by omega), if_pos hdd]
      rw [ha]
      exact should_5d h hl hs hd N hN kind n b hk hB e hdd
  · have ha : shouldR N s es kind n b ks = ((⟨false, -1, -1, s.done⟩, liveE (lvA false (ks.take 200)) es 0), Zb, 0) := by unfold shouldR; rw [if_neg (by omega), if_neg (by omega), if_neg (by omega), if_pos e]
    rw [ha]
    exact should_6 h hl hs hd N hN kind n b hk hB e
end Go.Proofs.Ytclgkmaeolnlaaa
