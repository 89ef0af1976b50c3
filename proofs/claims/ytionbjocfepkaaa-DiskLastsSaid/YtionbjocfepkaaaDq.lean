/-
  CONTRACTS OF PACKAGE disk: Sync, Crash, Pending.
-/
import Derived.Test.YtionbjocfepkaaaDp
namespace Go.Proofs.Ytionbjocfepkaaa
set_option linter.unusedVariables false
open Go.RowKit Go.WideShapes Go.ChangeShapes

theorem enters_s1 (a : Value) (w : World) : (callFunc 49 #[a]).run Try.prog w = .ok (.enter 49 #[a]) w := by kernel_rfl
theorem enters_s2 (z : Value) (w : World) : (callFunc 50 (#[z] ++ #[])).run Try.prog w = .ok (.enter 50 (#[z] ++ #[])) w := by kernel_rfl
theorem enters_c1 (b z : Value) (w : World) : (callFunc 38 (#[z] ++ #[b])).run Try.prog w = .ok (.enter 38 (#[z] ++ #[b])) w := by kernel_rfl

theorem sync11_any (z : Int) (w : World) : Calls Try.prog 50 #[.int .i64 z] w fun e w' => e = .returned (.bool true) ∧ w' = w := by
  go_enter Try.func50, Try.ntmps50
  go_wp2
  go_ret
  exact ⟨rfl, rfl⟩

theorem Dk.settled {w w' : World} {g : Nat} {S : Nat → Prop} {M : Mo} {ga : Nat} {O : Value} {W : Nat → Value} (h : DkAt w g S M ga O W) {lv : Nat → Bool} (hr : ∃ wr, SetRel w S M ga lv M.wt.length wr ∧ w' = wr.setCell ⟨g, 1, none⟩ (.slice none 0 0)) :
    Dk w' g S { M with safe := settleL lv M.wt 0 M.safe, wt := [] } ∧ Mv S w w' := by
  obtain ⟨wr, hr, rfl⟩ := hr
  obtain ⟨h1, h2⟩ := SetRel.stop h hr
  exact ⟨⟨_, _, _, h1⟩, h2⟩

theorem sync1_any {w : World} {bd g : Nat} {S : Nat → Prop} {M : Mo} (h : Dk w g S M) (h0 : w.cell? ⟨bd, 0, none⟩ = some (rp g)) (hwt : M.wt.length ≤ 1000000000) :
    Calls Try.prog 49 #[rp bd] w fun e w' => e = .returned (.tuple #[]) ∧ Stepped w g S { M with safe := settleL (fun _ => true) M.wt 0 M.safe, wt := [] } w' := by
  obtain ⟨ga, O, W, h⟩ := h
  have hh := settle_raw h 50 #[] (fun _ => true) hwt enters_s2 (fun i w' _ _ => sync11_any i w')
  have HH := Lib.hid hh
  have HD := Lib.hid h
  clear hh h
  go_enter Try.func49, Try.ntmps49
  go_wp2_with (go_at_call 37; refine (HH.out).mono ?_; rintro e w' ⟨rfl, hw⟩)
  go_end0
  obtain ⟨h1, h2⟩ := Dk.settled HD.out hw
  exact ⟨rfl, Stepped.mk_ h1 h2⟩

theorem sync_nil (w : World) :
    Calls Try.prog 24 #[.pointer none] w fun e w' => e = .returned (.int .i64 1) ∧ Below w.heap.size w w' := by
  have hb := (box1 w (.pointer none) 24).1
  go_enter Try.func24, Try.ntmps24
  go_wp2_with (go_at_call 40; refine (alter_nil _ _ _ _).mono ?_; rintro e w' ⟨rfl, hb1⟩)
  go_ret
  exact ⟨rfl, hb.trans (hb1.mono hb.size)⟩
theorem sync_dk {w : World} {g : Nat} {S : Nat → Prop} {M : Mo} (h : Dk w g S M) (hops : M.ops ≤ 4611686018427387904) (hwt : M.wt.length ≤ 1000000000) :
    Calls Try.prog 24 #[rp g] w fun e w' => e = .returned (.int .i64 M.sync.2) ∧ Stepped w g S M.sync.1 w' := by
  obtain ⟨hb, hc0⟩ := box1 w (rp g) 24
  have hls := h.lt
  have hh := alter_dk (h.below hb) true 49 #[rp w.heap.size] (settleL (fun _ => true) M.wt 0 M.safe) [] hops (fun _ => enters_s1 _ _) fun _ w1 hb1 hd1 => sync1_any hd1 ((hb1.cell (p := ⟨w.heap.size, 0, none⟩) (by simp)).trans hc0) hwt
  have HH := Lib.hid hh
  clear hh hc0 h
  go_enter Try.func24, Try.ntmps24
  go_wp2_with (go_at_call 40; refine (HH.out).mono ?_; rintro e w' ⟨rfl, hst⟩)
  go_ret
  obtain ⟨S', hd, hm, hg⟩ := hst
  exact ⟨rfl, S', hd, (Mv.of_below hb S).trans hm, fun b hb => (hg b hb).imp id fun h => by simp at h; omega⟩

def bls (l : List Bool) : List Value := l.map Value.bool
theorem bls_at {l : List Bool} {i : Nat} (h : i < l.length) : (bls l)[i]'(by simpa [bls] using h) = .bool l[i] := by simp [bls]
/-- What lives on. -/
def lvB (l : List Bool) (i : Nat) : Bool := l.getD i false
theorem crash1_any {w : World} {bk B : Nat} {A : Option Addr} {n c : Nat} {l : List Bool} (hs : SlV w B A n c (bls l)) (h0 : w.cell? ⟨bk, 0, none⟩ = some (.slice A n c)) (i : Nat) (hi : i ≤ 4611686018427387904) :
    Calls Try.prog 38 #[.int .i64 (i : Int), rp bk] w fun e w' => e = .returned (.bool (lvB l i)) ∧ w' = w := by
  have hl : l.length = n := by simpa [bls] using hs.len
  by_cases hin : i < n
  · obtain ⟨b, o, rfl, _, hc⟩ := hs.pos (by omega)
    have hci := hc i (by simp [bls]; omega)
    rw [bls_at (by omega)] at hci
    have e : lvB l i = l[i]'(by omega) := getD_of_lt (by omega)
    have hd : decide ((i : Int) < (n : Int)) = true := by simp; omega
    have hi0 : (0 : Int) ≤ (i : Int) := Int.natCast_nonneg _
    have hi1 : (i : Int) < (n : Int) := by omega
    obtain ⟨bb, hbb⟩ : ∃ bb, lvB l i = bb := ⟨_, rfl⟩
    rw [← e, hbb] at hci
    have HB := Lib.hid hbb
    clear e hbb hl hc hs
    go_enter Try.func38, Try.ntmps38
    go_wp2
    go_ret
    exact ⟨by rw [HB.out]; rfl, rfl⟩
  · have e : lvB l i = false := by
      unfold lvB
      rw [List.getD_eq_getElem?_getD, List.getElem?_eq_none (by omega)]
      rfl
    have E := Lib.hid e
    have hd : decide ((i : Int) < (n : Int)) = false := by simp; omega
    clear e hl hs
    go_enter Try.func38, Try.ntmps38
    go_wp2
    go_ret
    exact ⟨by rw [E.out]; rfl, rfl⟩

theorem crash_nil (v : Value) (hv : ∃ A n c, v = .slice A n c) (w : World) :
    Calls Try.prog 17 #[.pointer none, v] w fun e w' => e = .returned (.int .i64 1) ∧ Below w.heap.size w w' := by
  obtain ⟨A, n, c, rfl⟩ := hv
  have hb := (box1 w (.slice A n c) 33).1
  go_enter Try.func17, Try.ntmps17
  go_wp2
  go_ret
  exact ⟨rfl, hb⟩
theorem crash_dk {w : World} {g : Nat} {S : Nat → Prop} {M : Mo} (h : Dk w g S M) {B : Nat} {A : Option Addr} {n c : Nat} {l : List Bool} (hs : SlV w B A n c (bls l)) (hB : B ≤ w.heap.size) (hoff : ∀ x, A = some x → ¬ S x.block) (hwt : M.wt.length ≤ 1000000000) :
    Calls Try.prog 17 #[rp g, .slice A n c] w fun e w' => e = .returned (.int .i64 0) ∧ Stepped w g S (M.crash (lvB l)) w' := by
  obtain ⟨hb, hc0⟩ := box1 w (.slice A n c) 33
  have hls := h.lt
  have h1 := h.below hb
  have hsg := h.sg
  obtain ⟨ga, O, W, h1⟩ := h1
  have hh := settle_raw h1 38 #[rp w.heap.size] (lvB l) hwt (enters_c1 _) fun i w' hi hm => by
    refine crash1_any (w := w') (B := w'.heap.size) (A := A) (n := n) (c := c) (l := l) ?_ (hm.cell hc0 (fun e => by have := hls _ e; simp at this)) i (by omega)
    refine ⟨hs.len, hs.cap, hs.max, hs.non, fun hn => ?_⟩
    obtain ⟨b, o, e, hbB, hc⟩ := hs.pos hn
    have hbs : b < (w.alloc (.cells #[.slice A n c] 33)).heap.size := by simp; omega
    refine ⟨b, o, e, Nat.lt_of_lt_of_le hbs hm.size, fun j hj => ?_⟩
    exact cell_of_blk (hm.block b hbs (hoff _ e)) (cell_of_blk (hb.block b (by omega)) (hc j hj))
  have HH := Lib.hid hh
  have HD := Lib.hid h1
  clear hh hc0 h h1
  go_enter Try.func17, Try.ntmps17
  go_wp2_with (go_at_call 37; refine (HH.out).mono ?_; rintro e w1 ⟨rfl, hw⟩; obtain ⟨⟨ga1, O1, W1, hd1⟩, hm1⟩ := Dk.settled HD.out hw; have HD1 := Lib.hid hd1; have f2 := hd1.db.fz 2; have f3 := hd1.db.fz 3; have f4 := hd1.db.fz 4; have f5 := hd1.db.fz 5; have f6 := hd1.db.fz 6; have d2 := hd1.db.c2; have d3 := hd1.db.c3; have d4 := hd1.db.c4; have d5 := hd1.db.c5; have d6 := hd1.db.c6; clear hd1)
  go_ret
  refine ⟨rfl, ?_⟩
  have hd1 := HD1.out
  have hmg : Mv (fun b => b = g) w1 (((((w1.setCell ⟨g, 2, none⟩ (.bool false)).setCell ⟨g, 3, none⟩ (.int .i64 0)).setCell ⟨g, 4, none⟩ (.bool false)).setCell ⟨g, 5, none⟩ (.int .i64 0)).setCell ⟨g, 6, none⟩ (.bool false)) :=
    (((((Mv.refl (fun b => b = g) w1).set_ (p := ⟨g, 2, none⟩) (.inl rfl) _).set_ (p := ⟨g, 3, none⟩) (.inl rfl) _).set_ (p := ⟨g, 4, none⟩) (.inl rfl) _).set_ (p := ⟨g, 5, none⟩) (.inl rfl) _).set_ (p := ⟨g, 6, none⟩) (.inl rfl) _
  have hd2 := hd1.turn hmg (fu := nope) (fa := nope) (dead := false) (ops := M.ops) (((hd1.db.set23 nope).set45 nope).set6 false) FitC.nope FitC.nope (Int.le_refl _)
  exact Stepped.mk_ ⟨ga1, O1, W1, hd2⟩ (((Mv.of_below hb S).trans hm1).trans (hmg.own hsg))
end Go.Proofs.Ytionbjocfepkaaa
