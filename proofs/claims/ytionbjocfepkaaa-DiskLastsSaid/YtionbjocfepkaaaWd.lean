/-
  THE LAYER DOES SOMETHING: wakes.
-/
import Derived.Test.YtionbjocfepkaaaWc
namespace Go.Proofs.Ytionbjocfepkaaa
set_option linter.unusedVariables false
open Go.RowKit Go.WideShapes Go.ChangeShapes

/-- A slice that no step of the disk's touches. -/
structure SlS (w : World) (S : Nat → Prop) (A : Option Addr) (n c : Nat) (xs : List Value) : Prop where
  sl : SlV w w.heap.size A n c xs
  off : 0 < n → ∀ x, A = some x → ¬ S x.block
theorem SlS.lt {w : World} {S : Nat → Prop} {A : Option Addr} {n c : Nat} {xs : List Value} (h : SlS w S A n c xs) (hn : 0 < n) {x : Addr} (hx : A = some x) : x.block < w.heap.size := by
  obtain ⟨b, o, e, hb, _⟩ := h.sl.pos hn
  rw [hx] at e
  injection e with e
  subst e
  exact hb
theorem SlS.step {w w' : World} {S S' : Nat → Prop} {A : Option Addr} {n c : Nat} {xs : List Value} (h : SlS w S A n c xs) (hm : Mv S w w') (hg : Grow S S' w) : SlS w' S' A n c xs := by
  refine ⟨⟨h.sl.len, h.sl.cap, h.sl.max, h.sl.non, fun hn => ?_⟩, fun hn x hx hS => ?_⟩
  · obtain ⟨b, o, e, hb, hc⟩ := h.sl.pos hn
    exact ⟨b, o, e, Nat.lt_of_lt_of_le hb hm.size, fun j hj => cell_of_blk (hm.block b hb (h.off hn _ e)) (hc j hj)⟩
  · rcases hg _ hS with hg | hg
    · exact h.off hn x hx hg
    · have := h.lt hn hx; omega
theorem SlS.below {w w' : World} {S : Nat → Prop} {A : Option Addr} {n c : Nat} {xs : List Value} (h : SlS w S A n c xs) (hb : Below w.heap.size w w') : SlS w' S A n c xs :=
  ⟨⟨h.sl.len, h.sl.cap, h.sl.max, h.sl.non, fun hn => by
    obtain ⟨b, o, e, hlt, hc⟩ := h.sl.pos hn
    exact ⟨b, o, e, Nat.lt_of_lt_of_le hlt hb.size, fun j hj => cell_of_blk (hb.block b hlt) (hc j hj)⟩⟩, h.off⟩
theorem SlS.new {w w' : World} {S : Nat → Prop} {e : TypeId} {A : Option Addr} {n c : Nat} {xs : List Value} (h : w'.ownsRow w.heap.size e 1 (.slice A n c) n xs) (hs : ∀ b, S b → b < w.heap.size) : SlS w' S A n c xs :=
  ⟨own_slv h, fun hn x hx hS => by
    subst hx
    have := (h.lt x.block rfl).1
    have := hs _ hS
    omega⟩
/-- The law's own disk: all its blocks are new since B; nothing that was there at B has turned. -/
def Live (B : World) (w : World) (g : Nat) (S : Nat → Prop) (M : Mo) : Prop := Dk w g S M ∧ (∀ b, S b → B.heap.size ≤ b) ∧ Below B.heap.size B w
theorem Live.step {B w w' : World} {g : Nat} {S S' : Nat → Prop} {M M' : Mo} (h : Live B w g S M) (hd : Dk w' g S' M') (hm : Mv S w w') (hg : Grow S S' w) : Live B w' g S' M' :=
  ⟨hd, fun b hb => by
    rcases hg b hb with x | x
    · exact h.2.1 b x
    · have := h.2.2.size; omega, h.2.2.trans (hm.below h.2.1 h.2.2.size)⟩
theorem Live.below {B w w' : World} {g : Nat} {S : Nat → Prop} {M : Mo} (h : Live B w g S M) (hb : Below w.heap.size w w') : Live B w' g S M := ⟨h.1.below hb, h.2.1, h.2.2.trans (hb.mono h.2.2.size)⟩

def K1 : Mo := { safe := List.replicate 4 Zb, wt := [(1, actB 7)], fu := nope, fa := nope, dead := false, ops := 1 }
def K2 : Mo := { safe := List.replicate 4 Zb, wt := [(1, actB 7), (2, actB 9)], fu := nope, fa := nope, dead := false, ops := 2 }
def K3 : Mo := { safe := (List.replicate 4 Zb).set 2 (actB 9), wt := [], fu := nope, fa := nope, dead := false, ops := 2 }
def K4 : Mo := { safe := (List.replicate 4 Zb).set 2 (actB 9), wt := [], fu := nope, fa := nope, dead := false, ops := 3 }
def K5 : Mo := { safe := (List.replicate 4 Zb).set 2 (actB 9), wt := [], fu := (true, 0), fa := nope, dead := false, ops := 3 }
theorem k1 : (Mo.new 4).write 1 (actB 7) = (K1, 0) := by simp [Mo.write, Mo.alter, Mo.new, hasB, dueB, nope, K1, passed]
theorem k2 : K1.write 2 (actB 9) = (K2, 0) := by simp [Mo.write, Mo.alter, hasB, dueB, nope, K1, K2, passed]
theorem k3 : K2.crash (lvB [false, true]) = K3 := by simp [Mo.crash, K2, K3, settleL, lvB]
theorem k4 : K3.read 2 = (K4, actB 9, 0) := by simp [Mo.read, hasB, dueB, nope, K3, K4, passed, holdsOf, waitsOf]
theorem k5 : K4.arm 0 = (K5, 0) := by simp [Mo.arm, K4, K5]
theorem k6 : K5.sync.2 = 9 := by simp [Mo.sync, Mo.alter, K5, dueB, nope]
theorem k7 : K5.sync.1.dead = true := by simp [Mo.sync, Mo.alter, K5, dueB, nope]
theorem two_bools (w : World) : (Instr.buildSlice 33 2 #[(0, .bool false), (1, .bool true)]).run Try.prog w = .ok (.slice (some ⟨w.heap.size, 0, none⟩) 2 2) (w.alloc (.cells #[.bool false, .bool true] 4)) := by
  obtain ⟨i0, hi, hz, hz1, hz2⟩ := info_parts info_bool
  obtain ⟨r, hr, hrs, hrk⟩ := Great.fill_dense (s := 1) (by omega) [.bool false, .bool true] 0 ((Array.range (2 * i0.size)).map ((Value.bool false).cells[· % (Value.bool false).cells.size]!)) (by intro v hv; simp at hv; rcases hv with rfl | rfl <;> rfl) (by rw [hz1]; simp)
  have hre : r = #[.bool false, .bool true] := by
    apply Array.ext_getElem?
    intro k
    rw [hrk k]
    by_cases hk : k < 2
    · rw [if_pos ⟨by omega, by simp; omega⟩]
      rcases (show k = 0 ∨ k = 1 by omega) with rfl | rfl <;> simp [Value.cells]
    · rw [if_neg (by simp; omega)]
      rw [Array.getElem?_eq_none (by simp [hz1]; omega), Array.getElem?_eq_none (by simp; omega)]
  rw [hre] at hr
  exact run_buildSlice w _ _ 2 _ _ i0 _ Try.underlying33 hi hz (by rw [hz1]; omega) (by rw [hz1]; omega) (by rw [hz1] at hr ⊢; exact hr)

set_option maxRecDepth 100000 in
set_option maxHeartbeats 4000000 in
theorem wakes_any (w : World) : Calls Try.prog 5 #[] w fun e w' => e = .returned (.bool true) ∧ Below w.heap.size w w' := by
  go_enter Try.func5, Try.ntmps5
  go_wp2_with fail
  refine (new_any 4 (by omega) (by omega) w).mono ?_
  rintro e w1 ⟨g, S1, rfl, hd1, hS1, hb1⟩
  have L1 := Lib.hid (show Live w w1 g S1 (Mo.new 4) from ⟨hd1, hS1, hb1⟩)
  clear hd1 hS1 hb1
  go_wp2_with fail
  refine (block_any 0 0 7 none 0 0 _).mono ?_
  rintro e w2 ⟨rfl, hb2⟩
  have L2 := Lib.hid (L1.out.below hb2)
  clear hb2
  go_wp2_with fail
  refine (write_dk L2.out.1 1 (actB 7) (actB_len 7) (by decide) (by decide)).mono ?_
  rintro e w3 ⟨he3, S3, hd3, hm3, hg3⟩
  rw [k1] at he3 hd3
  subst he3
  have L3 := Lib.hid (L2.out.step hd3 hm3 hg3)
  clear hd3 hm3 hg3
  go_wp2_with fail
  refine (block_any 0 0 9 none 0 0 _).mono ?_
  rintro e w4 ⟨rfl, hb4⟩
  have L4 := Lib.hid (L3.out.below hb4)
  clear hb4
  go_wp2_with fail
  refine (write_dk L4.out.1 2 (actB 9) (actB_len 9) (by decide) (by decide)).mono ?_
  rintro e w5 ⟨he5, S5, hd5, hm5, hg5⟩
  rw [k2] at he5 hd5
  subst he5
  have L5 := Lib.hid (L4.out.step hd5 hm5 hg5)
  clear hd5 hm5 hg5
  go_wp2_with fail
  refine (pending_dk L5.out.1 (by decide)).mono ?_
  rintro e w6 ⟨v6, rfl, ho6, hb6⟩
  have ho6 : w6.ownsRow w5.heap.size 3 1 v6 2 (ints [1, 2]) := ho6
  obtain ⟨A6, c6, rfl⟩ := own_form ho6
  have P6 := Lib.hid (SlS.new ho6 L5.out.1.lt)
  have L6 := Lib.hid (L5.out.below hb6)
  clear ho6 hb6
  have htb := two_bools w6
  go_wp2_with fail
  have hbb : Below w6.heap.size w6 (w6.alloc (.cells #[.bool false, .bool true] 4)) := (Below.refl _ _).alloc (Nat.le_refl _) _
  have hkp : SlV (w6.alloc (.cells #[.bool false, .bool true] 4)) (w6.heap.size + 1) (some ⟨w6.heap.size, 0, none⟩) 2 2 (bls [false, true]) :=
    ⟨rfl, Nat.le_refl _, by unfold maxLen; omega, fun e => (by cases e), fun _ => ⟨w6.heap.size, 0, rfl, by omega, fun j hj => (by
      rw [Nat.zero_add]
      have := Bl.cell (Bl.new w6 4 [.bool false, .bool true]) j
      rw [this]
      rcases (show j = 0 ∨ j = 1 by simp [bls] at hj; omega) with rfl | rfl <;> rfl)⟩⟩
  refine (crash_dk (L6.out.below hbb).1 hkp (by simp) (fun x hx hS => by injection hx with hx; subst hx; have := L6.out.1.lt _ hS; simp at this) (by decide)).mono ?_
  rintro e w7 ⟨rfl, S7, hd7, hm7, hg7⟩
  have e7 : K2.crash (lvB [false, true]) = K3 := k3
  have hd7' : Dk w7 g S7 K3 := k3 ▸ hd7
  have L7 := Lib.hid ((L6.out.below hbb).step hd7' hm7 hg7)
  have P7 := Lib.hid ((P6.out.below hbb).step hm7 hg7)
  clear hd7 hm7 hg7 hd7' e7 hkp hbb htb
  go_wp2_with fail
  refine (read_dk L7.out.1 2 (by decide)).mono ?_
  rintro e w8 ⟨he8, S8, hd8, hm8, hg8⟩
  rw [k4] at he8 hd8
  subst he8
  have L8 := Lib.hid (L7.out.step hd8 hm8 hg8)
  have P8 := Lib.hid (P7.out.step hm8 hg8)
  clear hd8 hm8 hg8
  have HL9 := Lib.hid (actB_len 9)
  go_wp2_with (first
    | (with_reducible refine al_block rfl rfl ?_)
    | (with_reducible refine st_block rfl _ _ rfl w8.heap.size 0 (actB 9) HL9 rfl rfl (Z64_there w8) ?_))
  have hb9 : Below w8.heap.size w8 ((w8.alloc (.cells Z64 37)).setCells w8.heap.size 0 (bvs (actB 9))) := below_setCells ((Below.refl _ _).alloc (Nat.le_refl _) _) (Nat.le_refl _) _ _
  have L9 := Lib.hid (L8.out.below hb9)
  have P9 := Lib.hid (P8.out.below hb9)
  have hr9 := there_set HL9.out (Z64_there w8)
  have hz9 : w8.heap.size < ((w8.alloc (.cells Z64 37)).setCells w8.heap.size 0 (bvs (actB 9))).heap.size := by rw [(setCells_os _ _ _ _).2.2.2.1]; simp
  refine (arm_dk L9.out.1 0 (by omega)).mono ?_
  rintro e w10 ⟨he10, S10, hd10, hm10, hg10⟩
  rw [k5] at he10 hd10
  subst he10
  have L10 := Lib.hid (L9.out.step hd10 hm10 hg10)
  have P10 := Lib.hid (P9.out.step hm10 hg10)
  have R10 := Lib.hid (rangeAt_keep hr9 (hm10.block w8.heap.size hz9 (fun hS => by have := L8.out.1.lt _ hS; omega)))
  have N10 := Lib.hid (show ¬ S10 w8.heap.size from fun hS => by
    rcases hg10 _ hS with x | x
    · have := L8.out.1.lt _ x; omega
    · omega)
  have Z10 := Lib.hid (show w8.heap.size < w10.heap.size from Nat.lt_of_lt_of_le hz9 hm10.size)
  clear hd10 hm10 hg10 hr9 hz9 hb9
  go_wp2_with fail
  have hE : ∀ w : World, (binOp .eql 37 (.agg (bvs (actB 9)).toArray) (.agg (bvs (actB 9)).toArray)).run Try.prog w = .ok (.bool true) w := fun w => by rw [run_eql_blocks _ _ HL9.out HL9.out]; simp
  have hbX : Below w10.heap.size w10 (w10.alloc (.cells #[.int .i64 1, .int .i64 2] 3)).drew := ((Below.refl _ _).alloc (Nat.le_refl _) _).drew
  have LX := Lib.hid (L10.out.below hbX)
  have LX0 := Lib.hid (L10.out.below (show Below w10.heap.size w10 (w10.alloc (.cells #[.int .i64 1, .int .i64 2] 3)) from (Below.refl _ _).alloc (Nat.le_refl _) _))
  have PX := Lib.hid (P10.out.below hbX)
  have RX0 : Hid (w10.drew.rangeAt w8.heap.size 0 (bvs (actB 9))) := Lib.hid R10.out
  have RX := Lib.hid (rangeAt_keep R10.out (hbX.block _ Z10.out))
  have QX := Lib.hid (show SlV (w10.alloc (.cells #[.int .i64 1, .int .i64 2] 3)).drew (w10.heap.size + 1) (some ⟨w10.heap.size, 0, none⟩) 2 2 (ints [1, 2]) from
    ⟨rfl, Nat.le_refl _, by unfold maxLen; omega, fun e => (by cases e), fun _ => ⟨w10.heap.size, 0, rfl, by omega, fun j hj => (by
      rw [Nat.zero_add]
      have := Bl.cell (Bl.new w10 3 [.int .i64 1, .int .i64 2]) j
      refine Eq.trans this ?_
      rcases (show j = 0 ∨ j = 1 by simp [ints] at hj; omega) with rfl | rfl <;> rfl)⟩⟩)
  have HBX := Lib.hid hbX
  clear hbX
  have hu := Try.underlying37
  have hi : (Try.prog.info? 37).map (·.size) = some (bvs (actB 9)).length := size_of HL9.out
  have h64 : (bvs (actB 9)).length = 64 := by rw [bvs_len, HL9.out]
  go_region_held3 (fun w' => w'.rangeAt w8.heap.size 0 (bvs (actB 9))) (first | exact R13.out | exact R12.out | exact R11.out | exact RX.out | exact RX0.out)
    (first
      | (go_at_call 23; refine (equal_any PX.out.sl QX.out).mono ?_; rintro e w11 ⟨rfl, m11, hw11⟩; subst hw11; have R11 := Lib.hid (show ((w10.alloc (.cells #[.int .i64 1, .int .i64 2] 3)).drewN (1 + m11)).rangeAt w8.heap.size 0 (bvs (actB 9)) from RX.out); have L11 := Lib.hid (LX0.out.below (below_drewN (Below.refl _ _) (1 + m11))))
      | (go_at_call 14; refine (block_any 0 0 9 none 0 0 _).mono ?_; rintro e w12 ⟨rfl, hb12⟩; have L12 := Lib.hid (L11.out.below hb12); have R12 := Lib.hid (rangeAt_keep R11.out (hb12.block _ (Nat.lt_of_lt_of_le Z10.out HBX.out.size))); have Z12 := Lib.hid (Nat.le_trans HBX.out.size hb12.size); clear hb12)
      | (go_at_call 24; refine (sync_dk L12.out.1 (by decide) (by decide)).mono ?_; rintro e w13 ⟨he13, S13, hd13, hm13, hg13⟩; rw [k6] at he13; subst he13; have R13 := Lib.hid (rangeAt_keep R12.out (hm13.block _ (Nat.lt_of_lt_of_le Z10.out Z12.out) N10.out)); have L13 := Lib.hid (L12.out.step hd13 hm13 hg13); have D13 := Lib.hid (show w13.cell? ⟨g, 6, none⟩ = some (.bool true) from by { obtain ⟨ga, O, W, hd⟩ := hd13; have := hd.db.c6; rw [k7] at this; exact this }); clear hd13 hm13 hg13)
      | (go_at_call 25; refine (dead_any true D13.out).mono ?_; rintro e w14 ⟨rfl, rfl⟩))
  go_wp2
  go_ret
  exact ⟨rfl, L13.out.2.2⟩
end Go.Proofs.Ytionbjocfepkaaa
