/-
  COMMANDS: their bytes; Encode.
-/
import Derived.Test.YthionkcnmkhopaaEd
namespace Go.Proofs.Ythionkcnmkhopaa
set_option linter.unusedVariables false
set_option linter.unusedSimpArgs false
open Go.RowKit Go.WideShapes Go.ChangeShapes Go.Deep
attribute [local irreducible] wpQuiet

theorem Kc.grown {w W W' : World} {x : Cf} {r : Option Nat} (h : Kc w x W) (hg : W.grownBy W' r) (hr : ∀ g, r = some g → w.heap.size + 1 ≤ g) : Kc w x W' :=
  ⟨h.b.grown hg h.b.size (fun k hk => by have := hr k hk; omega), h.l.kp (hg.block _ h.l.lt (fun e => by have := hr _ e.symm; omega)) hg.size⟩
theorem Kc.old {w W : World} {x : Cf} (h : Kc w x W) : SlB W W.heap.size (some ⟨w.heap.size, 4, none⟩) 32 32 x.old.b := by
  obtain ⟨_, _, _, _, h4, _, _⟩ := cf_lies h.l
  refine ⟨x.old.h, Nat.le_refl _, by unfold maxLen; omega, (fun e => by cases e), fun _ => ⟨_, 4, rfl, h.l.lt, fun j hj => ?_⟩⟩
  exact h4 j (bv x.old.b[j]) (by simp [Idv.cells, bvs, hj])
theorem Kc.new_ {w W : World} {x : Cf} (h : Kc w x W) : SlB W W.heap.size (some ⟨w.heap.size, 36, none⟩) 32 32 x.new.b := by
  obtain ⟨_, _, _, _, _, h4, _⟩ := cf_lies h.l
  refine ⟨x.new.h, Nat.le_refl _, by unfold maxLen; omega, (fun e => by cases e), fun _ => ⟨_, 36, rfl, h.l.lt, fun j hj => ?_⟩⟩
  exact h4 j (bv x.new.b[j]) (by simp [Idv.cells, bvs, hj])
/-- A row of bytes that grows beside the box. -/
structure Ky (w : World) (x : Cf) (W : World) (A : Option Addr) (m c : Nat) (l : List UInt8) : Prop where
  k : Kc w x W
  own : OwnB W (w.heap.size + 1) A m c l
  z : w.heap.size + 1 ≤ W.heap.size
theorem Ky.app {w W W' : World} {x : Cf} {A : Option Addr} {m c k : Nat} {l l2 : List UInt8} {v' : Value} (h : Ky w x W A m c l) (ho : W'.ownsRow (w.heap.size + 1) 5 1 v' (m + k) (bvs (l ++ l2))) (hg : W.grownBy W' (Value.ownBlock (.slice A m c))) :
    ∃ A' c', v' = .slice A' (m + k) c' ∧ Ky w x W' A' (m + k) c' (l ++ l2) := by
  obtain ⟨A', c', rfl⟩ := own_form ho
  exact ⟨A', c', rfl, h.k.grown hg (fun g e => (h.own.lt g e).1), ho, Nat.le_trans h.z hg.size⟩
theorem Ky.put {w W W' : World} {x : Cf} {A : Option Addr} {m c k g : Nat} {l l2 : List UInt8} (h : Ky w x W A m c l) (hg : W.heap.size ≤ g) (hb : Bl W' g 5 (bvs (l ++ l2))) (hl : l2.length = k) (hm : m + k ≤ maxLen) (hB : Below W.heap.size W W') : Ky w x W' (some ⟨g, 0, none⟩) (m + k) (m + k) (l ++ l2) :=
  ⟨h.k.step hB, OwnB.of_bl hb (Nat.le_trans h.z hg) (by rw [List.length_append, hl, h.own.sl.len]) hm, Nat.le_trans h.z hB.size⟩
theorem Ky.alloc {w W : World} {x : Cf} {A : Option Addr} {m c : Nat} {l : List UInt8} (h : Ky w x W A m c l) (o : Obj) : Ky w x (W.alloc o) A m c l :=
  ⟨h.k.step ((Below.refl _ _).alloc (Nat.le_refl _) _), h.own.alloc _, by have := h.z; simp; omega⟩
def layC (x : Cf) (d : List UInt8) : List UInt8 := ((((((([UInt8.ofNat x.kind.toNat, UInt8.ofNat x.client.toNat] ++ be 4 x.seq) ++ [UInt8.ofNat x.branch.size]) ++ strB x.branch) ++ x.old.b) ++ x.new.b) ++ be 2 d.length) ++ d)
theorem one_byte (W : World) (k : Nat) (hk : k < 256) : SlB (W.alloc (.cells #[.int .u8 (k : Int)] 5)) (W.heap.size + 1) (some ⟨W.heap.size, 0, none⟩) 1 1 [UInt8.ofNat k] := by
  have := lit_sl W [UInt8.ofNat k] (by simp)
  rwa [show bvs [UInt8.ofNat k] = [.int .u8 (k : Int)] from by rw [← byte_small hk]; rfl] at this
set_option maxHeartbeats 4000000 in
set_option maxRecDepth 100000 in
theorem laid_any (w : World) (x : Cf) (A : Option Addr) (n c : Nat) (d : List UInt8) (hdv : x.dv = .slice A n c) (hs : SlB w w.heap.size A n c d) (hk : 0 ≤ x.kind ∧ x.kind < 256) (hc : 0 ≤ x.client ∧ x.client < 256) (hq : x.seq < 4294967296) (hb : x.branch.size < 256) (hn : n < 65536) :
    Calls Try.prog 18 #[cfV x] w fun e w' => (∃ A' m c', e = .returned (.slice A' m c') ∧ OwnB w' w.heap.size A' m c' (layC x d)) ∧ Below w.heap.size w w' := by
  obtain ⟨w1, hw1, K1⟩ := Kc.new w x
  have HW := Lib.hid hw1
  have s1 : w1.heap.size = w.heap.size + 1 := by rw [← hw1]; simp
  clear hw1
  obtain ⟨i0, hi, hz, hz1, hz2⟩ := info_parts info_u8
  obtain ⟨a0, a1, a2, a3, a4, a5, a6⟩ := cf_lies K1.out.l
  obtain ⟨kk, hkk⟩ : ∃ k : Nat, x.kind = (k : Int) := ⟨x.kind.toNat, by omega⟩
  obtain ⟨cc, hcc⟩ : ∃ k : Nat, x.client = (k : Int) := ⟨x.client.toNat, by omega⟩
  have hk8 : kk < 256 := by omega
  have hc8 : cc < 256 := by omega
  have wk : IntKind.u8.wrap (kk : Int) = (kk : Int) := by rw [IntKind.wrap_u8]; omega
  have wc : IntKind.u8.wrap (cc : Int) = (cc : Int) := by rw [IntKind.wrap_u8]; omega
  have wb : IntKind.u8.wrap ((x.branch.size : Nat) : Int) = (x.branch.size : Int) := by rw [IntKind.wrap_u8]; omega
  have wn : IntKind.u16.wrap ((n : Nat) : Int) = (n : Int) := by rw [IntKind.wrap_u16]; omega
  rw [hkk] at a0
  rw [hcc] at a1
  have LY : Hid (layC x d = ((((((([UInt8.ofNat kk, UInt8.ofNat cc] ++ be 4 x.seq) ++ [UInt8.ofNat x.branch.size]) ++ strB x.branch) ++ x.old.b) ++ x.new.b) ++ be 2 n) ++ d)) := Lib.hid (by
    unfold layC
    rw [hkk, hcc, hs.len]
    rfl)
  have HDV := Lib.hid hdv
  have HS : Hid (∀ W, Kc w x W → SlB W W.heap.size A n c d) := Lib.hid fun W hW => (hs.below hW.b).more hW.b.size
  clear hdv hs a3 a4 a5 a6
  obtain ⟨w2, hw2⟩ : ∃ w2, w1.alloc (.cells #[.int .u8 (kk : Int), .int .u8 (cc : Int)] 5) = w2 := ⟨_, rfl⟩
  have Y2 : Hid (Ky w x w2 (some ⟨w.heap.size + 1, 0, none⟩) 2 2 [UInt8.ofNat kk, UInt8.ofNat cc]) := Lib.hid (by
    have hB : Below w1.heap.size w1 w2 := by rw [← hw2]; exact (Below.refl _ _).alloc (Nat.le_refl _) _
    refine ⟨K1.out.step hB, OwnB.of_bl ?_ (Nat.le_refl _) rfl (by unfold maxLen; omega), by rw [← hw2]; simp; omega⟩
    rw [← hw2, ← s1, show bvs [UInt8.ofNat kk, UInt8.ofNat cc] = [.int .u8 (kk : Int), .int .u8 (cc : Int)] from by rw [← byte_small hk8, ← byte_small hc8]; rfl]
    exact Bl.new w1 _ _)
  have HW2 := Lib.hid hw2
  clear hw2
  go_enter Try.func18, Try.ntmps18
  go_upto_region 1 with fail
  rw [HW.out]
  clear HW
  go_upto_region 2 with fail
  rw [HW2.out]
  clear HW2
  obtain ⟨_, _, e2, _, _, _, _⟩ := cf_lies Y2.out.k.l
  go_upto_region 3 with (first
    | (go_at_call 34; refine (put_u32 Y2.out.own.sl (Nat.le_refl _) x.seq _ rfl hq (by omega)).mono ?_; rintro e w3 ⟨g3, hg, rfl, hb1, hB1⟩; have Y3 := Lib.hid (Y2.out.put hg hb1 (be_len _ _) (by unfold maxLen; omega) hB1); clear hb1 hB1 hg)
    | fail)
  clear e2
  obtain ⟨_, _, _, e3, _, _, _⟩ := cf_lies Y3.out.k.l
  have Y3a := Lib.hid (Y3.out.alloc (.cells #[.int .u8 (x.branch.size : Int)] 5))
  have S3a := Lib.hid (one_byte w3 x.branch.size hb)
  have z3 : w.heap.size + 1 ≤ (w3.alloc (.cells #[.int .u8 (x.branch.size : Int)] 5)).heap.size := Y3a.out.z
  go_upto_region 4 with (first
    | (at_builtin; refine wpList_append_sl rfl _ _ 25 rfl (w.heap.size + 1) 5 i0 Try.underlying25 hi hz hz1 hz2 _ (2 + 4) _ rfl Y3a.out.own rfl S3a.out (by omega) z3 ?_; intro v4 w4 ho4 hg4; obtain ⟨A4, c4, rfl, y4⟩ := Y3a.out.app ho4 hg4; have Y4 := Lib.hid y4; clear ho4 hg4 y4)
    | fail)
  clear e3 z3
  obtain ⟨_, _, _, e4, _, _, _⟩ := cf_lies Y4.out.k.l
  have z4 := Y4.out.z
  have O4 := Y4.out.own
  go_upto_region 5 with (first
    | (at_builtin; refine Lib.wpList_append_own_string w4 rfl _ _ 25 9 rfl (w.heap.size + 1) 5 i0 Try.underlying25 Try.underlying9 hi hz hz1 hz2 _ (2 + 4 + 1) _ rfl O4 x.branch rfl (by unfold maxLen; omega) (by omega) z4 ?_; intro v5 w5 ho5 hg5 _; rw [strB_cells, ← bvs_app] at ho5; obtain ⟨A5, c5, rfl, y5⟩ := Y4.out.app ho5 hg5; have Y5 := Lib.hid y5; clear ho5 hg5 y5)
    | fail)
  clear e4 z4 O4
  have z5 := Y5.out.z
  have S5 := Lib.hid Y5.out.k.old
  go_upto_region 6 with (first
    | (at_builtin; refine wpList_append_sl rfl _ _ 25 rfl (w.heap.size + 1) 5 i0 Try.underlying25 hi hz hz1 hz2 _ (2 + 4 + 1 + x.branch.size) _ rfl Y5.out.own rfl S5.out (by omega) z5 ?_; intro v6 w6 ho6 hg6; obtain ⟨A6, c6, rfl, y6⟩ := Y5.out.app ho6 hg6; have Y6 := Lib.hid y6; clear ho6 hg6 y6)
    | fail)
  clear z5
  have z6 := Y6.out.z
  have S6 := Lib.hid Y6.out.k.new_
  go_upto_region 7 with (first
    | (at_builtin; refine wpList_append_sl rfl _ _ 25 rfl (w.heap.size + 1) 5 i0 Try.underlying25 hi hz hz1 hz2 _ (2 + 4 + 1 + x.branch.size + 32) _ rfl Y6.out.own rfl S6.out (by omega) z6 ?_; intro v7 w7 ho7 hg7; obtain ⟨A7, c7, rfl, y7⟩ := Y6.out.app ho7 hg7; have Y7 := Lib.hid y7; clear ho7 hg7 y7)
    | fail)
  clear z6
  obtain ⟨_, _, _, _, _, _, e7⟩ := cf_lies Y7.out.k.l
  rw [HDV.out] at e7
  go_upto_region 8 with (first
    | (go_at_call 35; refine (put_u16 Y7.out.own.sl (Nat.le_refl _) n _ rfl hn (by omega)).mono ?_; rintro e w8 ⟨g8, hg, rfl, hb1, hB1⟩; have Y8 := Lib.hid (Y7.out.put hg hb1 (be_len _ _) (by unfold maxLen; omega) hB1); clear hb1 hB1 hg)
    | fail)
  clear e7
  obtain ⟨_, _, _, _, _, _, e8⟩ := cf_lies Y8.out.k.l
  rw [HDV.out] at e8
  have z8 := Y8.out.z
  have S8 := Lib.hid (HS.out w8 Y8.out.k)
  go_wp2_with (first
    | (at_builtin; refine wpList_append_sl rfl _ _ 25 rfl (w.heap.size + 1) 5 i0 Try.underlying25 hi hz hz1 hz2 _ (2 + 4 + 1 + x.branch.size + 32 + 32 + 2) _ rfl Y8.out.own rfl S8.out (by omega) z8 ?_; intro v9 w9 ho9 hg9; obtain ⟨A9, c9, rfl, y9⟩ := Y8.out.app ho9 hg9; have Y9 := Lib.hid y9; clear ho9 hg9 y9)
    | fail)
  go_ret
  exact ⟨⟨A9, _, c9, rfl, by rw [LY.out]; exact Y9.out.own.base_ (by omega)⟩, Y9.out.k.b⟩
end Go.Proofs.Ythionkcnmkhopaa
