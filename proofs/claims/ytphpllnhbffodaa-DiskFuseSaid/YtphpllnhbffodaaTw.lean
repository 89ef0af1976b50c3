/-
  TWO DISKS: a copy and its first; what one with a fuse or a fault does, told by one without.
-/
import Derived.Test.YtphpllnhbffodaaCc
import Derived.Test.YtphpllnhbffodaaRd
namespace Go.Proofs.Ytphpllnhbffodaa
set_option linter.unusedVariables false
set_option linter.unusedSimpArgs false
open Go.RowKit Go.WideShapes Go.ChangeShapes Go.Deep

/-- A disk with power, at which neither fuse nor fault is set. -/
structure Mo.Bare (M : Mo) : Prop where
  dead : M.dead = false
  fu : M.fu = nope
  fa : M.fa = nope
theorem Mo.Bare.plain {M : Mo} (h : M.Bare) : M.Plain := ⟨h.dead, by rw [h.fu]; rfl, by rw [h.fa]; rfl⟩
theorem Mo.Bare.new (n : Nat) : (Mo.new n).Bare := ⟨rfl, rfl, rfl⟩
/-- Is there, what an act asks for? -/
def thB (n : Nat) (kind i : Int) : Bool := decide (whichI kind = 3) || hasB n i
def Mo.fal (M : Mo) (n : Int) : Mo := { M with fa := (true, n) }
def Mo.fus (M : Mo) (n : Int) : Mo := { M with fu := (true, n) }

section
variable {M : Mo} {kind i : Int} {b : UInt8} {ks : List Bool}
theorem act_0 (h : whichI kind = 0) : M.act kind i b ks = M.read i := by unfold Mo.act; rw [if_pos h]
theorem act_12 (h : whichI kind = 1 ∨ whichI kind = 2) : M.act kind i b ks = ((M.write i (actB b)).1, Zb, (M.write i (actB b)).2) := by unfold Mo.act; rw [if_neg (by omega), if_pos h]
theorem act_3 (h : whichI kind = 3) : M.act kind i b ks = (M.sync.1, Zb, M.sync.2) := by unfold Mo.act; rw [if_neg (by omega), if_neg (by omega), if_pos h]
theorem kinds (h : whichI kind ≤ 3) : whichI kind = 0 ∨ (whichI kind = 1 ∨ whichI kind = 2) ∨ whichI kind = 3 := by
  rcases whichI_cases kind with e | e | e | e | e | e | e <;> omega
theorem Mo.Bare.act (h : M.Bare) (hk : whichI kind ≤ 3) : (M.act kind i b ks).1.Bare ∧ (M.act kind i b ks).1.safe.length = M.safe.length ∧ (M.act kind i b ks).1.wt.length ≤ M.wt.length + 1 ∧ M.ops ≤ (M.act kind i b ks).1.ops ∧ (M.act kind i b ks).1.ops ≤ M.ops + 1 := by
  obtain ⟨h1, h2, h3⟩ := h
  obtain ⟨sf, wt, fu, fa, dead, ops⟩ := M
  simp only at h1 h2 h3
  subst h1 h2 h3
  rcases kinds hk with e | e | e
  · rw [act_0 e]
    unfold Mo.read
    simp only [dueB, nope, passed, Bool.false_and, Bool.false_eq_true, if_false]
    split
    · exact ⟨⟨rfl, rfl, rfl⟩, rfl, Nat.le_succ _, Int.le_refl _, by show ops ≤ ops + 1; omega⟩
    · exact ⟨⟨rfl, rfl, rfl⟩, rfl, Nat.le_succ _, by show ops ≤ ops + 1; omega, Int.le_refl _⟩
  · rw [act_12 e]
    unfold Mo.write Mo.alter
    simp only [dueB, nope, passed, Bool.false_and, Bool.false_eq_true, if_false]
    split
    · exact ⟨⟨rfl, rfl, rfl⟩, rfl, Nat.le_succ _, Int.le_refl _, by show ops ≤ ops + 1; omega⟩
    · exact ⟨⟨rfl, rfl, rfl⟩, rfl, by simp, by show ops ≤ ops + 1; omega, Int.le_refl _⟩
  · rw [act_3 e]
    unfold Mo.sync Mo.alter
    simp only [dueB, nope, passed, Bool.false_and, Bool.false_eq_true, if_false, Bool.true_eq_false]
    exact ⟨⟨rfl, rfl, rfl⟩, settle_len _ _ _ _, Nat.zero_le _, by show ops ≤ ops + 1; omega, Int.le_refl _⟩
theorem thB_0 {n : Nat} (h : whichI kind ≠ 3) : thB n kind i = hasB n i := by unfold thB; rw [decide_eq_false h]; rfl
theorem thB_3 {n : Nat} (h : whichI kind = 3) : thB n kind i = true := by unfold thB; rw [decide_eq_true h]; rfl

theorem bare_miss (h : M.Bare) (hk : whichI kind ≤ 3) (ht : thB M.safe.length kind i = false) : M.act kind i b ks = (M, Zb, 2) := by
  obtain ⟨h1, h2, h3⟩ := h
  rcases kinds hk with e | e | e
  · rw [thB_0 (by omega)] at ht
    rw [act_0 e]
    simp [Mo.read, h1, ht]
  · rw [thB_0 (by omega)] at ht
    rw [act_12 e]
    simp [Mo.write, Mo.alter, h1, ht]
  · rw [thB_3 e] at ht; cases ht
theorem fal_miss (n : Int) (h : M.Bare) (hk : whichI kind ≤ 3) (ht : thB M.safe.length kind i = false) : (M.fal n).act kind i b ks = (M.fal n, Zb, 2) := by
  obtain ⟨h1, h2, h3⟩ := h
  rcases kinds hk with e | e | e
  · rw [thB_0 (by omega)] at ht
    rw [act_0 e]
    simp [Mo.read, Mo.fal, h1, ht]
  · rw [thB_0 (by omega)] at ht
    rw [act_12 e]
    simp [Mo.write, Mo.alter, Mo.fal, h1, ht]
  · rw [thB_3 e] at ht; cases ht
theorem fal_on {n : Int} (h : M.Bare) (hk : whichI kind ≤ 3) (ht : thB M.safe.length kind i = true) (hn : n ≠ 0) : (M.fal n).act kind i b ks = ((M.act kind i b ks).1.fal (n - 1), (M.act kind i b ks).2) := by
  obtain ⟨h1, h2, h3⟩ := h
  rcases kinds hk with e | e | e
  · rw [thB_0 (by omega)] at ht
    rw [act_0 e, act_0 e]
    simp [Mo.read, Mo.fal, h1, h2, h3, ht, dueB, nope, passed, hn]
  · rw [thB_0 (by omega)] at ht
    rw [act_12 e, act_12 e]
    simp [Mo.write, Mo.alter, Mo.fal, h1, h2, h3, ht, dueB, nope, passed, hn]
  · rw [act_3 e, act_3 e]
    simp [Mo.sync, Mo.alter, Mo.fal, h1, h2, h3, dueB, nope, passed, hn]
theorem fal_now (h : M.Bare) (hk : whichI kind ≤ 3) (ht : thB M.safe.length kind i = true) : (M.fal 0).act kind i b ks = (M, Zb, 8) := by
  obtain ⟨h1, h2, h3⟩ := h
  obtain ⟨sf, wt, fu, fa, dead, ops⟩ := M
  simp only at h1 h2 h3 ht
  subst h1 h2 h3
  rcases kinds hk with e | e | e
  · rw [thB_0 (by omega)] at ht
    rw [act_0 e]
    simp [Mo.read, Mo.fal, ht, dueB, nope]
  · rw [thB_0 (by omega)] at ht
    rw [act_12 e]
    simp [Mo.write, Mo.alter, Mo.fal, ht, dueB, nope]
  · rw [act_3 e]
    simp [Mo.sync, Mo.alter, Mo.fal, dueB, nope]
theorem fus_miss (n : Int) (h : M.Bare) (hk : whichI kind ≤ 3) (ht : thB M.safe.length kind i = false) : (M.fus n).act kind i b ks = (M.fus n, Zb, 2) := by
  obtain ⟨h1, h2, h3⟩ := h
  rcases kinds hk with e | e | e
  · rw [thB_0 (by omega)] at ht
    rw [act_0 e]
    simp [Mo.read, Mo.fus, h1, ht]
  · rw [thB_0 (by omega)] at ht
    rw [act_12 e]
    simp [Mo.write, Mo.alter, Mo.fus, h1, ht]
  · rw [thB_3 e] at ht; cases ht
theorem fus_read (n : Int) (h : M.Bare) (hk : whichI kind = 0) : (M.fus n).act kind i b ks = ((M.act kind i b ks).1.fus n, (M.act kind i b ks).2) := by
  obtain ⟨h1, h2, h3⟩ := h
  rw [act_0 hk, act_0 hk]
  cases ht : hasB M.safe.length i <;> simp [Mo.read, Mo.fus, h1, h2, h3, ht, dueB, nope, passed]
theorem fus_on {n : Int} (h : M.Bare) (hk : whichI kind ≤ 3) (h0 : 0 < whichI kind) (ht : thB M.safe.length kind i = true) (hn : n ≠ 0) : (M.fus n).act kind i b ks = ((M.act kind i b ks).1.fus (n - 1), (M.act kind i b ks).2) := by
  obtain ⟨h1, h2, h3⟩ := h
  rcases kinds hk with e | e | e
  · omega
  · rw [thB_0 (by omega)] at ht
    rw [act_12 e, act_12 e]
    simp [Mo.write, Mo.alter, Mo.fus, h1, h2, h3, ht, dueB, nope, passed, hn]
  · rw [act_3 e, act_3 e]
    simp [Mo.sync, Mo.alter, Mo.fus, h1, h2, h3, dueB, nope, passed, hn]
/-- The fuse is used up. -/
def Mo.out_ (M : Mo) : Mo := { M.fus 0 with dead := true }
theorem fus_now (h : M.Bare) (hk : whichI kind ≤ 3) (h0 : 0 < whichI kind) (ht : thB M.safe.length kind i = true) : (M.fus 0).act kind i b ks = (M.out_, Zb, 9) := by
  obtain ⟨h1, h2, h3⟩ := h
  rcases kinds hk with e | e | e
  · omega
  · rw [thB_0 (by omega)] at ht
    rw [act_12 e]
    simp [Mo.write, Mo.alter, Mo.fus, Mo.out_, h1, h2, h3, ht, dueB, nope, passed]
  · rw [act_3 e]
    simp [Mo.sync, Mo.alter, Mo.fus, Mo.out_, h1, h2, h3, dueB, nope, passed]
end

/-- Two disks that have to do with one another no more. -/
structure Tw (W w : World) (ga : Nat) (Sa : Nat → Prop) (Ma : Mo) (gb : Nat) (Sb : Nat → Prop) (Mb : Mo) : Prop where
  a : Live W w ga Sa Ma
  b : Live W w gb Sb Mb
  off : ∀ x, Sa x → ¬ Sb x
section
variable {W w w' : World} {ga gb : Nat} {Sa Sb Sa' Sb' : Nat → Prop} {Ma Mb Ma' Mb' : Mo}
theorem Live.apart {g : Nat} {S S' : Nat → Prop} {M : Mo} (h : Live W w g S M) (hm : Mv S' w w') (hs : ∀ b, S b → ¬ S' b) (hW : ∀ b, S' b → W.heap.size ≤ b) : Live W w' g S M :=
  ⟨h.1.apart hm hs, h.2.1, h.2.2.trans (hm.below hW h.2.2.size)⟩
theorem Tw.stepA (h : Tw W w ga Sa Ma gb Sb Mb) (hd : Dk w' ga Sa' Ma') (hm : Mv Sa w w') (hg : Grow Sa Sa' w) : Tw W w' ga Sa' Ma' gb Sb Mb :=
  ⟨h.a.step hd hm hg, h.b.apart hm (fun x hb ha => h.off x ha hb) h.a.2.1, fun x ha hb => by
    rcases hg x ha with k | k
    · exact h.off x k hb
    · have := h.b.1.lt x hb; omega⟩
theorem Tw.stepB (h : Tw W w ga Sa Ma gb Sb Mb) (hd : Dk w' gb Sb' Mb') (hm : Mv Sb w w') (hg : Grow Sb Sb' w) : Tw W w' ga Sa Ma gb Sb' Mb' :=
  ⟨h.a.apart hm (fun x ha hb => h.off x ha hb) h.b.2.1, h.b.step hd hm hg, fun x ha hb => by
    rcases hg x hb with k | k
    · exact h.off x ha k
    · have := h.a.1.lt x ha; omega⟩
theorem Tw.below (h : Tw W w ga Sa Ma gb Sb Mb) (hb : Below w.heap.size w w') : Tw W w' ga Sa Ma gb Sb Mb := ⟨h.a.below hb, h.b.below hb, h.off⟩
theorem Tw.start {g g' : Nat} {S S' : Nat → Prop} {M : Mo} (h : Live W w g S M) (hd : Dk w' g' S' M) (hS : ∀ b, S' b → w.heap.size ≤ b) (hb : Below w.heap.size w w') : Tw W w' g S M g' S' M :=
  ⟨h.below hb, ⟨hd, fun b h' => Nat.le_trans h.2.2.size (hS b h'), (h.below hb).2.2⟩, fun x ha hb' => by have := h.1.lt x ha; have := hS x hb'; omega⟩
end

theorem ops_dk {w : World} {g : Nat} {S : Nat → Prop} {M : Mo} (h : Dk w g S M) : Calls Try.prog 29 #[rp g] w fun e w' => e = .returned (.int .i64 M.ops) ∧ w = w' := by
  obtain ⟨ga, O, W, h⟩ := h
  exact ops_any M.ops (Bl.cell h.db 7)
theorem dead_dk {w : World} {g : Nat} {S : Nat → Prop} {M : Mo} (h : Dk w g S M) : Calls Try.prog 25 #[rp g] w fun e w' => e = .returned (.bool M.dead) ∧ w = w' := by
  obtain ⟨ga, O, W, h⟩ := h
  exact dead_any M.dead (Bl.cell h.db 6)
/-- The sectors of the writes that wait. -/
def secsOf (M : Mo) : List Int := M.wt.map fun p => (p.1 : Int)
theorem pend_dk {w : World} {g : Nat} {S : Nat → Prop} {M : Mo} (h : Dk w g S M) (hwt : M.wt.length ≤ 1000000000) :
    Calls Try.prog 18 #[rp g] w fun e w' => ∃ A n c, e = .returned (.slice A n c) ∧ w'.ownsRow w.heap.size 3 1 (.slice A n c) n (ints (secsOf M)) ∧ n = M.wt.length ∧ Below w.heap.size w w' := by
  refine (pending_dk h hwt).mono ?_
  rintro e w' ⟨v, rfl, ho, hb⟩
  rw [show (M.wt.map fun p => Value.int .i64 (p.1 : Int)) = ints (secsOf M) by simp [ints, secsOf]] at ho
  obtain ⟨A, c, rfl⟩ := own_form ho
  exact ⟨A, _, c, rfl, ho, rfl, hb⟩
theorem equal_one {w : World} {B B' : Nat} {A A' : Option Addr} {n c n' c' : Nat} {l : List Int} (hs : SlV w B A n c (ints l)) (hs' : SlV w B' A' n' c' (ints l)) :
    Calls Try.prog 28 #[.slice A n c, .slice A' n' c'] w fun e w' => e = .returned (.bool true) ∧ Below w.heap.size w w' :=
  (equal_any hs hs').mono fun e w' ⟨he, m, hw⟩ => ⟨by rw [he]; simp, by rw [hw]; exact below_drewN (Below.refl _ _) m⟩
/-- A value of six blocks, read out of a disk. -/
theorem six_eq {f : Nat → List UInt8} (hf : ∀ i, (f i).length = 64) (w : World) : (binOp .eql 50 (.agg (bvs (sixB f)).toArray) (.agg (bvs (sixB f)).toArray)).run Try.prog w = .ok (.bool true) w := by
  rw [run_eql_six _ _ (sixB_len _ hf) (sixB_len _ hf)]; simp

theorem Lies.mv_ {W W' : World} {S : Nat → Prop} {b k : Nat} {l : List Value} (h : Lies W b k l) (hm : Mv S W W') (hn : ¬ S b) : Lies W' b k l :=
  ⟨rangeAt_keep h.rg (hm.block b h.lt hn), there_keep h.th (hm.block b h.lt hn), Nat.lt_of_lt_of_le h.lt hm.size, h.len⟩
theorem blk_same {l : List UInt8} (hl : l.length = 64) (w : World) : (binOp .neq 37 (.agg (bvs l).toArray) (.agg (bvs l).toArray)).run Try.prog w = .ok (.bool false) w := by
  rw [run_neq_blocks _ _ hl hl]; simp
theorem blk_zero (w : World) : (binOp .neq 37 (.agg (bvs Zb).toArray) (.agg Z64)).run Try.prog w = .ok (.bool false) w := blk_same Zb_len w

/-- A slice that neither of the two disks' steps touches. -/
def Both (Sa Sb : Nat → Prop) : Nat → Prop := fun b => Sa b ∨ Sb b
theorem SlS.stepA {w w' : World} {Sa Sb Sa' : Nat → Prop} {A : Option Addr} {n c : Nat} {xs : List Value} (h : SlS w (Both Sa Sb) A n c xs) (hm : Mv Sa w w') (hg : Grow Sa Sa' w) : SlS w' (Both Sa' Sb) A n c xs :=
  h.step (hm.mono fun b hb => .inl (.inl hb)) fun b hb => hb.elim (fun x => (hg b x).imp .inl id) fun x => .inl (.inr x)
theorem SlS.stepB {w w' : World} {Sa Sb Sb' : Nat → Prop} {A : Option Addr} {n c : Nat} {xs : List Value} (h : SlS w (Both Sa Sb) A n c xs) (hm : Mv Sb w w') (hg : Grow Sb Sb' w) : SlS w' (Both Sa Sb') A n c xs :=
  h.step (hm.mono fun b hb => .inl (.inr hb)) fun b hb => hb.elim (fun x => .inl (.inl x)) fun x => (hg b x).imp .inr id
theorem Tw.both {W w : World} {ga gb : Nat} {Sa Sb : Nat → Prop} {Ma Mb : Mo} (h : Tw W w ga Sa Ma gb Sb Mb) : ∀ b, Both Sa Sb b → b < w.heap.size := fun b hb => hb.elim (h.a.1.lt b) (h.b.1.lt b)
theorem Tw.set_ {W w : World} {ga gb : Nat} {Sa Sb : Nat → Prop} {Ma Mb : Mo} (h : Tw W w ga Sa Ma gb Sb Mb) {p : Addr} (hp : ∀ b, Both Sa Sb b → b ≠ p.block) (hW : W.heap.size ≤ p.block) (u : Value) : Tw W (w.setCell p u) ga Sa Ma gb Sb Mb :=
  ⟨⟨h.a.1.keep (by simp [World.setCell]) fun b hb => Below.heap_setCell w p u b (hp b (.inl hb)), h.a.2.1, h.a.2.2.setCell hW u⟩, ⟨h.b.1.keep (by simp [World.setCell]) fun b hb => Below.heap_setCell w p u b (hp b (.inr hb)), h.b.2.1, h.b.2.2.setCell hW u⟩, h.off⟩
/-- Such a slice, to which the law stores. -/
theorem sls_own {w : World} {S : Nat → Prop} {base : Nat} {e : TypeId} {A : Option Addr} {n c : Nat} {xs : List Value} (h : w.ownsRow base e 1 (.slice A n c) n xs) (hs : ∀ b, S b → b < base) : SlS w S A n c xs :=
  ⟨own_slv h, fun hn x hx hS => by
    subst hx
    have := (h.lt x.block rfl).1
    have := hs _ hS
    omega⟩


/-- While a disk is used. -/
def UsR (W : World) (g k : Nat) (M : Mo) (w : World) : Prop := ∃ S, Live W w g S M ∧ M.Bare ∧ M.safe.length = 6 ∧ M.ops ≤ k ∧ (M.wt.length : Int) ≤ k
theorem UsR.below {W w w' : World} {g k : Nat} {M : Mo} (h : UsR W g k M w) (hb : Below w.heap.size w w') : UsR W g k M w' := by
  obtain ⟨S, h1, h2⟩ := h
  exact ⟨S, h1.below hb, h2⟩
theorem UsR.weak {W w : World} {g k : Nat} {M : Mo} (h : UsR W g k M w) : UsR W g (k + 1) M w := by
  obtain ⟨S, h1, h2, h3, h4, h5⟩ := h
  exact ⟨S, h1, h2, h3, by omega, by omega⟩
theorem UsR.step {W w w' : World} {g k : Nat} {S : Nat → Prop} {M : Mo} {kind i : Int} {b : UInt8} {ks : List Bool} (hL : Live W w g S M) (hB : M.Bare) (h6 : M.safe.length = 6) (ho : M.ops ≤ k) (hw : (M.wt.length : Int) ≤ k) (hk : whichI kind ≤ 3) (hs : Stepped w g S (M.act kind i b ks).1 w') : UsR W g (k + 1) (M.act kind i b ks).1 w' := by
  obtain ⟨S', hd, hm, hg⟩ := hs
  obtain ⟨a1, a2, a3, a4, a5⟩ := hB.act (i := i) (b := b) (ks := ks) hk
  exact ⟨S', hL.step hd hm hg, a1, a2.trans h6, by omega, by omega⟩

/-- What a round has when the act is taken out of the slice. -/
abbrev boxU (wr : World) (a : Ac) : World := wr.alloc (.cells #[.int .i64 a.kind, .int .i64 a.n, .int .u8 (a.b.toNat : Int), .slice a.A a.l a.c] 35)

set_option maxRecDepth 100000 in
set_option maxHeartbeats 1600000 in
theorem used_any (A : Option Addr) (n c : Nat) (l : List Ac) (B : Nat) (w : World) (hs : Acts w B A n c l) (hB : B ≤ w.heap.size) :
    Calls Try.prog 22 #[.slice A n c] w fun e w' => ∃ g S M, e = .returned (.tuple #[rp g, .bool true]) ∧ Live w w' g S M ∧ M.Bare ∧ M.safe.length = 6 ∧ M.ops ≤ 100 ∧ M.wt.length ≤ 100 := by
  have hsm := some_any A n c hs.cap hs.max
  obtain ⟨m, hm⟩ : ∃ m, min n 100 = m := ⟨_, rfl⟩
  have hm100 : m ≤ 100 := by omega
  have hsk := hs.take (k := m) (by omega)
  obtain ⟨al, has⟩ : ∃ al, l.take m = al := ⟨_, rfl⟩
  rw [has] at hsk
  rw [hm] at hsm
  have HS := Lib.hid hsk
  have HSM := Lib.hid hsm
  have HB := Lib.hid hB
  clear hs hsm hsk has hm hB
  go_enter Try.func22, Try.ntmps22
  go_wp2_with fail
  refine (new_any 6 (by omega) (by omega) w).mono ?_
  rintro e w2 ⟨g, S2, rfl, hd2, hS2, hb2⟩
  have R0 : Hid (UsR w g 0 (Mo.new 6) w2) := Lib.hid ⟨S2, ⟨hd2, hS2, hb2⟩, Mo.Bare.new 6, by simp [Mo.new], by simp [Mo.new], by simp [Mo.new]⟩
  clear hd2 hS2 hb2
  go_wp2_with (first
    | (go_at_call 10; refine (HSM.out _).mono ?_; rintro e w3 ⟨rfl, rfl⟩))
  go_loopw [15] (fun i wr => ∃ (k : Nat) (M : Mo), k ≤ m ∧ i = .int .i64 (k : Int) ∧ Hid (UsR w g k M wr)) (fun i _ => m - (intOf i).toNat)
  case atStart => exact ⟨0, Mo.new 6, Nat.zero_le _, rfl, R0⟩
  case round =>
    obtain ⟨k, M, hk, rfl, hrel⟩ := hrel
    by_cases hlt : k < m
    · have hd : decide ((k : Int) < (m : Int)) = true := by simp; omega
      have hk0 : (0 : Int) ≤ (k : Int) := Int.natCast_nonneg _
      have hk1 : (k : Int) < (m : Int) := by omega
      have hlas : al.length = m := HS.out.len
      obtain ⟨bb, oo, hA, hbb, hcells⟩ := HS.out.pos (by omega)
      have hcell := hcells k (by omega)
      obtain ⟨a, ha⟩ : ∃ a, al[k]'(by omega) = a := ⟨_, rfl⟩
      have haok := HS.out.ok a (by rw [← ha]; exact List.getElem_mem _)
      rw [ha] at hcell
      have hbw : Below w.heap.size w wr := by obtain ⟨S, h1, _⟩ := hrel.out; exact h1.2.2
      have hcw := rangeAt_keep hcell (hbw.block bb (Nat.lt_of_lt_of_le hbb HB.out))
      subst hA
      obtain ⟨kind, nn, b, Ak, lk, ck, ks⟩ := a
      have q0 : wr.cell? ⟨bb, oo + k * 4, none⟩ = some (.int .i64 kind) := hcw 0 _ rfl
      have q1 : wr.cell? ⟨bb, oo + k * 4 + 1, none⟩ = some (.int .i64 nn) := hcw 1 _ rfl
      have q2 : wr.cell? ⟨bb, oo + k * 4 + 2, none⟩ = some (.int .u8 (b.toNat : Int)) := hcw 2 _ rfl
      have q3 : wr.cell? ⟨bb, oo + k * 4 + 3, none⟩ = some (.slice Ak lk ck) := hcw 3 _ rfl
      have hqb : bb < wr.heap.size := Nat.lt_of_lt_of_le hbb (Nat.le_trans HB.out hbw.size)
      have HKS : Hid (SlV w B Ak lk ck (bls ks)) := Lib.hid haok.ks
      have HN := Lib.hid haok.n
      have hbx : Below wr.heap.size wr (boxU wr ⟨kind, nn, b, Ak, lk, ck, ks⟩) := (Below.refl _ _).alloc (Nat.le_refl _) _
      have RX := Lib.hid (hrel.out.below hbx)
      have BX := Lib.hid (Bl.new wr 35 [.int .i64 kind, .int .i64 nn, .int .u8 (b.toNat : Int), .slice Ak lk ck])
      clear hcell hcells ha haok hbw hcw hbx hlas
      go_wp2_with fail
      refine (which_any kind nn b Ak lk ck _).mono ?_
      rintro e w3 ⟨rfl, hb3⟩
      have RX3 := Lib.hid (RX.out.below hb3)
      have BX3 := Lib.hid (BX.out.below hb3 (by simp))
      have e0 := BX3.out.cell 0
      have e1 := BX3.out.cell 1
      have e2 := BX3.out.cell 2
      have e3 := BX3.out.cell 3
      simp only [List.getElem?_cons_zero, List.getElem?_cons_succ] at e0 e1 e2 e3
      clear hb3
      by_cases h4 : whichI kind < 4
      · have h4' : decide (whichI kind < 4) = true := by simpa using h4
        obtain ⟨S, hL, hB, h6, ho, hw⟩ := RX3.out
        have HH := Lib.hid (happens_dk kind nn b (ks := ks) (HKS.out.below (hL.2.2.mono HB.out)) (Nat.le_trans HB.out hL.2.2.size) hL.1 (by omega) (by omega) HN.out)
        have HU := Lib.hid (fun w' => UsR.step (w' := w') (i := nn) (b := b) (ks := ks) hL hB h6 ho hw (show whichI kind ≤ 3 by omega))
        clear hL hB h6 ho hw
        go_wp2_with fail
        refine (HH.out).mono ?_
        rintro e w5 ⟨rfl, hst⟩
        have R5 := Lib.hid (HU.out _ hst)
        clear hst
        go_wp2
        go_roundw
        case rel => exact ⟨k + 1, _, by omega, by go_num, R5⟩
        case measure => simp [intOf]; omega
      · have h4' : decide (whichI kind < 4) = false := by simpa using h4
        go_wp2
        go_roundw
        case rel => exact ⟨k + 1, M, by omega, by go_num, Lib.hid RX3.out.weak⟩
        case measure => simp [intOf]; omega
    · have hd : decide ((k : Int) < (m : Int)) = false := by simp; omega
      have HREL := hrel
      obtain ⟨S, hL, hB, h6, ho, hw⟩ := hrel.out
      have HL := Lib.hid hL
      have HP := Lib.hid (And.intro hB (And.intro h6 (And.intro ho hw)))
      clear hL hB h6 ho hw hrel HREL
      go_wp2
      go_ret2
      obtain ⟨p1, p2, p3, p4⟩ := HP.out
      exact ⟨g, S, M, rfl, HL.out, p1, p2, by omega, by omega⟩
end Go.Proofs.Ytphpllnhbffodaa
