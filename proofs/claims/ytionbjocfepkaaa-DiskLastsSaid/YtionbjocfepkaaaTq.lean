/-
  TWO DISKS: a copy and its first; what one with a fuse or a fault does, told by one without.
  TWO PAIRS: a disk and the document's disk, and once more the two; neither pair has to do with the other's memory but for the writes that both may read.
  TWO PAIRS, their drawn regions: variables that are made at whatever time beside a call.
-/
import Derived.Test.YtionbjocfepkaaaCc
import Derived.Test.YtionbjocfepkaaaRd
import Derived.Test.YtionbjocfepkaaaRn
import Derived.Deep.DeepCutAuto
namespace Go.Proofs.Ytionbjocfepkaaa
set_option linter.unusedVariables false
set_option linter.unusedSimpArgs false
open Go.RowKit Go.WideShapes Go.ChangeShapes Go.Deep

/-- A disk with power, at which neither fuse nor fault is set. -/
structure Mo.Bare (M : Mo) : Prop where
  dead : M.dead = false
  fu : M.fu = nope
  fa : M.fa = nope
theorem Mo.Bare.plain {M : Mo} (h : M.Bare) : M.Plain := ⟨h.dead, by rw [h.fu]; rfl, by rw [h.fa]; rfl⟩
theorem Mo.Bare.new (n : Nat) : (Mo.new n).Bare := ⟨rfl, rfl, rfl⟩
/-- Is there, what an act asks for? -/
def thB (n : Nat) (kind i : Int) : Bool := decide (whichI kind = 3) || hasB n i
def Mo.fal (M : Mo) (n : Int) : Mo := { M with fa := (true, n) }
def Mo.fus (M : Mo) (n : Int) : Mo := { M with fu := (true, n) }

section
variable {M : Mo} {kind i : Int} {b : UInt8} {ks : List Bool}
theorem act_0 (h : whichI kind = 0) : M.act kind i b ks = M.read i := by unfold Mo.act; rw [if_pos h]
theorem act_12 (h : whichI kind = 1 ∨ whichI kind = 2) : M.act kind i b ks = ((M.write i (actB b)).1, Zb, (M.write i (actB b)).2) := by unfold Mo.act; rw [if_neg (by omega), if_pos h]
theorem act_3 (h : whichI kind = 3) : M.act kind i b ks = (M.sync.1, Zb, M.sync.2) := by unfold Mo.act; rw [if_neg (by omega), if_neg (by omega), if_pos h]
theorem kinds (h : whichI kind ≤ 3) : whichI kind = 0 ∨ (whichI kind = 1 ∨ whichI kind = 2) ∨ whichI kind = 3 := by
  rcases whichI_cases kind with e | e | e | e | e | e | e <;> omega
theorem Mo.Bare.act (h : M.Bare) (hk : whichI kind ≤ 3) : (M.act kind i b ks).1.Bare ∧ (M.act kind i b ks).1.safe.length = M.safe.length ∧ (M.act kind i b ks).1.wt.length ≤ M.wt.length + 1 ∧ M.ops ≤ (M.act kind i b ks).1.ops ∧ (M.act kind i b ks).1.ops ≤ M.ops + 1 := by
  obtain ⟨h1, h2, h3⟩ := h
  obtain ⟨sf, wt, fu, fa, dead, ops⟩ := M
  simp only at h1 h2 h3
  subst h1 h2 h3
  rcases kinds hk with e | e | e
  · rw [act_0 e]
    unfold Mo.read
    simp only [dueB, nope, passed, Bool.false_and, Bool.false_eq_true, if_false]
    split
    · exact ⟨⟨rfl, rfl, rfl⟩, rfl, Nat.le_succ _, Int.le_refl _, by show ops ≤ ops + 1; omega⟩
    · exact ⟨⟨rfl, rfl, rfl⟩, rfl, Nat.le_succ _, by show ops ≤ ops + 1; omega, Int.le_refl _⟩
  · rw [act_12 e]
    unfold Mo.write Mo.alter
    simp only [dueB, nope, passed, Bool.false_and, Bool.false_eq_true, if_false]
    split
    · exact ⟨⟨rfl, rfl, rfl⟩, rfl, Nat.le_succ _, Int.le_refl _, by show ops ≤ ops + 1; omega⟩
    · exact ⟨⟨rfl, rfl, rfl⟩, rfl, by simp, by show ops ≤ ops + 1; omega, Int.le_refl _⟩
  · rw [act_3 e]
    unfold Mo.sync Mo.alter
    simp only [dueB, nope, passed, Bool.false_and, Bool.false_eq_true, if_false, Bool.true_eq_false]
    exact ⟨⟨rfl, rfl, rfl⟩, settle_len _ _ _ _, Nat.zero_le _, by show ops ≤ ops + 1; omega, Int.le_refl _⟩
theorem thB_0 {n : Nat} (h : whichI kind ≠ 3) : thB n kind i = hasB n i := by unfold thB; rw [decide_eq_false h]; rfl
theorem thB_3 {n : Nat} (h : whichI kind = 3) : thB n kind i = true := by unfold thB; rw [decide_eq_true h]; rfl

theorem bare_miss (h : M.Bare) (hk : whichI kind ≤ 3) (ht : thB M.safe.length kind i = false) : M.act kind i b ks = (M, Zb, 2) := by
  obtain ⟨h1, h2, h3⟩ := h
  rcases kinds hk with e | e | e
  · rw [thB_0 (by omega)] at ht
    rw [act_0 e]
    simp [Mo.read, h1, ht]
  · rw [thB_0 (by omega)] at ht
    rw [act_12 e]
    simp [Mo.write, Mo.alter, h1, ht]
  · rw [thB_3 e] at ht; cases ht
theorem fal_miss (n : Int) (h : M.Bare) (hk : whichI kind ≤ 3) (ht : thB M.safe.length kind i = false) : (M.fal n).act kind i b ks = (M.fal n, Zb, 2) := by
  obtain ⟨h1, h2, h3⟩ := h
  rcases kinds hk with e | e | e
  · rw [thB_0 (by omega)] at ht
    rw [act_0 e]
    simp [Mo.read, Mo.fal, h1, ht]
  · rw [thB_0 (by omega)] at ht
    rw [act_12 e]
    simp [Mo.write, Mo.alter, Mo.fal, h1, ht]
  · rw [thB_3 e] at ht; cases ht
theorem fal_on {n : Int} (h : M.Bare) (hk : whichI kind ≤ 3) (ht : thB M.safe.length kind i = true) (hn : n ≠ 0) : (M.fal n).act kind i b ks = ((M.act kind i b ks).1.fal (n - 1), (M.act kind i b ks).2) := by
  obtain ⟨h1, h2, h3⟩ := h
  rcases kinds hk with e | e | e
  · rw [thB_0 (by omega)] at ht
    rw [act_0 e, act_0 e]
    simp [Mo.read, Mo.fal, h1, h2, h3, ht, dueB, nope, passed, hn]
  · rw [thB_0 (by omega)] at ht
    rw [act_12 e, act_12 e]
    simp [Mo.write, Mo.alter, Mo.fal, h1, h2, h3, ht, dueB, nope, passed, hn]
  · rw [act_3 e, act_3 e]
    simp [Mo.sync, Mo.alter, Mo.fal, h1, h2, h3, dueB, nope, passed, hn]
theorem fal_now (h : M.Bare) (hk : whichI kind ≤ 3) (ht : thB M.safe.length kind i = true) : (M.fal 0).act kind i b ks = (M, Zb, 8) := by
  obtain ⟨h1, h2, h3⟩ := h
  obtain ⟨sf, wt, fu, fa, dead, ops⟩ := M
  simp only at h1 h2 h3 ht
  subst h1 h2 h3
  rcases kinds hk with e | e | e
  · rw [thB_0 (by omega)] at ht
    rw [act_0 e]
    simp [Mo.read, Mo.fal, ht, dueB, nope]
  · rw [thB_0 (by omega)] at ht
    rw [act_12 e]
    simp [Mo.write, Mo.alter, Mo.fal, ht, dueB, nope]
  · rw [act_3 e]
    simp [Mo.sync, Mo.alter, Mo.fal, dueB, nope]
theorem fus_miss (n : Int) (h : M.Bare) (hk : whichI kind ≤ 3) (ht : thB M.safe.length kind i = false) : (M.fus n).act kind i b ks = (M.fus n, Zb, 2) := by
  obtain ⟨h1, h2, h3⟩ := h
  rcases kinds hk with e | e | e
  · rw [thB_0 (by omega)] at ht
    rw [act_0 e]
    simp [Mo.read, Mo.fus, h1, ht]
  · rw [thB_0 (by omega)] at ht
    rw [act_12 e]
    simp [Mo.write, Mo.alter, Mo.fus, h1, ht]
  · rw [thB_3 e] at ht; cases ht
theorem fus_read (n : Int) (h : M.Bare) (hk : whichI kind = 0) : (M.fus n).act kind i b ks = ((M.act kind i b ks).1.fus n, (M.act kind i b ks).2) := by
  obtain ⟨h1, h2, h3⟩ := h
  rw [act_0 hk, act_0 hk]
  cases ht : hasB M.safe.length i <;> simp [Mo.read, Mo.fus, h1, h2, h3, ht, dueB, nope, passed]
theorem fus_on {n : Int} (h : M.Bare) (hk : whichI kind ≤ 3) (h0 : 0 < whichI kind) (ht : thB M.safe.length kind i = true) (hn : n ≠ 0) : (M.fus n).act kind i b ks = ((M.act kind i b ks).1.fus (n - 1), (M.act kind i b ks).2) := by
  obtain ⟨h1, h2, h3⟩ := h
  rcases kinds hk with e | e | e
  · omega
  · rw [thB_0 (by omega)] at ht
    rw [act_12 e, act_12 e]
    simp [Mo.write, Mo.alter, Mo.fus, h1, h2, h3, ht, dueB, nope, passed, hn]
  · rw [act_3 e, act_3 e]
    simp [Mo.sync, Mo.alter, Mo.fus, h1, h2, h3, dueB, nope, passed, hn]
/-- The fuse is used up. -/
def Mo.out_ (M : Mo) : Mo := { M.fus 0 with dead := true }
theorem fus_now (h : M.Bare) (hk : whichI kind ≤ 3) (h0 : 0 < whichI kind) (ht : thB M.safe.length kind i = true) : (M.fus 0).act kind i b ks = (M.out_, Zb, 9) := by
  obtain ⟨h1, h2, h3⟩ := h
  rcases kinds hk with e | e | e
  · omega
  · rw [thB_0 (by omega)] at ht
    rw [act_12 e]
    simp [Mo.write, Mo.alter, Mo.fus, Mo.out_, h1, h2, h3, ht, dueB, nope, passed]
  · rw [act_3 e]
    simp [Mo.sync, Mo.alter, Mo.fus, Mo.out_, h1, h2, h3, dueB, nope, passed]
end

/-- Two disks that have to do with one another no more. -/
structure Tw (W w : World) (ga : Nat) (Sa : Nat → Prop) (Ma : Mo) (gb : Nat) (Sb : Nat → Prop) (Mb : Mo) : Prop where
  a : Live W w ga Sa Ma
  b : Live W w gb Sb Mb
  off : ∀ x, Sa x → ¬ Sb x
section
variable {W w w' : World} {ga gb : Nat} {Sa Sb Sa' Sb' : Nat → Prop} {Ma Mb Ma' Mb' : Mo}
theorem Live.apart {g : Nat} {S S' : Nat → Prop} {M : Mo} (h : Live W w g S M) (hm : Mv S' w w') (hs : ∀ b, S b → ¬ S' b) (hW : ∀ b, S' b → W.heap.size ≤ b) : Live W w' g S M :=
  ⟨h.1.apart hm hs, h.2.1, h.2.2.trans (hm.below hW h.2.2.size)⟩
theorem Tw.stepA (h : Tw W w ga Sa Ma gb Sb Mb) (hd : Dk w' ga Sa' Ma') (hm : Mv Sa w w') (hg : Grow Sa Sa' w) : Tw W w' ga Sa' Ma' gb Sb Mb :=
  ⟨h.a.step hd hm hg, h.b.apart hm (fun x hb ha => h.off x ha hb) h.a.2.1, fun x ha hb => by
    rcases hg x ha with k | k
    · exact h.off x k hb
    · have := h.b.1.lt x hb; omega⟩
theorem Tw.stepB (h : Tw W w ga Sa Ma gb Sb Mb) (hd : Dk w' gb Sb' Mb') (hm : Mv Sb w w') (hg : Grow Sb Sb' w) : Tw W w' ga Sa Ma gb Sb' Mb' :=
  ⟨h.a.apart hm (fun x ha hb => h.off x ha hb) h.b.2.1, h.b.step hd hm hg, fun x ha hb => by
    rcases hg x hb with k | k
    · exact h.off x ha k
    · have := h.a.1.lt x ha; omega⟩
theorem Tw.below (h : Tw W w ga Sa Ma gb Sb Mb) (hb : Below w.heap.size w w') : Tw W w' ga Sa Ma gb Sb Mb := ⟨h.a.below hb, h.b.below hb, h.off⟩
theorem Tw.start {g g' : Nat} {S S' : Nat → Prop} {M : Mo} (h : Live W w g S M) (hd : Dk w' g' S' M) (hS : ∀ b, S' b → w.heap.size ≤ b) (hb : Below w.heap.size w w') : Tw W w' g S M g' S' M :=
  ⟨h.below hb, ⟨hd, fun b h' => Nat.le_trans h.2.2.size (hS b h'), (h.below hb).2.2⟩, fun x ha hb' => by have := h.1.lt x ha; have := hS x hb'; omega⟩
end

theorem ops_dk {w : World} {g : Nat} {S : Nat → Prop} {M : Mo} (h : Dk w g S M) : Calls Try.prog 36 #[rp g] w fun e w' => e = .returned (.int .i64 M.ops) ∧ w = w' := by
  obtain ⟨ga, O, W, h⟩ := h
  exact ops_any M.ops (Bl.cell h.db 7)
theorem dead_dk {w : World} {g : Nat} {S : Nat → Prop} {M : Mo} (h : Dk w g S M) : Calls Try.prog 25 #[rp g] w fun e w' => e = .returned (.bool M.dead) ∧ w = w' := by
  obtain ⟨ga, O, W, h⟩ := h
  exact dead_any M.dead (Bl.cell h.db 6)
/-- The sectors of the writes that wait. -/
def secsOf (M : Mo) : List Int := M.wt.map fun p => (p.1 : Int)
theorem pend_dk {w : World} {g : Nat} {S : Nat → Prop} {M : Mo} (h : Dk w g S M) (hwt : M.wt.length ≤ 1000000000) :
    Calls Try.prog 16 #[rp g] w fun e w' => ∃ A n c, e = .returned (.slice A n c) ∧ w'.ownsRow w.heap.size 3 1 (.slice A n c) n (ints (secsOf M)) ∧ n = M.wt.length ∧ Below w.heap.size w w' := by
  refine (pending_dk h hwt).mono ?_
  rintro e w' ⟨v, rfl, ho, hb⟩
  rw [show (M.wt.map fun p => Value.int .i64 (p.1 : Int)) = ints (secsOf M) by simp [ints, secsOf]] at ho
  obtain ⟨A, c, rfl⟩ := own_form ho
  exact ⟨A, _, c, rfl, ho, rfl, hb⟩
theorem equal_one {w : World} {B B' : Nat} {A A' : Option Addr} {n c n' c' : Nat} {l : List Int} (hs : SlV w B A n c (ints l)) (hs' : SlV w B' A' n' c' (ints l)) :
    Calls Try.prog 23 #[.slice A n c, .slice A' n' c'] w fun e w' => e = .returned (.bool true) ∧ Below w.heap.size w w' :=
  (equal_any hs hs').mono fun e w' ⟨he, m, hw⟩ => ⟨by rw [he]; simp, by rw [hw]; exact below_drewN (Below.refl _ _) m⟩
/-- A value of six blocks, read out of a disk. -/
theorem six_eq {f : Nat → List UInt8} (hf : ∀ i, (f i).length = 64) (w : World) : (binOp .eql 50 (.agg (bvs (sixB f)).toArray) (.agg (bvs (sixB f)).toArray)).run Try.prog w = .ok (.bool true) w := by
  rw [run_eql_six _ _ (sixB_len _ hf) (sixB_len _ hf)]; simp

theorem Lies.mv_ {W W' : World} {S : Nat → Prop} {b k : Nat} {l : List Value} (h : Lies W b k l) (hm : Mv S W W') (hn : ¬ S b) : Lies W' b k l :=
  ⟨rangeAt_keep h.rg (hm.block b h.lt hn), there_keep h.th (hm.block b h.lt hn), Nat.lt_of_lt_of_le h.lt hm.size, h.len⟩
theorem blk_same {l : List UInt8} (hl : l.length = 64) (w : World) : (binOp .neq 37 (.agg (bvs l).toArray) (.agg (bvs l).toArray)).run Try.prog w = .ok (.bool false) w := by
  rw [run_neq_blocks _ _ hl hl]; simp
theorem blk_zero (w : World) : (binOp .neq 37 (.agg (bvs Zb).toArray) (.agg Z64)).run Try.prog w = .ok (.bool false) w := blk_same Zb_len w

/-- A slice that neither of the two disks' steps touches. -/
def Both (Sa Sb : Nat → Prop) : Nat → Prop := fun b => Sa b ∨ Sb b
theorem SlS.stepA {w w' : World} {Sa Sb Sa' : Nat → Prop} {A : Option Addr} {n c : Nat} {xs : List Value} (h : SlS w (Both Sa Sb) A n c xs) (hm : Mv Sa w w') (hg : Grow Sa Sa' w) : SlS w' (Both Sa' Sb) A n c xs :=
  h.step (hm.mono fun b hb => .inl (.inl hb)) fun b hb => hb.elim (fun x => (hg b x).imp .inl id) fun x => .inl (.inr x)
theorem SlS.stepB {w w' : World} {Sa Sb Sb' : Nat → Prop} {A : Option Addr} {n c : Nat} {xs : List Value} (h : SlS w (Both Sa Sb) A n c xs) (hm : Mv Sb w w') (hg : Grow Sb Sb' w) : SlS w' (Both Sa Sb') A n c xs :=
  h.step (hm.mono fun b hb => .inl (.inr hb)) fun b hb => hb.elim (fun x => .inl (.inl x)) fun x => (hg b x).imp .inr id
theorem Tw.both {W w : World} {ga gb : Nat} {Sa Sb : Nat → Prop} {Ma Mb : Mo} (h : Tw W w ga Sa Ma gb Sb Mb) : ∀ b, Both Sa Sb b → b < w.heap.size := fun b hb => hb.elim (h.a.1.lt b) (h.b.1.lt b)
theorem Tw.set_ {W w : World} {ga gb : Nat} {Sa Sb : Nat → Prop} {Ma Mb : Mo} (h : Tw W w ga Sa Ma gb Sb Mb) {p : Addr} (hp : ∀ b, Both Sa Sb b → b ≠ p.block) (hW : W.heap.size ≤ p.block) (u : Value) : Tw W (w.setCell p u) ga Sa Ma gb Sb Mb :=
  ⟨⟨h.a.1.keep (by simp [World.setCell]) fun b hb => Below.heap_setCell w p u b (hp b (.inl hb)), h.a.2.1, h.a.2.2.setCell hW u⟩, ⟨h.b.1.keep (by simp [World.setCell]) fun b hb => Below.heap_setCell w p u b (hp b (.inr hb)), h.b.2.1, h.b.2.2.setCell hW u⟩, h.off⟩
/-- Such a slice, to which the law stores. -/
theorem sls_own {w : World} {S : Nat → Prop} {base : Nat} {e : TypeId} {A : Option Addr} {n c : Nat} {xs : List Value} (h : w.ownsRow base e 1 (.slice A n c) n xs) (hs : ∀ b, S b → b < base) : SlS w S A n c xs :=
  ⟨own_slv h, fun hn x hx hS => by
    subst hx
    have := (h.lt x.block rfl).1
    have := hs _ hS
    omega⟩
end Go.Proofs.Ytionbjocfepkaaa
namespace Go.Proofs.Ytionbjocfepkaaa
set_option linter.unusedVariables false
set_option linter.unusedSimpArgs false
open Go.RowKit Go.WideShapes Go.ChangeShapes Go.Deep

/-- What is so whatever the memory: the model's disk and the document's go together. -/
structure Pf (N k : Nat) (M : Mo) (s : Rs) (es : List En) : Prop where
  rl : Rl M s es
  len : M.safe.length = N
  cnt : es.length ≤ k
  ops : M.ops ≤ k
theorem Pf.weak {N k : Nat} {M : Mo} {s : Rs} {es : List En} (h : Pf N k M s es) : Pf N (k + 1) M s es := ⟨h.rl, h.len, by have := h.cnt; omega, by have := h.ops; omega⟩
/-- How the two lie in memory. -/
structure Pw (W : World) (g b7 : Nat) (S : Nat → Prop) (M : Mo) (V : List Value) (A : Option Addr) (l c : Nat) (es : List En) (w : World) : Prop where
  live : Live W w g S M
  ew : Ew w A l c es
  off : ∀ x, A = some x → ¬ S x.block ∧ x.block ≠ b7
  x : Lies w b7 6 V
  nb : ¬ S b7
  wb : W.heap.size ≤ b7
/-- The pair's state, known. -/
abbrev rfS (N : Int) (A : Option Addr) (l c : Nat) (s : Rs) : List Value := rfL N (.slice A l c) s.dead s.fu s.fa s.done
section
variable {W w w' : World} {g h b7 b8 N k : Nat} {Sa Sb S' : Nat → Prop} {Ma Mb M' M : Mo} {Va Vb V2 : List Value} {Aa Ab A2 A : Option Addr} {la ca lb cb l2 c2 l c : Nat} {ea eb e2 es : List En} {s : Rs} {S : Nat → Prop}
theorem Pr.pf (p : Pr W g b7 N k S M s A l c es w) : Pf N k M s es := ⟨p.rl, p.len, p.cnt, p.ops⟩
theorem Pr.pw (p : Pr W g b7 N k S M s A l c es w) : Pw W g b7 S M (rfS N A l c s) A l c es w := ⟨p.live, p.ew, p.off, p.x, p.nb, p.wb⟩
theorem Pw.below (p : Pw W g b7 Sa Ma Va Aa la ca ea w) (hb : Below w.heap.size w w') : Pw W g b7 Sa Ma Va Aa la ca ea w' :=
  ⟨p.live.below hb, p.ew.below hb, p.off, p.x.below hb p.x.lt, p.nb, p.wb⟩
/-- What the other pair's steps leave. -/
theorem Pw.apart {T : Nat → Prop} (p : Pw W g b7 Sa Ma Va Aa la ca ea w) (hm : Mv T w w') (h1 : ∀ b, Sa b → ¬ T b) (h2 : ¬ T b7) (h3 : ∀ x, Aa = some x → ¬ T x.block) (hW : ∀ b, T b → W.heap.size ≤ b) : Pw W g b7 Sa Ma Va Aa la ca ea w' :=
  ⟨p.live.apart hm h1 hW, p.ew.mv hm h3, p.off, p.x.mv hm h2, p.nb, p.wb⟩
theorem Pw.step (p : Pw W g b7 Sa Ma Va Aa la ca ea w) (hd : Dk w' g S' M') (hm : Mv Sa w w') (hg : Grow Sa S' w) : Pw W g b7 S' M' Va Aa la ca ea w' := by
  have nlt : ∀ x, x < w.heap.size → ¬ Sa x → ¬ S' x := fun x hx hn hS => (hg x hS).elim hn fun q => by omega
  exact ⟨p.live.step hd hm hg, p.ew.mv hm fun x hx => (p.off x hx).1, fun x hx => ⟨nlt _ (p.ew.lt hx) (p.off x hx).1, (p.off x hx).2⟩, p.x.mv hm p.nb, nlt _ p.x.lt p.nb, p.wb⟩
theorem set_mv (b : Nat) (o : Nat) (vs : List Value) : Mv (fun x => x = b) w (w.setCells b o vs) := (Mv.refl (fun x => x = b) w).setCells (.inl rfl) o vs
theorem Pw.put (p : Pw W g b7 Sa Ma Va Aa la ca ea w) (he : Ew w A2 l2 c2 e2) (ho : ∀ x, A2 = some x → ¬ Sa x.block ∧ x.block ≠ b7) (hV : V2.length = 6) : Pw W g b7 Sa Ma V2 A2 l2 c2 e2 (w.setCells b7 0 V2) :=
  ⟨live_set p.live p.nb p.wb 0 V2, he.mv (set_mv b7 0 V2) fun x hx => (ho x hx).2, ho, p.x.set_ hV, p.nb, p.wb⟩

/-- Whose memory is whose. -/
structure Ap (Sa : Nat → Prop) (b7 : Nat) (Aa : Option Addr) (Sb : Nat → Prop) (b8 : Nat) (Ab : Option Addr) : Prop where
  off : ∀ x, Sa x → ¬ Sb x
  ne : b7 ≠ b8
  na : ¬ Sa b8
  nb : ¬ Sb b7
  oa : ∀ x, Aa = some x → ¬ Sb x.block ∧ x.block ≠ b8
  ob : ∀ x, Ab = some x → ¬ Sa x.block ∧ x.block ≠ b7
theorem Ap.swap (p : Ap Sa b7 Aa Sb b8 Ab) : Ap Sb b8 Ab Sa b7 Aa := ⟨fun x hb ha => p.off x ha hb, p.ne.symm, p.nb, p.na, p.ob, p.oa⟩

/-- Both pairs. -/
structure Tp (W : World) (g b7 : Nat) (Sa : Nat → Prop) (Ma : Mo) (Va : List Value) (Aa : Option Addr) (la ca : Nat) (ea : List En) (h b8 : Nat) (Sb : Nat → Prop) (Mb : Mo) (Vb : List Value) (Ab : Option Addr) (lb cb : Nat) (eb : List En) (w : World) : Prop where
  a : Pw W g b7 Sa Ma Va Aa la ca ea w
  b : Pw W h b8 Sb Mb Vb Ab lb cb eb w
  ap : Ap Sa b7 Aa Sb b8 Ab
theorem Tp.swap (p : Tp W g b7 Sa Ma Va Aa la ca ea h b8 Sb Mb Vb Ab lb cb eb w) : Tp W h b8 Sb Mb Vb Ab lb cb eb g b7 Sa Ma Va Aa la ca ea w := ⟨p.b, p.a, p.ap.swap⟩
theorem Tp.below (p : Tp W g b7 Sa Ma Va Aa la ca ea h b8 Sb Mb Vb Ab lb cb eb w) (hb : Below w.heap.size w w') : Tp W g b7 Sa Ma Va Aa la ca ea h b8 Sb Mb Vb Ab lb cb eb w' := ⟨p.a.below hb, p.b.below hb, p.ap⟩
theorem Tp.step (p : Tp W g b7 Sa Ma Va Aa la ca ea h b8 Sb Mb Vb Ab lb cb eb w) (hd : Dk w' g S' M') (hm : Mv Sa w w') (hg : Grow Sa S' w) : Tp W g b7 S' M' Va Aa la ca ea h b8 Sb Mb Vb Ab lb cb eb w' := by
  have nlt : ∀ x, x < w.heap.size → ¬ Sa x → ¬ S' x := fun x hx hn hS => (hg x hS).elim hn fun q => by omega
  exact ⟨p.a.step hd hm hg, p.b.apart hm (fun b hb ha => p.ap.off b ha hb) p.ap.na (fun x hx => (p.ap.ob x hx).1) p.a.live.2.1,
    ⟨fun x ha hb => (hg x ha).elim (fun q => p.ap.off x q hb) fun q => by have := p.b.live.1.lt x hb; omega, p.ap.ne, nlt _ p.b.x.lt p.ap.na, p.ap.nb, p.ap.oa, fun x hx => ⟨nlt _ (p.b.ew.lt hx) (p.ap.ob x hx).1, (p.ap.ob x hx).2⟩⟩⟩
theorem Tp.put (p : Tp W g b7 Sa Ma Va Aa la ca ea h b8 Sb Mb Vb Ab lb cb eb w) (he : Ew w A2 l2 c2 e2) (ho : ∀ x, A2 = some x → (¬ Sa x.block ∧ x.block ≠ b7) ∧ (¬ Sb x.block ∧ x.block ≠ b8)) (hV : V2.length = 6) : Tp W g b7 Sa Ma V2 A2 l2 c2 e2 h b8 Sb Mb Vb Ab lb cb eb (w.setCells b7 0 V2) :=
  ⟨p.a.put he (fun x hx => (ho x hx).1) hV, p.b.apart (set_mv b7 0 V2) (fun b hb e => p.ap.nb (e ▸ hb)) (fun e => p.ap.ne e.symm) (fun x hx => (p.ap.ob x hx).2) (fun b e => by have := p.a.wb; have e' : b = b7 := e; omega),
    ⟨p.ap.off, p.ap.ne, p.ap.na, p.ap.nb, fun x hx => (ho x hx).2, p.ap.ob⟩⟩
/-- What should gives back is the slice of before, or new. -/
theorem Tp.fresh (p : Tp W g b7 Sa Ma Va Aa la ca ea h b8 Sb Mb Vb Ab lb cb eb w) (hA : ∀ x, A2 = some x → A2 = Aa ∨ w.heap.size ≤ x.block) : ∀ x, A2 = some x → (¬ Sa x.block ∧ x.block ≠ b7) ∧ (¬ Sb x.block ∧ x.block ≠ b8) := fun x hx => by
  rcases hA x hx with q | q
  · exact ⟨p.a.off x (q ▸ hx), p.ap.oa x (q ▸ hx)⟩
  · exact ⟨⟨fun hS => by have := p.a.live.1.lt _ hS; omega, by have := p.a.x.lt; omega⟩, ⟨fun hS => by have := p.b.live.1.lt _ hS; omega, by have := p.b.x.lt; omega⟩⟩
/-- Behind Copy: the new disk in new memory, and the document's in a new variable. -/
theorem Tp.start {w1 : World} (p : Pw W g b7 Sa Ma Va Aa la ca ea w) (hd : Dk w1 h Sb Ma) (hS : ∀ b, Sb b → w.heap.size ≤ b ∧ b ≠ b8) (hb : Below w.heap.size w w1) (h8 : w.heap.size ≤ b8) (hx : Lies w1 b8 6 Va) : Tp W g b7 Sa Ma Va Aa la ca ea h b8 Sb Ma Va Aa la ca ea w1 := by
  have z := p.live.2.2.size
  exact ⟨p.below hb, ⟨⟨hd, fun b h' => Nat.le_trans z (hS b h').1, (p.below hb).live.2.2⟩, p.ew.below hb, fun x hx => ⟨fun hS' => by have := (hS _ hS').1; have := p.ew.lt hx; omega, by have := p.ew.lt hx; omega⟩, hx, fun hS' => (hS _ hS').2 rfl, by omega⟩,
    ⟨fun x ha hb' => by have := p.live.1.lt x ha; have := (hS x hb').1; omega, by have := p.x.lt; omega, fun ha => by have := p.live.1.lt _ ha; omega, fun hb' => by have := (hS _ hb').1; have := p.x.lt; omega,
      fun x hx => ⟨fun hb' => by have := (hS _ hb').1; have := p.ew.lt hx; omega, by have := p.ew.lt hx; omega⟩, fun x hx => p.off x hx⟩⟩
end
/-- One act, at the disk and at the document's: what both answer, and what they go on as. -/
theorem half {N k : Nat} {M : Mo} {s : Rs} {es : List En} (p : Pf N k M s es) (ho : M.Ok) (hf : ∀ e ∈ es, e.b.length = 64) (kind n : Int) (b : UInt8) (ks : List Bool) (hn : n ≤ 9223372036854775807) :
    ∃ M' s' es' bq er, M.act kind n b ks = (M', bq, er) ∧ shouldR (N : Int) s es kind n b ks = ((s', es'), bq, er) ∧ Pf N (k + 1) M' s' es' ∧ bq.length = 64 := by
  have hsim := act_sim p.rl ho kind n b ks hn
  have hsl := act_safe_len M kind n b ks
  have hgr := shouldR_len (M.safe.length : Int) s es kind n b ks
  have hfit := shouldR_fit (N := (M.safe.length : Int)) (s := s) (kind := kind) (n := n) (b := b) (ks := ks) hf
  have hdone := p.rl.done
  rw [p.len] at hsim hsl hgr hfit
  generalize shouldR (N : Int) s es kind n b ks = r at hsim hgr hfit ⊢
  obtain ⟨⟨s', es'⟩, bq, er⟩ := r
  generalize M.act kind n b ks = ra at hsim hsl ⊢
  obtain ⟨M', rb⟩ := ra
  obtain ⟨hs1, hs2⟩ := hsim
  simp only at hs1 hs2 hsl hgr hfit
  subst hs1
  have h1 := p.cnt
  have h2 := p.ops
  have h3 := hs2.done
  exact ⟨M', s', es', bq, er, rfl, rfl, ⟨hs2, hsl, by omega, by omega⟩, hfit⟩
section
variable {W w : World} {g h b7 b8 N k : Nat} {Sa Sb : Nat → Prop} {Ma Mb M' : Mo} {Va Vb : List Value} {Aa Ab : Option Addr} {la ca lb cb : Nat} {ea eb : List En} {s s' : Rs} {e' : List En}
theorem Tp.happens (p : Tp W g b7 Sa Ma Va Aa la ca ea h b8 Sb Mb Vb Ab lb cb eb w) (q : Pf N k Ma s ea) (hk : k ≤ 1000000) (kind n : Int) (b : UInt8) {B : Nat} {KA : Option Addr} {kl kc : Nat} {ks : List Bool} (hs : SlV w B KA kl kc (bls ks)) (hB : B ≤ w.heap.size)
    (hn : -9223372036854775808 ≤ n ∧ n ≤ 9223372036854775807) {bq : List UInt8} {er : Int} (ha : Ma.act kind n b ks = (M', bq, er)) :
    Calls Try.prog 9 #[rp g, actV kind n b KA kl kc] w fun e w' => e = .returned (.tuple #[.agg (bvs bq).toArray, .int .i64 er]) ∧ ∃ S', Tp W g b7 S' M' Va Aa la ca ea h b8 Sb Mb Vb Ab lb cb eb w' ∧ Mv Sa w w' ∧ Grow Sa S' w := by
  refine (happens_dk kind n b hs hB p.a.live.1 (by have := q.ops; omega) (by have := q.rl.wt; have := q.cnt; omega) hn).mono ?_
  rintro e w' ⟨rfl, S', hd, hm, hg⟩
  rw [ha] at hd
  exact ⟨by rw [ha], S', p.step hd hm hg, hm, hg⟩
theorem ew_should {NI : Int} (hNI : NI = (N : Int)) {w : World} {A : Option Addr} {l c : Nat} {M : Mo} (h : Ew w A l c ea) (q : Pf N k M s ea) (hk : k ≤ 1000000) (hN : N ≤ 2048) (kind n : Int) (b : UInt8) {B : Nat} {KA : Option Addr} {kl kc : Nat} {ks : List Bool} (hs : SlV w B KA kl kc (bls ks)) (hB : B ≤ w.heap.size)
    {bq : List UInt8} {er : Int} (ha : shouldR (N : Int) s ea kind n b ks = ((s', e'), bq, er)) :
    Calls Try.prog 10 #[s.val NI (.slice A l c), actV kind n b KA kl kc] w (ShPost w A NI s' e' bq er) := by
  subst hNI
  have h1 := should_any h (by have := h.len; have := q.cnt; omega) q.rl.ok (by have := q.rl.done; have := q.ops; omega) (N : Int) (by omega) kind n b hs hB
  rw [ha] at h1
  exact h1
theorem Pw.stands {NI : Int} (hNI : NI = (N : Int)) {A : Option Addr} {l c : Nat} {V : List Value} {es : List En} {M : Mo} {S : Nat → Prop} (p : Pw W g b7 S M V A l c es w) (q : Pf N k M s es) (hk : k ≤ 1000000) :
    Calls Try.prog 12 #[rp g, s.val NI (.slice A l c)] w fun e w' => e = .returned (.bool true) ∧ Below w.heap.size w w' := by
  subst hNI
  exact stands_any p.live.1 (by have := q.rl.wt; have := q.cnt; omega) p.ew (by have := p.ew.len; have := q.cnt; omega) q.rl (N : Int) (by rw [q.len])
theorem Pw.happens {M : Mo} {S : Nat → Prop} {V : List Value} {A : Option Addr} {l c : Nat} {es : List En} (p : Pw W g b7 S M V A l c es w) (q : Pf N k M s es) (hk : k ≤ 1000000) (kind n : Int) (b : UInt8) {B : Nat} {KA : Option Addr} {kl kc : Nat} {ks : List Bool} (hs : SlV w B KA kl kc (bls ks)) (hB : B ≤ w.heap.size)
    (hn : -9223372036854775808 ≤ n ∧ n ≤ 9223372036854775807) {bq : List UInt8} {er : Int} (ha : M.act kind n b ks = (M', bq, er)) :
    Calls Try.prog 9 #[rp g, actV kind n b KA kl kc] w fun e w' => e = .returned (.tuple #[.agg (bvs bq).toArray, .int .i64 er]) ∧ ∃ S', Pw W g b7 S' M' V A l c es w' ∧ Mv S w w' ∧ Grow S S' w := by
  refine (happens_dk kind n b hs hB p.live.1 (by have := q.ops; omega) (by have := q.rl.wt; have := q.cnt; omega) hn).mono ?_
  rintro e w' ⟨rfl, S', hd, hm, hg⟩
  rw [ha] at hd
  exact ⟨by rw [ha], S', p.step hd hm hg, hm, hg⟩
theorem Pw.fresh {A2 : Option Addr} {M : Mo} {S : Nat → Prop} {V : List Value} {A : Option Addr} {l c : Nat} {es : List En} (p : Pw W g b7 S M V A l c es w) (hA : ∀ x, A2 = some x → A2 = A ∨ w.heap.size ≤ x.block) : ∀ x, A2 = some x → ¬ S x.block ∧ x.block ≠ b7 := fun x hx => by
  rcases hA x hx with q | q
  · exact p.off x (q ▸ hx)
  · exact ⟨fun hS => by have := p.live.1.lt _ hS; omega, by have := p.x.lt; omega⟩
end
end Go.Proofs.Ytionbjocfepkaaa
namespace Go.Proofs.Ytionbjocfepkaaa
set_option linter.unusedVariables false
set_option linter.unusedSimpArgs false
open Go.RowKit Go.WideShapes Go.ChangeShapes Go.Deep

theorem wp_alloc_as {P : Program} {o : Oper} {a : Act} {w : World} {K : Act → World → Prop} {Q : Exit → Act → World → Prop} (e : TypeId) (ho : o.op = .alloc e)
    (zs : Array Value) (hz : ∀ w : World, (zeroValue e).run P w = .ok (.agg zs) w) (h : K (a.put o.dst (.pointer (some ⟨w.heap.size, 0, none⟩))) (w.alloc (.cells zs e))) : o.wp P a w K Q := by
  unfold Oper.wp execOp
  simp only [ho, Instr.alloc, Sem.run_bind, hz, Result.andThen_ok, newVar, newRow, newObj, Sem.run_pure, Value.cells]
  exact h
theorem zero_ref (w : World) : (zeroValue 30).run Try.prog w = .ok (.agg rf0.toArray) w := by kernel_rfl
theorem rfL_all {n : Int} {A : Option Addr} {l c : Nat} {dead : Bool} {fu fa done : Int} : (rfL n (.slice A l c) dead fu fa done).toArray.all (·.oneCell') = true := by simp [Value.oneCell']

/-- Beside a call of should, a disk's and a block's variable are made. -/
structure Tri (w0 : World) (A : Option Addr) (es : List En) (oc : Option (Option Addr × Nat × Nat)) (o6 o64 : Option Nat) (w : World) : Prop where
  below : Below w0.heap.size w0 w
  ew : ∀ A2 l2 c2, oc = some (A2, l2, c2) → Ew w A2 l2 c2 es ∧ (∀ x, A2 = some x → A2 = A ∨ w0.heap.size ≤ x.block)
  b6 : ∀ B, o6 = some B → Lies w B 6 rf0 ∧ w0.heap.size ≤ B
  b64 : ∀ B, o64 = some B → Lies w B 64 (bvs Zb) ∧ w0.heap.size ≤ B
  ne : ∀ B B', o6 = some B → o64 = some B' → B ≠ B'
  off : ∀ A2 l2 c2 x, oc = some (A2, l2, c2) → A2 = some x → (∀ B, o6 = some B → x.block ≠ B) ∧ (∀ B, o64 = some B → x.block ≠ B)
section
variable {w0 w w' : World} {A A2 : Option Addr} {l2 c2 : Nat} {es : List En} {oc : Option (Option Addr × Nat × Nat)} {o6 o64 : Option Nat} {B B' : Nat}
theorem Tri.start (w0 : World) (A : Option Addr) (es : List En) : Tri w0 A es none none none w0.drew :=
  ⟨(Below.refl _ _).drew, (fun _ _ _ h => by cases h), (fun _ h => by cases h), (fun _ h => by cases h), (fun _ _ h => by cases h), (fun _ _ _ _ h => by cases h)⟩
theorem Tri.alloc6 (p : Tri w0 A es oc none o64 w) : Tri w0 A es oc (some w.heap.size) o64 (w.alloc (.cells rf0.toArray 30)) := by
  have hb : Below w.heap.size w (w.alloc (.cells rf0.toArray 30)) := (Below.refl _ _).alloc (Nat.le_refl _) _
  refine ⟨p.below.trans (hb.mono p.below.size), fun _ _ _ h => ⟨(p.ew _ _ _ h).1.below hb, (p.ew _ _ _ h).2⟩, fun B h => ?_, fun B h => ⟨(p.b64 B h).1.below hb (p.b64 B h).1.lt, (p.b64 B h).2⟩, fun B B' h h' => ?_, fun A2 l2 c2 x h h' => ⟨fun B hB => ?_, (p.off _ _ _ _ h h').2⟩⟩
  · injection h with h; subst h; exact ⟨Lies.new w rf0 _, p.below.size⟩
  · injection h with h; subst h; have := (p.b64 B' h').1.lt; omega
  · injection hB with hB; subst hB; have := (p.ew _ _ _ h).1.lt h'; omega
theorem Tri.alloc64 (p : Tri w0 A es oc o6 none w) : Tri w0 A es oc o6 (some w.heap.size) (w.alloc (.cells Z64 37)) := by
  have hb : Below w.heap.size w (w.alloc (.cells Z64 37)) := (Below.refl _ _).alloc (Nat.le_refl _) _
  refine ⟨p.below.trans (hb.mono p.below.size), fun _ _ _ h => ⟨(p.ew _ _ _ h).1.below hb, (p.ew _ _ _ h).2⟩, fun B h => ⟨(p.b6 B h).1.below hb (p.b6 B h).1.lt, (p.b6 B h).2⟩, fun B h => ?_, fun B B' h h' => ?_, fun A2 l2 c2 x h h' => ⟨(p.off _ _ _ _ h h').1, fun B hB => ?_⟩⟩
  · injection h with h; subst h; exact ⟨Lies.zb w, p.below.size⟩
  · injection h' with h'; subst h'; have := (p.b6 B h).1.lt; omega
  · injection hB with hB; subst hB; have := (p.ew _ _ _ h).1.lt h'; omega
theorem Tri.call (p : Tri w0 A es none o6 o64 w) (h0 : ∀ x, A = some x → x.block < w0.heap.size) (hew : Ew w' A2 l2 c2 es) (hA : ∀ x, A2 = some x → A2 = A ∨ w.heap.size ≤ x.block) (hb : Below w.heap.size w w') : Tri w0 A es (some (A2, l2, c2)) o6 o64 w' := by
  have hz := p.below.size
  refine ⟨p.below.trans (hb.mono p.below.size), fun _ _ _ h => ?_, fun B h => ⟨(p.b6 B h).1.below hb (p.b6 B h).1.lt, (p.b6 B h).2⟩, fun B h => ⟨(p.b64 B h).1.below hb (p.b64 B h).1.lt, (p.b64 B h).2⟩, p.ne, fun A3 l3 c3 x h h' => ?_⟩
  · injection h with h; injection h with h1 h2; injection h2 with h2 h3; subst h1 h2 h3
    exact ⟨hew, fun x hx => (hA x hx).imp id fun q => by omega⟩
  · injection h with h; injection h with h1 h2; subst h1
    rcases hA x h' with q | q
    · have h1 := h0 x (q ▸ h')
      exact ⟨fun B hB => by have := (p.b6 B hB).2; omega, fun B hB => by have := (p.b64 B hB).2; omega⟩
    · exact ⟨fun B hB => by have := (p.b6 B hB).1.lt; omega, fun B hB => by have := (p.b64 B hB).1.lt; omega⟩
theorem Tri.there6 (p : Tri w0 A es oc (some B) o64 w) : w.there B 0 6 := (p.b6 B rfl).1.th
theorem Tri.there64 (p : Tri w0 A es oc (some B) (some B') w) (V : List Value) : (w.setCells B 0 V).there B' 0 64 := ((p.b64 B' rfl).1.other (p.ne B B' rfl rfl).symm 0 V).th
/-- Both are filled. -/
structure Trd (w0 : World) (A : Option Addr) (es : List En) (A2 : Option Addr) (l2 c2 : Nat) (B : Nat) (V : List Value) (B' : Nat) (bq : List UInt8) (w : World) : Prop where
  below : Below w0.heap.size w0 w
  ew : Ew w A2 l2 c2 es
  old : ∀ x, A2 = some x → A2 = A ∨ w0.heap.size ≤ x.block
  x : Lies w B 6 V
  y : Lies w B' 64 (bvs bq)
  hB : w0.heap.size ≤ B
  hB' : w0.heap.size ≤ B'
theorem Tri.done (p : Tri w0 A es (some (A2, l2, c2)) (some B) (some B') w) {V : List Value} (hV : V.length = 6) {bq : List UInt8} (hq : bq.length = 64) : Trd w0 A es A2 l2 c2 B V B' bq ((w.setCells B 0 V).setCells B' 0 (bvs bq)) := by
  have hn := p.ne B B' rfl rfl
  refine ⟨below_setCells (below_setCells p.below (p.b6 B rfl).2 _ _) (p.b64 B' rfl).2 _ _, ?_, (p.ew _ _ _ rfl).2, ((p.b6 B rfl).1.set_ hV).other hn _ _, ((p.b64 B' rfl).1.other hn.symm _ _).set_ (by rw [bvs_len, hq]), (p.b6 B rfl).2, (p.b64 B' rfl).2⟩
  exact ((p.ew _ _ _ rfl).1.mv (set_mv B 0 V) fun x hx => (p.off _ _ _ x rfl hx).1 B rfl).mv (set_mv B' 0 _) fun x hx => (p.off _ _ _ x rfl hx).2 B' rfl

/-- Beside a call of Copy, a disk's variable is made. -/
structure Dui (w0 : World) (M : Mo) (oc : Option (Nat × (Nat → Prop))) (o6 : Option Nat) (w : World) : Prop where
  below : Below w0.heap.size w0 w
  dk : ∀ h S, oc = some (h, S) → Dk w h S M ∧ (∀ b, S b → w0.heap.size ≤ b ∧ ∀ B, o6 = some B → b ≠ B)
  b6 : ∀ B, o6 = some B → Lies w B 6 rf0 ∧ w0.heap.size ≤ B
variable {M : Mo} {od : Option (Nat × (Nat → Prop))} {h : Nat} {S : Nat → Prop}
theorem Dui.start (w0 : World) (M : Mo) : Dui w0 M none none w0.drew := ⟨(Below.refl _ _).drew, (fun _ _ h => by cases h), (fun _ h => by cases h)⟩
theorem Dui.alloc6 (p : Dui w0 M od none w) : Dui w0 M od (some w.heap.size) (w.alloc (.cells rf0.toArray 30)) := by
  have hb : Below w.heap.size w (w.alloc (.cells rf0.toArray 30)) := (Below.refl _ _).alloc (Nat.le_refl _) _
  refine ⟨p.below.trans (hb.mono p.below.size), fun h S e => ⟨(p.dk h S e).1.below hb, fun b hS => ⟨((p.dk h S e).2 b hS).1, fun B hB => ?_⟩⟩, fun B h => ?_⟩
  · injection hB with hB; subst hB; have := (p.dk h S e).1.lt b hS; omega
  · injection h with h; subst h; exact ⟨Lies.new w rf0 _, p.below.size⟩
theorem Dui.call (p : Dui w0 M none o6 w) (hd : Dk w' h S M) (hS : ∀ b, S b → w.heap.size ≤ b) (hb : Below w.heap.size w w') : Dui w0 M (some (h, S)) o6 w' := by
  have hz := p.below.size
  refine ⟨p.below.trans (hb.mono p.below.size), fun h' S' e => ?_, fun B h => ⟨(p.b6 B h).1.below hb (p.b6 B h).1.lt, (p.b6 B h).2⟩⟩
  injection e with e; injection e with e1 e2; subst e1 e2
  exact ⟨hd, fun b hb' => ⟨by have := hS b hb'; omega, fun B hB => by have := hS b hb'; have := (p.b6 B hB).1.lt; omega⟩⟩
theorem Dui.there6 (p : Dui w0 M od (some B) w) : w.there B 0 6 := (p.b6 B rfl).1.th
theorem Dui.done {W : World} {g b7 l c : Nat} {Sa : Nat → Prop} {V : List Value} {ea : List En} (q : Pw W g b7 Sa M V A l c ea w0) (hV : V.length = 6) (p : Dui w0 M (some (h, S)) (some B) w) : Tp W g b7 Sa M V A l c ea h B S M V A l c ea (w.setCells B 0 V) := by
  have h1 := (p.dk h S rfl).2
  refine Tp.start q ((p.dk h S rfl).1.keep (Nat.le_of_eq (size_setCells _ _ _ _).symm) fun k hk => (setCells_os _ _ _ _).2.2.2.2 k ((h1 k hk).2 B rfl)) (fun b hb => ⟨(h1 b hb).1, (h1 b hb).2 B rfl⟩) (below_setCells p.below (p.b6 B rfl).2 _ _) (p.b6 B rfl).2 ((p.b6 B rfl).1.set_ hV)
end
end Go.Proofs.Ytionbjocfepkaaa
