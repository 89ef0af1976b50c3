/-
  WHAT DiskGoes AND DiskTwins STAND ON: a disk and the document's, side by side in memory.
-/
import Derived.Test.YtclgkmaeolnlaaaRm
namespace Go.Proofs.Ytclgkmaeolnlaaa
set_option linter.unusedVariables false
set_option linter.unusedSimpArgs false
open Go.RowKit Go.WideShapes Go.ChangeShapes Go.Deep

theorem Lies.mv {W W' : World} {S : Nat → Prop} {b k : Nat} {l : List Value} (h : Lies W b k l) (hm : Mv S W W') (hn : ¬ S b) : Lies W' b k l :=
  ⟨rangeAt_keep h.rg (hm.block b h.lt hn), there_keep h.th (hm.block b h.lt hn), Nat.lt_of_lt_of_le h.lt hm.size, h.len⟩
theorem alter_safe_len {M : Mo} (t : Bool) (sf : List (List UInt8)) (wt' : List (Nat × List UInt8)) (h : sf.length = M.safe.length) : (M.alter t sf wt').1.safe.length = M.safe.length := by
  unfold Mo.alter
  repeat' split
  all_goals first | rfl | exact h
theorem act_safe_len (M : Mo) (kind n : Int) (b : UInt8) (ks : List Bool) : (M.act kind n b ks).1.safe.length = M.safe.length := by
  unfold Mo.act
  split
  · unfold Mo.read
    repeat' split
    all_goals rfl
  split
  · exact alter_safe_len _ _ _ rfl
  split
  · exact alter_safe_len _ _ _ (settle_len _ _ _ _)
  split
  · unfold Mo.arm
    split <;> rfl
  split
  · unfold Mo.fail
    split <;> rfl
  · exact settle_len _ _ _ _
theorem Rl.wt {M : Mo} {s : Rs} {es : List En} (h : Rl M s es) : M.wt.length ≤ es.length := by
  have h1 := waitS_len es
  rw [h.ex.waits, List.length_map] at h1
  exact h1
/-- The disk g and the document's disk in variable b7, one act after the other. -/
structure Pr (W : World) (g b7 N k : Nat) (S : Nat → Prop) (M : Mo) (s : Rs) (A : Option Addr) (l c : Nat) (es : List En) (w : World) : Prop where
  live : Live W w g S M
  rl : Rl M s es
  len : M.safe.length = N
  cnt : es.length ≤ k
  ops : M.ops ≤ k
  ew : Ew w A l c es
  off : ∀ x, A = some x → ¬ S x.block ∧ x.block ≠ b7
  x : Lies w b7 6 (rfL N (.slice A l c) s.dead s.fu s.fa s.done)
  nb : ¬ S b7
  wb : W.heap.size ≤ b7
theorem Pr.below {W w w' : World} {g b7 N k : Nat} {S : Nat → Prop} {M : Mo} {s : Rs} {A : Option Addr} {l c : Nat} {es : List En} (h : Pr W g b7 N k S M s A l c es w) (hb : Below w.heap.size w w') : Pr W g b7 N k S M s A l c es w' :=
  ⟨h.live.below hb, h.rl, h.len, h.cnt, h.ops, h.ew.below hb, h.off, h.x.below hb h.x.lt, h.nb, h.wb⟩
theorem live_set {W w : World} {g : Nat} {S : Nat → Prop} {M : Mo} (h : Live W w g S M) {b : Nat} (hnb : ¬ S b) (hWb : W.heap.size ≤ b) (o : Nat) (vs : List Value) : Live W (w.setCells b o vs) g S M :=
  ⟨h.1.keep (Nat.le_of_eq (size_setCells _ _ _ _).symm) fun k hk => (setCells_os _ _ _ _).2.2.2.2 k (fun e => hnb (e ▸ hk)), h.2.1, below_setCells h.2.2 hWb _ _⟩
/-- A disk and a block laid, both filled. -/
abbrev twoW (w : World) : World := zbW (boxR w 0 (.slice none 0 0) false 0 0 0)
abbrev filW (w : World) (x : List Value) : World := (twoW w).setCells w.heap.size 0 x
abbrev fulW (w : World) (x : List Value) (q : List UInt8) : World := (filW w x).setCells (w.heap.size + 1) 0 (bvs q)
structure Ful (w : World) (x : List Value) (q : List UInt8) : Prop where
  t1 : (twoW w).there w.heap.size 0 6
  t2 : (filW w x).there (w.heap.size + 1) 0 64
  lx : Lies (fulW w x q) w.heap.size 6 x
  lq : Lies (fulW w x q) (w.heap.size + 1) 64 (bvs q)
  below : Below w.heap.size w (fulW w x q)
theorem Ful.mk_ (w : World) {x : List Value} (hx : x.length = 6) {q : List UInt8} (hq : q.length = 64) : Ful w x q := by
  have l1 : Lies (boxR w 0 (.slice none 0 0) false 0 0 0) w.heap.size 6 rf0 := Lies.new w rf0 31
  have z1 := boxR_size w 0 (.slice none 0 0) false 0 0 0
  have b1 := boxR_below w 0 (.slice none 0 0) false 0 0 0
  have l2 : Lies (twoW w) (w.heap.size + 1) 64 (bvs Zb) := by
    have := Lies.zb (boxR w 0 (.slice none 0 0) false 0 0 0)
    rwa [z1] at this
  have l3 : Lies (twoW w) w.heap.size 6 rf0 := l1.below (zbW_below _) (by rw [z1]; omega)
  have b2 : Below w.heap.size w (twoW w) := b1.trans ((zbW_below _).mono (by rw [z1]; omega))
  have l4 := l3.set_ (l' := x) hx
  have l5 := l2.other (b' := w.heap.size) (by omega) 0 x
  exact ⟨l3.th, l5.th, l4.other (by omega) _ _, l5.set_ (by rw [bvs_len, hq]), below_setCells (below_setCells b2 (Nat.le_refl _) _ _) (by omega) _ _⟩
theorem ldw_ref {ops : Array Oper} {rest : List Oper} {op : Oper} {a : Act} {w : World} {Q : Exit → Act → World → Prop} (hw : Region.wanted op (yielded ops a.tmps) = true) (x : Operand) (ho : op.op = .load 31 x)
    (b : Nat) (n : Int) (V : Value) (dead : Bool) (fu fa done : Int) (hx : a.eval x = .pointer (some ⟨b, 0, none⟩)) (hc : w.rangeAt b 0 (rfL n V dead fu fa done))
    (h : wpList Try.prog ops Q rest (a.put op.dst (rfV n V dead fu fa done)) w) : wpList Try.prog ops Q (op :: rest) a w :=
  wpList_want hw (wp_load_mid _ x ho b 0 hx (rfL n V dead fu fa done) _ hc Try.underlying31 rfl ref_size h)
/-- Behind the crash: the disk is read, sector by sector. -/
structure Fi (W : World) (g b7 N k : Nat) (S : Nat → Prop) (M : Mo) (sf : List (List UInt8)) (x : List Value) (A : Option Addr) (l c : Nat) (es : List En) (w : World) : Prop where
  live : Live W w g S M
  plain : M.Plain
  safe : M.safe = sf
  wt : M.wt = []
  ops : M.ops ≤ 100 + k
  ew : Ew w A l c es
  off : ∀ x, A = some x → ¬ S x.block
  x : Lies w b7 6 x
  nb : ¬ S b7
theorem Fi.below {W w w' : World} {g b7 N k : Nat} {S : Nat → Prop} {M : Mo} {sf : List (List UInt8)} {x : List Value} {A : Option Addr} {l c : Nat} {es : List En} (h : Fi W g b7 N k S M sf x A l c es w) (hb : Below w.heap.size w w') : Fi W g b7 N k S M sf x A l c es w' :=
  ⟨h.live.below hb, h.plain, h.safe, h.wt, h.ops, h.ew.below hb, h.off, h.x.below hb h.x.lt, h.nb⟩
theorem Fi.read {W w w' : World} {g b7 N k : Nat} {S : Nat → Prop} {M : Mo} {sf : List (List UInt8)} {x : List Value} {A : Option Addr} {l c : Nat} {es : List En} (h : Fi W g b7 N k S M sf x A l c es w) {i : Int} (hi : hasB M.safe.length i = true) (hs : Stepped w g S (M.read i).1 w') : ∃ S', Fi W g b7 N (k + 1) S' (M.read i).1 sf x A l c es w' := by
  obtain ⟨S', hd, hm, hg⟩ := hs
  have hr := h.plain.read i
  rw [if_pos hi] at hr
  have e1 : (M.read i).1 = { M with fa := passed M.fa, ops := M.ops + 1 } := by rw [hr]
  have ho := h.ops
  have hlt := h.ew
  refine ⟨S', h.live.step hd hm hg, ?_, ?_, ?_, ?_, h.ew.mv hm fun y hy => h.off y hy, fun y hy hS => ?_, h.x.mv hm h.nb, fun hS => ?_⟩
  · rw [e1]
    exact ⟨h.plain.dead, h.plain.fu, by show (passed M.fa).1 = false; rw [passed_off h.plain.fa]; exact h.plain.fa⟩
  · rw [e1]; exact h.safe
  · rw [e1]; exact h.wt
  · rw [e1]; show M.ops + 1 ≤ 100 + ((k + 1 : Nat) : Int); omega
  · rcases hg _ hS with hq | hq
    · exact h.off y hy hq
    · have := hlt.lt hy; omega
  · rcases hg _ hS with hq | hq
    · exact h.nb hq
    · have := h.x.lt; omega
theorem neq_same {l : List UInt8} (hl : l.length = 64) (w : World) : (binOp .neq 38 (.agg (bvs l).toArray) (.agg (bvs l).toArray)).run Try.prog w = .ok (.bool false) w := by
  rw [run_neq_blocks _ _ hl hl]; simp
end Go.Proofs.Ytclgkmaeolnlaaa
