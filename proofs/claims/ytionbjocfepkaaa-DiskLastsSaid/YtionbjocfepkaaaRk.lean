/-
  CONTRACTS OF THE STATEMENTS' HELPERS: should.
-/
import Derived.Test.YtionbjocfepkaaaRj
import Derived.Test.YtionbjocfepkaaaBk
namespace Go.Proofs.Ytionbjocfepkaaa
set_option linter.unusedVariables false
set_option linter.unusedSimpArgs false
open Go.RowKit Go.WideShapes Go.ChangeShapes Go.Deep

theorem wp_fn {P : Program} {o : Oper} {a : Act} {w : World} {K : Act → World → Prop} {Q : Exit → Act → World → Prop} {f : FuncId} {xs : Array Value} (hr : (execOp a.eval o).run P w = .ok (.enter f xs) w)
    (h : Calls P f xs w fun e w' => ∃ v, e = .returned v ∧ K (a.put o.dst v) w') : o.wp P a w K Q := by
  unfold Oper.wp
  rw [hr, Oper.upon_enter]
  refine h.mono ?_
  rintro e w' ⟨v, rfl, hk⟩
  exact hk

theorem wp_val {P : Program} {o : Oper} {a : Act} {w : World} {K : Act → World → Prop} {Q : Exit → Act → World → Prop} {v : Value} (hr : (execOp a.eval o).run P w = .ok (.value v) w) (h : K (a.put o.dst v) w) : o.wp P a w K Q := by
  unfold Oper.wp
  rw [hr, Oper.upon_value]
  exact h

/-- What should has laid: a disk boxed, an act boxed, a disk and a block that the results lie in, a block. -/
structure Sh (w : World) (x a y : List Value) (z q : List UInt8) (W : World) : Prop where
  x : Lies W w.heap.size 6 x
  a : Lies W (w.heap.size + 1) 4 a
  y : Lies W (w.heap.size + 2) 6 y
  z : Lies W (w.heap.size + 3) 64 (bvs z)
  q : Lies W (w.heap.size + 4) 64 (bvs q)
  below : Below w.heap.size w W
  size : w.heap.size + 5 ≤ W.heap.size
abbrev acL (kind n : Int) (b : UInt8) (A : Option Addr) (l c : Nat) : List Value := [.int .i64 kind, .int .i64 n, .int .u8 (b.toNat : Int), .slice A l c]
abbrev boxA (w : World) (kind n : Int) (b : UInt8) (A : Option Addr) (l c : Nat) : World := w.alloc (.cells #[.int .i64 kind, .int .i64 n, .int .u8 (b.toNat : Int), .slice A l c] 35)
abbrev shW (w : World) (n : Int) (V : Value) (dead : Bool) (fu fa done : Int) (kind m : Int) (b : UInt8) (A : Option Addr) (l c : Nat) : World := zbW (zbW (boxR (boxA (boxR w n V dead fu fa done) kind m b A l c) 0 (.slice none 0 0) false 0 0 0))
theorem Sh.start (w : World) (n : Int) (V : Value) (dead : Bool) (fu fa done : Int) (kind m : Int) (b : UInt8) (A : Option Addr) (l c : Nat) : Sh w (rfL n V dead fu fa done) (acL kind m b A l c) rf0 Zb Zb (shW w n V dead fu fa done kind m b A l c) := by
  have l1 : Lies (boxR w n V dead fu fa done) _ 6 (rfL n V dead fu fa done) := Lies.new w (rfL n V dead fu fa done) 30
  have b1 := boxR_below w n V dead fu fa done
  show Sh w _ _ _ _ _ (zbW (zbW (boxR (boxA (boxR w n V dead fu fa done) kind m b A l c) 0 (.slice none 0 0) false 0 0 0)))
  have z1 := boxR_size w n V dead fu fa done
  have l2 : Lies (boxA (boxR w n V dead fu fa done) kind m b A l c) _ 4 (acL kind m b A l c) := Lies.new (boxR w n V dead fu fa done) (acL kind m b A l c) 35
  have b2 : Below (boxR w n V dead fu fa done).heap.size (boxR w n V dead fu fa done) (boxA (boxR w n V dead fu fa done) kind m b A l c) := (Below.refl _ _).alloc (Nat.le_refl _) _
  have z2 : (boxA (boxR w n V dead fu fa done) kind m b A l c).heap.size = (boxR w n V dead fu fa done).heap.size + 1 := by simp
  rw [z1] at l2 b2 z2
  generalize boxA (boxR w n V dead fu fa done) kind m b A l c = W2 at l2 b2 z2 ⊢
  have l3 : Lies (boxR W2 0 (.slice none 0 0) false 0 0 0) _ 6 rf0 := Lies.new W2 (rfL 0 (.slice none 0 0) false 0 0 0) 30
  have b3 := boxR_below W2 0 (.slice none 0 0) false 0 0 0
  have z3 := boxR_size W2 0 (.slice none 0 0) false 0 0 0
  rw [z2] at l3 b3 z3
  generalize boxR W2 0 (.slice none 0 0) false 0 0 0 = W3 at l3 b3 z3 ⊢
  have l4 := Lies.zb W3
  have b4 := zbW_below W3
  have z4 := zbW_size W3
  rw [z3] at l4 b4 z4
  generalize zbW W3 = W4 at l4 b4 z4 ⊢
  have l5 := Lies.zb W4
  have b5 := zbW_below W4
  have z5 := zbW_size W4
  rw [z4] at l5 b5 z5
  have B3 : ∀ {b k : Nat} {l : List Value}, Lies W2 b k l → b < w.heap.size + 1 + 1 → Lies W3 b k l := fun hl hb => hl.below b3 hb
  have B4 : ∀ {b k : Nat} {l : List Value}, Lies W3 b k l → b < w.heap.size + 1 + 1 + 1 → Lies W4 b k l := fun hl hb => hl.below b4 hb
  have B5 : ∀ {b k : Nat} {l : List Value}, Lies W4 b k l → b < w.heap.size + 1 + 1 + 1 + 1 → Lies (zbW W4) b k l := fun hl hb => hl.below b5 hb
  have q1 : w.heap.size < w.heap.size + 1 := by omega
  exact ⟨B5 (B4 (B3 (l1.below b2 q1) (by omega)) (by omega)) (by omega), B5 (B4 (B3 l2 (by omega)) (by omega)) (by omega), B5 (B4 l3 (by omega)) (by omega), B5 l4 (by omega), l5,
    (((b1.trans (b2.mono (by omega))).trans (b3.mono (by omega))).trans (b4.mono (by omega))).trans (b5.mono (by omega)), by omega⟩
section
variable {w W W' : World} {x a y : List Value} {z q : List UInt8}
theorem Sh.next (h : Sh w x a y z q W) (hb : Below W.heap.size W W') : Sh w x a y z q W' := by
  have hz := h.size
  exact ⟨h.x.below hb (by omega), h.a.below hb (by omega), h.y.below hb (by omega), h.z.below hb (by omega), h.q.below hb (by omega), h.below.trans (hb.mono (by omega)), by have := hb.size; omega⟩
theorem Sh.drew (h : Sh w x a y z q W) : Sh w x a y z q W.drew := h.next (Below.refl _ _).drew
theorem Sh.fldx (h : Sh w x a y z q W) {j : Nat} (hj : j < 6) (v : Value) : Sh w (x.set j v) a y z q (W.setCell ⟨w.heap.size, j, none⟩ v) :=
  ⟨h.x.fld hj v, h.a.other (b' := w.heap.size) (by omega) j [v], h.y.other (b' := w.heap.size) (by omega) j [v], h.z.other (b' := w.heap.size) (by omega) j [v], h.q.other (b' := w.heap.size) (by omega) j [v], h.below.setCell (Nat.le_refl _) v, by have := h.size; simpa [World.setCell] using this⟩
theorem Sh.setx (h : Sh w x a y z q W) {x' : List Value} (hx : x'.length = 6) : Sh w x' a y z q (W.setCells w.heap.size 0 x') :=
  ⟨h.x.set_ hx, h.a.other (by omega) _ _, h.y.other (by omega) _ _, h.z.other (by omega) _ _, h.q.other (by omega) _ _, below_setCells h.below (by omega) _ _, by rw [(setCells_os _ _ _ _).2.2.2.1]; exact h.size⟩
theorem Sh.sety (h : Sh w x a y z q W) {y' : List Value} (hy : y'.length = 6) : Sh w x a y' z q (W.setCells (w.heap.size + 2) 0 y') :=
  ⟨h.x.other (by omega) _ _, h.a.other (by omega) _ _, h.y.set_ hy, h.z.other (by omega) _ _, h.q.other (by omega) _ _, below_setCells h.below (by omega) _ _, by rw [(setCells_os _ _ _ _).2.2.2.1]; exact h.size⟩
theorem Sh.setz (h : Sh w x a y z q W) {z' : List UInt8} (hz : z'.length = 64) : Sh w x a y z' q (W.setCells (w.heap.size + 3) 0 (bvs z')) :=
  ⟨h.x.other (by omega) _ _, h.a.other (by omega) _ _, h.y.other (by omega) _ _, h.z.set_ (by rw [bvs_len, hz]), h.q.other (by omega) _ _, below_setCells h.below (by omega) _ _, by rw [(setCells_os _ _ _ _).2.2.2.1]; exact h.size⟩
theorem Sh.setq (h : Sh w x a y z q W) {q' : List UInt8} (hq : q'.length = 64) : Sh w x a y z q' (W.setCells (w.heap.size + 4) 0 (bvs q')) :=
  ⟨h.x.other (by omega) _ _, h.a.other (by omega) _ _, h.y.other (by omega) _ _, h.z.other (by omega) _ _, h.q.set_ (by rw [bvs_len, hq]), below_setCells h.below (by omega) _ _, by rw [(setCells_os _ _ _ _).2.2.2.1]; exact h.size⟩
end
/-- Two result variables in memory, one not. -/
theorem Ew.own {w w' : World} {B : Nat} {A : Option Addr} {n c : Nat} {l : List En} (h : Ew w A n c l) (hm : Mv (fun b => B ≤ b ∧ b < B + 5) w w') (hn : ∀ x, A = some x → x.block < B ∨ B + 5 ≤ x.block) : Ew w' A n c l :=
  h.mv hm fun x hx hS => by have := hn x hx; omega


def ShPost (w : World) (A : Option Addr) (N : Int) (s : Rs) (es : List En) (bq : List UInt8) (er : Int) (e : Ending) (w' : World) : Prop :=
  ∃ A' m c', e = .returned (.tuple #[s.val N (.slice A' m c'), .agg (bvs bq).toArray, .int .i64 er]) ∧ Ew w' A' m c' es ∧ (∀ x, A' = some x → A' = A ∨ w.heap.size ≤ x.block) ∧ Below w.heap.size w w'
theorem Ew.lt {w : World} {A : Option Addr} {n c : Nat} {l : List En} (h : Ew w A n c l) {x : Addr} (hx : A = some x) : x.block < w.heap.size := by
  rcases Nat.eq_zero_or_pos n with h0 | h0
  · have := h.non h0
    rw [hx] at this
    cases this
  · obtain ⟨b, o, e, hlt, _⟩ := h.pos h0
    rw [hx] at e
    injection e with e
    subst e
    exact hlt
/-- What should itself has laid. -/
def shS (w : World) (b : Nat) : Prop := w.heap.size ≤ b ∧ b < w.heap.size + 5
theorem mv_tail {w w4 wx : World} (h : Mv (shS w) w4 wx) (v0 v1 v2 v3 v4 v5 : Value) (vs : List Value) :
    Mv (shS w) w4 (((((((wx.setCell ⟨w.heap.size + 1 + 1, 0, none⟩ v0).setCell ⟨w.heap.size + 1 + 1, 1, none⟩ v1).setCell ⟨w.heap.size + 1 + 1, 2, none⟩ v2).setCell ⟨w.heap.size + 1 + 1, 3, none⟩ v3).setCell ⟨w.heap.size + 1 + 1, 4, none⟩ v4).setCell ⟨w.heap.size + 1 + 1, 5, none⟩ v5).drew.setCells (w.heap.size + 1 + 1 + 1) 0 vs) := by
  have q : shS w (w.heap.size + 1 + 1) := ⟨by omega, by omega⟩
  have q3 : shS w (w.heap.size + 1 + 1 + 1) := ⟨by omega, by omega⟩
  have h0 := h.set_ (p := ⟨w.heap.size + 1 + 1, 0, none⟩) (.inl q) v0
  have h1 := h0.set_ (p := ⟨w.heap.size + 1 + 1, 1, none⟩) (.inl q) v1
  have h2 := h1.set_ (p := ⟨w.heap.size + 1 + 1, 2, none⟩) (.inl q) v2
  have h3 := h2.set_ (p := ⟨w.heap.size + 1 + 1, 3, none⟩) (.inl q) v3
  have h4 := h3.set_ (p := ⟨w.heap.size + 1 + 1, 4, none⟩) (.inl q) v4
  have h5 := h4.set_ (p := ⟨w.heap.size + 1 + 1, 5, none⟩) (.inl q) v5
  exact h5.drew.setCells (.inl q3) 0 vs
theorem ac_size {kind n : Int} {b : UInt8} {A : Option Addr} {l c : Nat} : (Try.prog.info? 35).map (·.size) = some (acL kind n b A l c).length := by kernel_rfl


set_option maxRecDepth 100000 in
set_option maxHeartbeats 1500000 in
theorem should_0 {w : World} {A : Option Addr} {l c : Nat} {es : List En} (h : Ew w A l c es) (hl : l ≤ 1000000) {s : Rs} (hs : s.Ok) (hd : s.done ≤ 4611686018427387904) (N : Int) (hN : N ≤ 2048) (kind n : Int) (b : UInt8) {B : Nat} {KA : Option Addr} {kl kc : Nat} {ks : List Bool} (hk : SlV w B KA kl kc (bls ks)) (hB : B ≤ w.heap.size) (hkd : whichI kind = 0) :
    Calls Try.prog 10 #[s.val N (.slice A l c), actV kind n b KA kl kc] w (ShPost w A N (s.begin N n false).1 es (if (s.begin N n false).2 = 0 then holdE es n.toNat else Zb) (s.begin N n false).2) := by
  have hrd := fun (w0 : World) (h0 : Ew w0 A l c es) => read_ref h0 hl hs hd N hN n
  have HLQ : Hid ((if (s.begin N n false).2 = 0 then holdE es n.toNat else Zb).length = 64) := Lib.hid (by split; exact holdE_len h.fit _; exact Zb_len)
  obtain ⟨s', hs'⟩ : ∃ s', (s.begin N n false).1 = s' := ⟨_, rfl⟩
  obtain ⟨er, her⟩ : ∃ er, (s.begin N n false).2 = er := ⟨_, rfl⟩
  rw [hs', her] at hrd
  rw [her] at HLQ
  rw [hs', her]
  generalize (if er = 0 then holdE es n.toNat else Zb) = bq at hrd HLQ ⊢
  obtain ⟨dead, fu, fa, done⟩ := s
  obtain ⟨dead', fu', fa', done'⟩ := s'
  have HRD := Lib.hid hrd
  clear hrd hs' her
  have HEW := Lib.hid h
  have HK := Lib.hid hkd
  have HKS := Lib.hid hk
  have S0 := Lib.hid (Sh.start w N (.slice A l c) dead fu fa done kind n b KA kl kc)
  have HZ := Lib.hid Zb_len
  have HLT := Lib.hid (fun x (hx : A = some x) => h.lt hx)
  have c0 := S0.out.a.cell (j := 0) rfl
  have c1 := S0.out.a.cell (j := 1) rfl
  have c2 := S0.out.a.cell (j := 2) rfl
  have c3 := S0.out.a.cell (j := 3) rfl
  clear h hs hd hkd hk
  go_enter Try.func10, Try.ntmps10
  go_wp2_with (first
    | (with_reducible refine al_block rfl rfl ?_)
    | (go_at_call 13; refine (which_any kind n b KA kl kc _).mono ?_; rintro e w2 ⟨rfl, hb2⟩; rw [HK.out]; have S1 := Lib.hid (S0.out.next hb2); have e0 := S1.out.a.cell (j := 0) rfl; have e1 := S1.out.a.cell (j := 1) rfl; have e2 := S1.out.a.cell (j := 2) rfl; have e3 := S1.out.a.cell (j := 3) rfl; clear hb2)
    | (with_reducible refine ld_ref rfl _ rfl w.heap.size N (.slice A l c) dead fu fa done rfl S1.out.x.rg ?_)
    | (go_at_call 28; refine (HRD.out _ (HEW.out.below S1.out.below)).mono ?_; rintro e w3 ⟨rfl, hb3⟩; have S2 := Lib.hid (S1.out.next hb3); have S3 := Lib.hid (S2.out.setx (x' := rfL N (.slice A l c) dead' fu' fa' done') rfl); have S4 := Lib.hid (S3.out.setq HLQ.out); clear hb3)
    | (with_reducible refine st_ref rfl _ _ rfl w.heap.size N A l c dead' fu' fa' done' rfl rfl S2.out.x.th ?_)
    | (with_reducible refine st_block rfl _ _ rfl (w.heap.size + 4) 0 bq HLQ rfl rfl S3.out.q.th ?_))
  generalize (w3.setCells w.heap.size 0 (rfL N (.slice A l c) dead' fu' fa' done')).setCells (w.heap.size + 4) 0 (bvs bq) = wx at S4 ⊢
  have SX := Lib.hid S4.out
  have SY : Hid (Sh w (rfL N (.slice A l c) dead' fu' fa' done') (acL kind n b KA kl kc) (rfL N (.slice A l c) dead' fu' fa' done') Zb bq ((((((wx.setCell ⟨w.heap.size + 1 + 1, 0, none⟩ (.int .i64 N)).setCell ⟨w.heap.size + 1 + 1, 1, none⟩ (.slice A l c)).setCell ⟨w.heap.size + 1 + 1, 2, none⟩ (.bool dead')).setCell ⟨w.heap.size + 1 + 1, 3, none⟩ (.int .i64 fu')).setCell ⟨w.heap.size + 1 + 1, 4, none⟩ (.int .i64 fa')).setCell ⟨w.heap.size + 1 + 1, 5, none⟩ (.int .i64 done'))) := Lib.hid (SX.out.sety (y' := rfL N (.slice A l c) dead' fu' fa' done') rfl)
  have DSX := Lib.hid SX.out.drew
  have HK0 := Lib.hid (show wx.drew.cell? ⟨w.heap.size, 0, none⟩ = some (.int .i64 N) ∧ wx.drew.cell? ⟨w.heap.size, 1, none⟩ = some (.slice A l c) ∧ wx.drew.cell? ⟨w.heap.size, 2, none⟩ = some (.bool dead') ∧ wx.drew.cell? ⟨w.heap.size, 3, none⟩ = some (.int .i64 fu') ∧ wx.drew.cell? ⟨w.heap.size, 4, none⟩ = some (.int .i64 fa') ∧ wx.drew.cell? ⟨w.heap.size, 5, none⟩ = some (.int .i64 done') ∧ wx.drew.rangeAt (w.heap.size + 1 + 1 + 1 + 1) 0 (bvs bq) ∧ wx.drew.there (w.heap.size + 1 + 1 + 1) 0 64 from ⟨DSX.out.x.cell (j := 0) rfl, DSX.out.x.cell (j := 1) rfl, DSX.out.x.cell (j := 2) rfl, DSX.out.x.cell (j := 3) rfl, DSX.out.x.cell (j := 4) rfl, DSX.out.x.cell (j := 5) rfl, DSX.out.q.rg, DSX.out.z.th⟩)
  have DSY := Lib.hid SY.out.drew
  have HK1 := Lib.hid (show ((((((wx.setCell ⟨w.heap.size + 1 + 1, 0, none⟩ (.int .i64 N)).setCell ⟨w.heap.size + 1 + 1, 1, none⟩ (.slice A l c)).setCell ⟨w.heap.size + 1 + 1, 2, none⟩ (.bool dead')).setCell ⟨w.heap.size + 1 + 1, 3, none⟩ (.int .i64 fu')).setCell ⟨w.heap.size + 1 + 1, 4, none⟩ (.int .i64 fa')).setCell ⟨w.heap.size + 1 + 1, 5, none⟩ (.int .i64 done')).drew.cell? ⟨w.heap.size, 0, none⟩ = some (.int .i64 N) ∧ ((((((wx.setCell ⟨w.heap.size + 1 + 1, 0, none⟩ (.int .i64 N)).setCell ⟨w.heap.size + 1 + 1, 1, none⟩ (.slice A l c)).setCell ⟨w.heap.size + 1 + 1, 2, none⟩ (.bool dead')).setCell ⟨w.heap.size + 1 + 1, 3, none⟩ (.int .i64 fu')).setCell ⟨w.heap.size + 1 + 1, 4, none⟩ (.int .i64 fa')).setCell ⟨w.heap.size + 1 + 1, 5, none⟩ (.int .i64 done')).drew.cell? ⟨w.heap.size, 1, none⟩ = some (.slice A l c) ∧ ((((((wx.setCell ⟨w.heap.size + 1 + 1, 0, none⟩ (.int .i64 N)).setCell ⟨w.heap.size + 1 + 1, 1, none⟩ (.slice A l c)).setCell ⟨w.heap.size + 1 + 1, 2, none⟩ (.bool dead')).setCell ⟨w.heap.size + 1 + 1, 3, none⟩ (.int .i64 fu')).setCell ⟨w.heap.size + 1 + 1, 4, none⟩ (.int .i64 fa')).setCell ⟨w.heap.size + 1 + 1, 5, none⟩ (.int .i64 done')).drew.cell? ⟨w.heap.size, 2, none⟩ = some (.bool dead') ∧ ((((((wx.setCell ⟨w.heap.size + 1 + 1, 0, none⟩ (.int .i64 N)).setCell ⟨w.heap.size + 1 + 1, 1, none⟩ (.slice A l c)).setCell ⟨w.heap.size + 1 + 1, 2, none⟩ (.bool dead')).setCell ⟨w.heap.size + 1 + 1, 3, none⟩ (.int .i64 fu')).setCell ⟨w.heap.size + 1 + 1, 4, none⟩ (.int .i64 fa')).setCell ⟨w.heap.size + 1 + 1, 5, none⟩ (.int .i64 done')).drew.cell? ⟨w.heap.size, 3, none⟩ = some (.int .i64 fu') ∧ ((((((wx.setCell ⟨w.heap.size + 1 + 1, 0, none⟩ (.int .i64 N)).setCell ⟨w.heap.size + 1 + 1, 1, none⟩ (.slice A l c)).setCell ⟨w.heap.size + 1 + 1, 2, none⟩ (.bool dead')).setCell ⟨w.heap.size + 1 + 1, 3, none⟩ (.int .i64 fu')).setCell ⟨w.heap.size + 1 + 1, 4, none⟩ (.int .i64 fa')).setCell ⟨w.heap.size + 1 + 1, 5, none⟩ (.int .i64 done')).drew.cell? ⟨w.heap.size, 4, none⟩ = some (.int .i64 fa') ∧ ((((((wx.setCell ⟨w.heap.size + 1 + 1, 0, none⟩ (.int .i64 N)).setCell ⟨w.heap.size + 1 + 1, 1, none⟩ (.slice A l c)).setCell ⟨w.heap.size + 1 + 1, 2, none⟩ (.bool dead')).setCell ⟨w.heap.size + 1 + 1, 3, none⟩ (.int .i64 fu')).setCell ⟨w.heap.size + 1 + 1, 4, none⟩ (.int .i64 fa')).setCell ⟨w.heap.size + 1 + 1, 5, none⟩ (.int .i64 done')).drew.cell? ⟨w.heap.size, 5, none⟩ = some (.int .i64 done') ∧ ((((((wx.setCell ⟨w.heap.size + 1 + 1, 0, none⟩ (.int .i64 N)).setCell ⟨w.heap.size + 1 + 1, 1, none⟩ (.slice A l c)).setCell ⟨w.heap.size + 1 + 1, 2, none⟩ (.bool dead')).setCell ⟨w.heap.size + 1 + 1, 3, none⟩ (.int .i64 fu')).setCell ⟨w.heap.size + 1 + 1, 4, none⟩ (.int .i64 fa')).setCell ⟨w.heap.size + 1 + 1, 5, none⟩ (.int .i64 done')).drew.rangeAt (w.heap.size + 1 + 1 + 1 + 1) 0 (bvs bq) ∧ ((((((wx.setCell ⟨w.heap.size + 1 + 1, 0, none⟩ (.int .i64 N)).setCell ⟨w.heap.size + 1 + 1, 1, none⟩ (.slice A l c)).setCell ⟨w.heap.size + 1 + 1, 2, none⟩ (.bool dead')).setCell ⟨w.heap.size + 1 + 1, 3, none⟩ (.int .i64 fu')).setCell ⟨w.heap.size + 1 + 1, 4, none⟩ (.int .i64 fa')).setCell ⟨w.heap.size + 1 + 1, 5, none⟩ (.int .i64 done')).drew.there (w.heap.size + 1 + 1 + 1) 0 64 from ⟨DSY.out.x.cell (j := 0) rfl, DSY.out.x.cell (j := 1) rfl, DSY.out.x.cell (j := 2) rfl, DSY.out.x.cell (j := 3) rfl, DSY.out.x.cell (j := 4) rfl, DSY.out.x.cell (j := 5) rfl, DSY.out.q.rg, DSY.out.z.th⟩)
  have SZ : Hid (Sh w _ _ _ _ _ (((((((wx.setCell ⟨w.heap.size + 1 + 1, 0, none⟩ (.int .i64 N)).setCell ⟨w.heap.size + 1 + 1, 1, none⟩ (.slice A l c)).setCell ⟨w.heap.size + 1 + 1, 2, none⟩ (.bool dead')).setCell ⟨w.heap.size + 1 + 1, 3, none⟩ (.int .i64 fu')).setCell ⟨w.heap.size + 1 + 1, 4, none⟩ (.int .i64 fa')).setCell ⟨w.heap.size + 1 + 1, 5, none⟩ (.int .i64 done')).drew.setCells (w.heap.size + 1 + 1 + 1) 0 (bvs bq))) := Lib.hid (DSY.out.setz HLQ.out)
  have HK2 := Lib.hid (show (((((((wx.setCell ⟨w.heap.size + 1 + 1, 0, none⟩ (.int .i64 N)).setCell ⟨w.heap.size + 1 + 1, 1, none⟩ (.slice A l c)).setCell ⟨w.heap.size + 1 + 1, 2, none⟩ (.bool dead')).setCell ⟨w.heap.size + 1 + 1, 3, none⟩ (.int .i64 fu')).setCell ⟨w.heap.size + 1 + 1, 4, none⟩ (.int .i64 fa')).setCell ⟨w.heap.size + 1 + 1, 5, none⟩ (.int .i64 done')).drew.setCells (w.heap.size + 1 + 1 + 1) 0 (bvs bq)).cell? ⟨w.heap.size, 0, none⟩ = some (.int .i64 N) ∧ (((((((wx.setCell ⟨w.heap.size + 1 + 1, 0, none⟩ (.int .i64 N)).setCell ⟨w.heap.size + 1 + 1, 1, none⟩ (.slice A l c)).setCell ⟨w.heap.size + 1 + 1, 2, none⟩ (.bool dead')).setCell ⟨w.heap.size + 1 + 1, 3, none⟩ (.int .i64 fu')).setCell ⟨w.heap.size + 1 + 1, 4, none⟩ (.int .i64 fa')).setCell ⟨w.heap.size + 1 + 1, 5, none⟩ (.int .i64 done')).drew.setCells (w.heap.size + 1 + 1 + 1) 0 (bvs bq)).cell? ⟨w.heap.size, 1, none⟩ = some (.slice A l c) ∧ (((((((wx.setCell ⟨w.heap.size + 1 + 1, 0, none⟩ (.int .i64 N)).setCell ⟨w.heap.size + 1 + 1, 1, none⟩ (.slice A l c)).setCell ⟨w.heap.size + 1 + 1, 2, none⟩ (.bool dead')).setCell ⟨w.heap.size + 1 + 1, 3, none⟩ (.int .i64 fu')).setCell ⟨w.heap.size + 1 + 1, 4, none⟩ (.int .i64 fa')).setCell ⟨w.heap.size + 1 + 1, 5, none⟩ (.int .i64 done')).drew.setCells (w.heap.size + 1 + 1 + 1) 0 (bvs bq)).cell? ⟨w.heap.size, 2, none⟩ = some (.bool dead') ∧ (((((((wx.setCell ⟨w.heap.size + 1 + 1, 0, none⟩ (.int .i64 N)).setCell ⟨w.heap.size + 1 + 1, 1, none⟩ (.slice A l c)).setCell ⟨w.heap.size + 1 + 1, 2, none⟩ (.bool dead')).setCell ⟨w.heap.size + 1 + 1, 3, none⟩ (.int .i64 fu')).setCell ⟨w.heap.size + 1 + 1, 4, none⟩ (.int .i64 fa')).setCell ⟨w.heap.size + 1 + 1, 5, none⟩ (.int .i64 done')).drew.setCells (w.heap.size + 1 + 1 + 1) 0 (bvs bq)).cell? ⟨w.heap.size, 3, none⟩ = some (.int .i64 fu') ∧ (((((((wx.setCell ⟨w.heap.size + 1 + 1, 0, none⟩ (.int .i64 N)).setCell ⟨w.heap.size + 1 + 1, 1, none⟩ (.slice A l c)).setCell ⟨w.heap.size + 1 + 1, 2, none⟩ (.bool dead')).setCell ⟨w.heap.size + 1 + 1, 3, none⟩ (.int .i64 fu')).setCell ⟨w.heap.size + 1 + 1, 4, none⟩ (.int .i64 fa')).setCell ⟨w.heap.size + 1 + 1, 5, none⟩ (.int .i64 done')).drew.setCells (w.heap.size + 1 + 1 + 1) 0 (bvs bq)).cell? ⟨w.heap.size, 4, none⟩ = some (.int .i64 fa') ∧ (((((((wx.setCell ⟨w.heap.size + 1 + 1, 0, none⟩ (.int .i64 N)).setCell ⟨w.heap.size + 1 + 1, 1, none⟩ (.slice A l c)).setCell ⟨w.heap.size + 1 + 1, 2, none⟩ (.bool dead')).setCell ⟨w.heap.size + 1 + 1, 3, none⟩ (.int .i64 fu')).setCell ⟨w.heap.size + 1 + 1, 4, none⟩ (.int .i64 fa')).setCell ⟨w.heap.size + 1 + 1, 5, none⟩ (.int .i64 done')).drew.setCells (w.heap.size + 1 + 1 + 1) 0 (bvs bq)).cell? ⟨w.heap.size, 5, none⟩ = some (.int .i64 done') ∧ (((((((wx.setCell ⟨w.heap.size + 1 + 1, 0, none⟩ (.int .i64 N)).setCell ⟨w.heap.size + 1 + 1, 1, none⟩ (.slice A l c)).setCell ⟨w.heap.size + 1 + 1, 2, none⟩ (.bool dead')).setCell ⟨w.heap.size + 1 + 1, 3, none⟩ (.int .i64 fu')).setCell ⟨w.heap.size + 1 + 1, 4, none⟩ (.int .i64 fa')).setCell ⟨w.heap.size + 1 + 1, 5, none⟩ (.int .i64 done')).drew.setCells (w.heap.size + 1 + 1 + 1) 0 (bvs bq)).rangeAt (w.heap.size + 1 + 1 + 1 + 1) 0 (bvs bq) ∧ (((((((wx.setCell ⟨w.heap.size + 1 + 1, 0, none⟩ (.int .i64 N)).setCell ⟨w.heap.size + 1 + 1, 1, none⟩ (.slice A l c)).setCell ⟨w.heap.size + 1 + 1, 2, none⟩ (.bool dead')).setCell ⟨w.heap.size + 1 + 1, 3, none⟩ (.int .i64 fu')).setCell ⟨w.heap.size + 1 + 1, 4, none⟩ (.int .i64 fa')).setCell ⟨w.heap.size + 1 + 1, 5, none⟩ (.int .i64 done')).drew.setCells (w.heap.size + 1 + 1 + 1) 0 (bvs bq)).there (w.heap.size + 1 + 1 + 1) 0 64 from ⟨SZ.out.x.cell (j := 0) rfl, SZ.out.x.cell (j := 1) rfl, SZ.out.x.cell (j := 2) rfl, SZ.out.x.cell (j := 3) rfl, SZ.out.x.cell (j := 4) rfl, SZ.out.x.cell (j := 5) rfl, SZ.out.q.rg, SZ.out.z.th⟩)
  have hu := Try.underlying37
  have hi : (Try.prog.info? 37).map (·.size) = some (bvs bq).length := size_of HLQ.out
  have h64 : (bvs bq).length = 64 := by rw [bvs_len, HLQ.out]
  have hall := bvs_one bq
  have g0 : wx.cell? ⟨w.heap.size + 1 + 1, 0, none⟩ = some _ := S4.out.y.cell (j := 0) rfl
  have g1 : wx.cell? ⟨w.heap.size + 1 + 1, 1, none⟩ = some _ := S4.out.y.cell (j := 1) rfl
  have g2 : wx.cell? ⟨w.heap.size + 1 + 1, 2, none⟩ = some _ := S4.out.y.cell (j := 2) rfl
  have g3 : wx.cell? ⟨w.heap.size + 1 + 1, 3, none⟩ = some _ := S4.out.y.cell (j := 3) rfl
  have g4 : wx.cell? ⟨w.heap.size + 1 + 1, 4, none⟩ = some _ := S4.out.y.cell (j := 4) rfl
  have g5 : wx.cell? ⟨w.heap.size + 1 + 1, 5, none⟩ = some _ := S4.out.y.cell (j := 5) rfl
  have f0 : wx.frozen? ⟨w.heap.size + 1 + 1, 0, none⟩ = false := S4.out.y.frozen (j := 0) (by omega)
  have f1 : wx.frozen? ⟨w.heap.size + 1 + 1, 1, none⟩ = false := S4.out.y.frozen (j := 1) (by omega)
  have f2 : wx.frozen? ⟨w.heap.size + 1 + 1, 2, none⟩ = false := S4.out.y.frozen (j := 2) (by omega)
  have f3 : wx.frozen? ⟨w.heap.size + 1 + 1, 3, none⟩ = false := S4.out.y.frozen (j := 3) (by omega)
  have f4 : wx.frozen? ⟨w.heap.size + 1 + 1, 4, none⟩ = false := S4.out.y.frozen (j := 4) (by omega)
  have f5 : wx.frozen? ⟨w.heap.size + 1 + 1, 5, none⟩ = false := S4.out.y.frozen (j := 5) (by omega)
  go_region_held3 (fun w' => w'.cell? ⟨w.heap.size, 0, none⟩ = some (.int .i64 N) ∧ w'.cell? ⟨w.heap.size, 1, none⟩ = some (.slice A l c) ∧ w'.cell? ⟨w.heap.size, 2, none⟩ = some (.bool dead') ∧ w'.cell? ⟨w.heap.size, 3, none⟩ = some (.int .i64 fu') ∧ w'.cell? ⟨w.heap.size, 4, none⟩ = some (.int .i64 fa') ∧ w'.cell? ⟨w.heap.size, 5, none⟩ = some (.int .i64 done') ∧ w'.rangeAt (w.heap.size + 1 + 1 + 1 + 1) 0 (bvs bq) ∧ w'.there (w.heap.size + 1 + 1 + 1) 0 64)
    (first | with_reducible exact HK0.out | with_reducible exact HK1.out | with_reducible exact HK2.out)
    (fail)
  go_wp2
  exact bodyPost_ret (results_ccs rfl _ _ (w.heap.size + 2) (w.heap.size + 3) (rfL N (.slice A l c) dead' fu' fa' done') (bvs bq) _ _ rfl SZ.out.y.rg Try.underlying30 rfl ref_size rfl SZ.out.z.rg Try.underlying37 rfl (size_of HLQ.out)) rfl ⟨A, l, c, rfl, HEW.out.below SZ.out.below, fun x hx => .inl rfl, SZ.out.below⟩
end Go.Proofs.Ytionbjocfepkaaa
