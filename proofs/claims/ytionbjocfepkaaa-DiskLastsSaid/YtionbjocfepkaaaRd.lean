/-
  THE DOCUMENT'S OWN DISK: its struct in memory, whole; Read.
-/
import Derived.Test.YtionbjocfepkaaaRc
namespace Go.Proofs.Ytionbjocfepkaaa
set_option linter.unusedVariables false
set_option linter.unusedSimpArgs false
open Go.RowKit Go.WideShapes Go.ChangeShapes Go.Deep

/-- A block's cells from its start on, all of which may be stored into. -/
structure Lies (W : World) (b k : Nat) (l : List Value) : Prop where
  rg : W.rangeAt b 0 l
  th : W.there b 0 k
  lt : b < W.heap.size
  len : l.length = k
section
variable {W W' : World} {b k : Nat} {l : List Value}
theorem Lies.below (h : Lies W b k l) {B : Nat} (hb : Below B W W') (hB : b < B) : Lies W' b k l :=
  ⟨rangeAt_keep h.rg (hb.block b hB), there_below h.th hb hB, Nat.lt_of_lt_of_le h.lt hb.size, h.len⟩
theorem Lies.other (h : Lies W b k l) {b' : Nat} (hn : b ≠ b') (o : Nat) (vs : List Value) : Lies (W.setCells b' o vs) b k l :=
  ⟨rangeAt_keep h.rg ((setCells_os b' vs o W).2.2.2.2 b hn), World.there_setCells h.th _ _ _, by rw [(setCells_os b' vs o W).2.2.2.1]; exact h.lt, h.len⟩
theorem Lies.set_ (h : Lies W b k l) {l' : List Value} (hl : l'.length = k) : Lies (W.setCells b 0 l') b k l' :=
  ⟨World.rangeAt_setCells_same _ _ _ _ (by rw [hl]; exact h.th), World.there_setCells h.th _ _ _, by rw [(setCells_os b l' 0 W).2.2.2.1]; exact h.lt, hl⟩
theorem Lies.alloc (h : Lies W b k l) (o : Obj) : Lies (W.alloc o) b k l := h.below ((Below.refl W.heap.size W).alloc (Nat.le_refl _) o) h.lt
theorem Lies.new (w : World) (cs : List Value) (t : TypeId) : Lies (w.alloc (.cells cs.toArray t)) w.heap.size cs.length cs := by
  have hb := Bl.new w t cs
  refine ⟨fun j v hv => by rw [Nat.zero_add, hb.cell j]; exact hv, fun j hj => ⟨?_, hb.frozen _⟩, hb.lt, rfl⟩
  rw [Nat.zero_add, hb.cell j, List.getElem?_eq_getElem hj]
  rfl
theorem Lies.cell (h : Lies W b k l) {j : Nat} {v : Value} (hv : l[j]? = some v) : W.cell? ⟨b, j, none⟩ = some v := by
  have := h.rg j v hv
  rwa [Nat.zero_add] at this
theorem Lies.frozen (h : Lies W b k l) {j : Nat} (hj : j < k) : W.frozen? ⟨b, j, none⟩ = false := by
  have := (h.th j hj).2
  rwa [Nat.zero_add] at this
theorem Lies.drewN (h : Lies W b k l) (m : Nat) : Lies (W.drewN m) b k l := ⟨h.rg, h.th, h.lt, h.len⟩
end
theorem Lies.zb (w : World) : Lies (zbW w) w.heap.size 64 (bvs Zb) := ⟨zbW_range w, Z64_there w, by simp, by rw [bvs_len, Zb_len]⟩

abbrev rfL (n : Int) (V : Value) (dead : Bool) (fu fa done : Int) : List Value := [.int .i64 n, V, .bool dead, .int .i64 fu, .int .i64 fa, .int .i64 done]
theorem ref_size {n : Int} {V : Value} {dead : Bool} {fu fa done : Int} : (Try.prog.info? 30).map (·.size) = some (rfL n V dead fu fa done).length := by kernel_rfl
theorem ld_ref {ops : Array Oper} {rest : List Oper} {op : Oper} {a : Act} {w : World} {Q : Exit → Act → World → Prop} (hgd : op.guard = none) (x : Operand) (ho : op.op = .load 30 x)
    (b : Nat) (n : Int) (V : Value) (dead : Bool) (fu fa done : Int) (hx : a.eval x = .pointer (some ⟨b, 0, none⟩)) (hc : w.rangeAt b 0 (rfL n V dead fu fa done))
    (h : wpList Try.prog ops Q rest (a.put op.dst (rfV n V dead fu fa done)) w) : wpList Try.prog ops Q (op :: rest) a w :=
  wpList_load_mid hgd _ x ho b 0 hx (rfL n V dead fu fa done) _ hc Try.underlying30 rfl ref_size h
theorem st_ref {ops : Array Oper} {rest : List Oper} {op : Oper} {a : Act} {w : World} {Q : Exit → Act → World → Prop} (hgd : op.guard = none) (x y : Operand) (ho : op.op = .store 30 x y)
    (b : Nat) (n : Int) (A : Option Addr) (l c : Nat) (dead : Bool) (fu fa done : Int) (hx : a.eval x = .pointer (some ⟨b, 0, none⟩)) (hy : a.eval y = rfV n (.slice A l c) dead fu fa done) (ht : w.there b 0 6)
    (h : wpList Try.prog ops Q rest (a.put op.dst undef) (w.setCells b 0 (rfL n (.slice A l c) dead fu fa done))) : wpList Try.prog ops Q (op :: rest) a w :=
  wpList_store_mid hgd _ x y ho b 0 (rfL n (.slice A l c) dead fu fa done).toArray hx hy ht ref_size (by simp [Value.oneCell']) h

/-- Two result variables in memory, one not. -/
theorem results_ccs {P : Program} {fn : Func} {p p' t : Tmp} {ty ty' : TypeId} (h : fn.results = #[.cell p ty, .cell p' ty', .tmp t]) (tmps : Array Value) (w : World) (b b' : Nat) (cs cs' : List Value) (d d' : TypeDesc)
    (hp : tmps.getD p undef = .pointer (some ⟨b, 0, none⟩)) (hc : w.rangeAt b 0 cs) (hu : P.underlying ty = some d) (hd : d.isRow = true) (hi : (P.info? ty).map (·.size) = some cs.length)
    (hp' : tmps.getD p' undef = .pointer (some ⟨b', 0, none⟩)) (hc' : w.rangeAt b' 0 cs') (hu' : P.underlying ty' = some d') (hd' : d'.isRow = true) (hi' : (P.info? ty').map (·.size) = some cs'.length) :
    (results fn tmps).run P w = .ok (.tuple #[.agg cs.toArray, .agg cs'.toArray, tmps.getD t undef]) w := by
  have hq : tmps[p]?.getD undef = .pointer (some ⟨b, 0, none⟩) := by simpa using hp
  have hq' : tmps[p']?.getD undef = .pointer (some ⟨b', 0, none⟩) := by simpa using hp'
  simp [results, h, hq, hq', asAddr, run_loadVar_mid w b 0 ty cs d hc hu hd hi, run_loadVar_mid w b' 0 ty' cs' d' hc' hu' hd' hi']

/-- A disk boxed, a disk of noughts, a block of noughts: what a walk begins with. -/
abbrev rbox2 (w : World) (n : Int) (V : Value) (dead : Bool) (fu fa done : Int) : World := boxR (boxR w n V dead fu fa done) 0 (.slice none 0 0) false 0 0 0
structure Fr3 (w : World) (x : List Value) (l : List UInt8) (W : World) : Prop where
  x : Lies W w.heap.size 6 x
  y : ∃ y, Lies W (w.heap.size + 1) 6 y
  z : Lies W (w.heap.size + 2) 64 (bvs l)
  below : Below w.heap.size w W
  size : w.heap.size + 3 ≤ W.heap.size
theorem Fr3.start (w : World) (n : Int) (V : Value) (dead : Bool) (fu fa done : Int) : Fr3 w (rfL n V dead fu fa done) Zb (zbW (rbox2 w n V dead fu fa done)) := by
  have b1 := boxR_below w n V dead fu fa done
  have z1 := boxR_size w n V dead fu fa done
  have b2 := boxR_below (boxR w n V dead fu fa done) 0 (.slice none 0 0) false 0 0 0
  have z2 := boxR_size (boxR w n V dead fu fa done) 0 (.slice none 0 0) false 0 0 0
  have b3 := zbW_below (rbox2 w n V dead fu fa done)
  have z3 := zbW_size (rbox2 w n V dead fu fa done)
  have l1 := Lies.new w (rfL n V dead fu fa done) 30
  have l2 := Lies.new (boxR w n V dead fu fa done) (rfL 0 (.slice none 0 0) false 0 0 0) 30
  have l3 := Lies.zb (rbox2 w n V dead fu fa done)
  have e1 : (boxR w n V dead fu fa done).heap.size = w.heap.size + 1 := z1
  have e2 : (rbox2 w n V dead fu fa done).heap.size = w.heap.size + 2 := by rw [z2, z1]
  have e3 : (zbW (rbox2 w n V dead fu fa done)).heap.size = w.heap.size + 3 := by rw [z3, e2]
  rw [e1] at l2 b2
  rw [e2] at l3 b3
  exact ⟨(Lies.below (B := w.heap.size + 1) l1 b2 (by omega)).below (b3.mono (by omega)) (Nat.lt_succ_self _), ⟨_, l2.below b3 (by omega)⟩, l3, (b1.trans (b2.mono (by omega))).trans (b3.mono (by omega)), by omega⟩
section
variable {w W W' : World} {x : List Value} {l : List UInt8}
theorem Fr3.next (h : Fr3 w x l W) (hb : Below W.heap.size W W') : Fr3 w x l W' := by
  have hz := h.size
  exact ⟨h.x.below hb (by omega), h.y.imp fun _ hy => hy.below hb (by omega), h.z.below hb (by omega), h.below.trans (hb.mono (by omega)), by have := hb.size; omega⟩
theorem Fr3.setx (h : Fr3 w x l W) {x' : List Value} (hx : x'.length = 6) : Fr3 w x' l (W.setCells w.heap.size 0 x') :=
  ⟨h.x.set_ hx, h.y.imp fun _ hy => hy.other (by omega) _ _, h.z.other (by omega) _ _, below_setCells h.below (by omega) _ _, by rw [(setCells_os _ _ _ _).2.2.2.1]; exact h.size⟩
theorem Fr3.sety (h : Fr3 w x l W) {x' : List Value} (hx : x'.length = 6) : Fr3 w x l (W.setCells (w.heap.size + 1) 0 x') ∧ (W.setCells (w.heap.size + 1) 0 x').rangeAt (w.heap.size + 1) 0 x' := by
  obtain ⟨y, hy⟩ := h.y
  exact ⟨⟨h.x.other (by omega) _ _, ⟨_, hy.set_ hx⟩, h.z.other (by omega) _ _, below_setCells h.below (by omega) _ _, by rw [(setCells_os _ _ _ _).2.2.2.1]; exact h.size⟩, (hy.set_ hx).rg⟩
theorem Fr3.setz (h : Fr3 w x l W) {l' : List UInt8} (hl : l'.length = 64) : Fr3 w x l' (W.setCells (w.heap.size + 2) 0 (bvs l')) :=
  ⟨h.x.other (by omega) _ _, h.y.imp fun _ hy => hy.other (by omega) _ _, h.z.set_ (by rw [bvs_len, hl]), below_setCells h.below (by omega) _ _, by rw [(setCells_os _ _ _ _).2.2.2.1]; exact h.size⟩
theorem Fr3.drew (h : Fr3 w x l W) : Fr3 w x l W.drew := h.next (Below.refl _ _).drew
end

set_option maxRecDepth 100000 in
set_option maxHeartbeats 4000000 in
theorem read_ref {w : World} {A : Option Addr} {l c : Nat} {es : List En} (h : Ew w A l c es) (hl : l ≤ 1000000) {s : Rs} (hs : s.Ok) (hd : s.done ≤ 4611686018427387904) (n : Int) (hn : n ≤ 2048) (i : Int) :
    Calls Try.prog 28 #[s.val n (.slice A l c), .int .i64 i] w fun e w' => e = .returned (.tuple #[(s.begin n i false).1.val n (.slice A l c), .agg (bvs (if (s.begin n i false).2 = 0 then holdE es i.toNat else Zb)).toArray, .int .i64 (s.begin n i false).2]) ∧ Below w.heap.size w w' := by
  have hbg := fun w => begin_any hs hd n i false A l c w
  have hio : (s.begin n i false).2 = 0 → 0 ≤ i ∧ i < n := by
    unfold Rs.begin
    split
    · intro e; cases e
    · split
      · intro e; cases e
      · rename_i h
        intro _
        omega
  obtain ⟨s', hs'⟩ : ∃ s', (s.begin n i false).1 = s' := ⟨_, rfl⟩
  obtain ⟨er, her⟩ : ∃ er, (s.begin n i false).2 = er := ⟨_, rfl⟩
  rw [hs', her] at hbg
  rw [her] at hio
  rw [hs', her]
  obtain ⟨dead, fu, fa, done⟩ := s
  obtain ⟨dead', fu', fa', done'⟩ := s'
  have HBG := Lib.hid hbg
  have HS := Lib.hid h
  have HF := Lib.hid (Fr3.start w n (.slice A l c) dead fu fa done)
  clear hbg h hs hd hs' her
  have HZ := Lib.hid Zb_len
  by_cases he : er = 0
  · subst he
    obtain ⟨hi0, hi1⟩ := hio rfl
    obtain ⟨j, hj⟩ : ∃ j : Nat, i = (j : Int) := ⟨i.toNat, by omega⟩
    subst hj
    rw [if_pos rfl, Int.toNat_natCast]
    have HL := Lib.hid (holdE_len HS.out.fit j)
    go_enter Try.func28, Try.ntmps28
    go_wp2_with (with_reducible refine al_block rfl rfl ?_)
    refine (HBG.out _).mono ?_
    rintro e w1 ⟨rfl, hb1⟩
    have F1 := Lib.hid (HF.out.next hb1)
    have F2 := Lib.hid (F1.out.setx (x' := rfL n (.slice A l c) dead' fu' fa' done') rfl)
    clear hb1
    go_wp2_with (first
      | (with_reducible refine ld_ref rfl _ rfl w.heap.size n (.slice A l c) dead' fu' fa' done' rfl F2.out.x.rg ?_)
      | (with_reducible refine st_ref rfl _ _ rfl w.heap.size n A l c dead' fu' fa' done' rfl rfl F1.out.x.th ?_))
    generalize hw2 : w1.setCells w.heap.size 0 (rfL n (.slice A l c) dead' fu' fa' done') = w2 at F2 ⊢
    clear hw2 F1
    have HE := Lib.hid (HS.out.below F2.out.below)
    have hu := Try.underlying37
    have hi : (Try.prog.info? 37).map (·.size) = some (bvs (holdE es j)).length := size_of HL.out
    have h64 : (bvs (holdE es j)).length = 64 := by rw [bvs_len, HL.out]
    have hall := bvs_one (holdE es j)
    have F3 := Lib.hid F2.out.drew
    have HK3 := Lib.hid (show w2.drew.cell? ⟨w.heap.size, 0, none⟩ = some (.int .i64 n) ∧ w2.drew.cell? ⟨w.heap.size, 1, none⟩ = some (.slice A l c) ∧ w2.drew.cell? ⟨w.heap.size, 2, none⟩ = some (.bool dead') ∧ w2.drew.cell? ⟨w.heap.size, 3, none⟩ = some (.int .i64 fu') ∧ w2.drew.cell? ⟨w.heap.size, 4, none⟩ = some (.int .i64 fa') ∧ w2.drew.cell? ⟨w.heap.size, 5, none⟩ = some (.int .i64 done') ∧ w2.drew.there (w.heap.size + 2) 0 64 from ⟨F3.out.x.cell (j := 0) rfl, F3.out.x.cell (j := 1) rfl, F3.out.x.cell (j := 2) rfl, F3.out.x.cell (j := 3) rfl, F3.out.x.cell (j := 4) rfl, F3.out.x.cell (j := 5) rfl, F3.out.z.th⟩)
    go_region_held3 (fun w' => w'.cell? ⟨w.heap.size, 0, none⟩ = some (.int .i64 n) ∧ w'.cell? ⟨w.heap.size, 1, none⟩ = some (.slice A l c) ∧ w'.cell? ⟨w.heap.size, 2, none⟩ = some (.bool dead') ∧ w'.cell? ⟨w.heap.size, 3, none⟩ = some (.int .i64 fu') ∧ w'.cell? ⟨w.heap.size, 4, none⟩ = some (.int .i64 fa') ∧ w'.cell? ⟨w.heap.size, 5, none⟩ = some (.int .i64 done') ∧ w'.there (w.heap.size + 2) 0 64)
      (first | with_reducible exact HK3.out | with_reducible exact HK4.out | with_reducible exact HK5.out | with_reducible exact HK6.out)
      ((go_at_call 53; refine (holds_ref (w := w2.drew) (HE.out.below (Below.refl _ _).drew) hl ⟨dead', fu', fa', done'⟩ n j (by omega)).mono ?_; rintro e w4 ⟨rfl, hb4⟩; have F4 := Lib.hid (F3.out.next hb4); clear hb4; obtain ⟨y, hy⟩ := F4.out.y; obtain ⟨y0, y1, y2, y3, y4, y5, rfl⟩ : ∃ y0 y1 y2 y3 y4 y5, y = [y0, y1, y2, y3, y4, y5] := (by match y, hy.len with | [a, b, c, d, e, f], _ => exact ⟨a, b, c, d, e, f, rfl⟩); have g0 := hy.cell (j := 0) rfl; have g1 := hy.cell (j := 1) rfl; have g2 := hy.cell (j := 2) rfl; have g3 := hy.cell (j := 3) rfl; have g4 := hy.cell (j := 4) rfl; have g5 := hy.cell (j := 5) rfl; have f0 := hy.frozen (j := 0) (by omega); have f1 := hy.frozen (j := 1) (by omega); have f2 := hy.frozen (j := 2) (by omega); have f3 := hy.frozen (j := 3) (by omega); have f4 := hy.frozen (j := 4) (by omega); have f5 := hy.frozen (j := 5) (by omega); clear hy; have HK4 := Lib.hid (show w4.cell? ⟨w.heap.size, 0, none⟩ = some (.int .i64 n) ∧ w4.cell? ⟨w.heap.size, 1, none⟩ = some (.slice A l c) ∧ w4.cell? ⟨w.heap.size, 2, none⟩ = some (.bool dead') ∧ w4.cell? ⟨w.heap.size, 3, none⟩ = some (.int .i64 fu') ∧ w4.cell? ⟨w.heap.size, 4, none⟩ = some (.int .i64 fa') ∧ w4.cell? ⟨w.heap.size, 5, none⟩ = some (.int .i64 done') ∧ w4.there (w.heap.size + 2) 0 64 from ⟨F4.out.x.cell (j := 0) rfl, F4.out.x.cell (j := 1) rfl, F4.out.x.cell (j := 2) rfl, F4.out.x.cell (j := 3) rfl, F4.out.x.cell (j := 4) rfl, F4.out.x.cell (j := 5) rfl, F4.out.z.th⟩); have F5 := Lib.hid (show Fr3 w (rfL n (.slice A l c) dead' fu' fa' done') Zb ((((((w4.setCell ⟨w.heap.size + 1, 0, none⟩ (.int .i64 n)).setCell ⟨w.heap.size + 1, 1, none⟩ (.slice A l c)).setCell ⟨w.heap.size + 1, 2, none⟩ (.bool dead')).setCell ⟨w.heap.size + 1, 3, none⟩ (.int .i64 fu')).setCell ⟨w.heap.size + 1, 4, none⟩ (.int .i64 fa')).setCell ⟨w.heap.size + 1, 5, none⟩ (.int .i64 done')) from (F4.out.sety (x' := rfL n (.slice A l c) dead' fu' fa' done') rfl).1); have Y5 := Lib.hid (show ((((((w4.setCell ⟨w.heap.size + 1, 0, none⟩ (.int .i64 n)).setCell ⟨w.heap.size + 1, 1, none⟩ (.slice A l c)).setCell ⟨w.heap.size + 1, 2, none⟩ (.bool dead')).setCell ⟨w.heap.size + 1, 3, none⟩ (.int .i64 fu')).setCell ⟨w.heap.size + 1, 4, none⟩ (.int .i64 fa')).setCell ⟨w.heap.size + 1, 5, none⟩ (.int .i64 done')).rangeAt (w.heap.size + 1) 0 (rfL n (.slice A l c) dead' fu' fa' done') from (F4.out.sety (x' := rfL n (.slice A l c) dead' fu' fa' done') rfl).2); have HK5 := Lib.hid (show ((((((w4.setCell ⟨w.heap.size + 1, 0, none⟩ (.int .i64 n)).setCell ⟨w.heap.size + 1, 1, none⟩ (.slice A l c)).setCell ⟨w.heap.size + 1, 2, none⟩ (.bool dead')).setCell ⟨w.heap.size + 1, 3, none⟩ (.int .i64 fu')).setCell ⟨w.heap.size + 1, 4, none⟩ (.int .i64 fa')).setCell ⟨w.heap.size + 1, 5, none⟩ (.int .i64 done')).cell? ⟨w.heap.size, 0, none⟩ = some (.int .i64 n) ∧ ((((((w4.setCell ⟨w.heap.size + 1, 0, none⟩ (.int .i64 n)).setCell ⟨w.heap.size + 1, 1, none⟩ (.slice A l c)).setCell ⟨w.heap.size + 1, 2, none⟩ (.bool dead')).setCell ⟨w.heap.size + 1, 3, none⟩ (.int .i64 fu')).setCell ⟨w.heap.size + 1, 4, none⟩ (.int .i64 fa')).setCell ⟨w.heap.size + 1, 5, none⟩ (.int .i64 done')).cell? ⟨w.heap.size, 1, none⟩ = some (.slice A l c) ∧ ((((((w4.setCell ⟨w.heap.size + 1, 0, none⟩ (.int .i64 n)).setCell ⟨w.heap.size + 1, 1, none⟩ (.slice A l c)).setCell ⟨w.heap.size + 1, 2, none⟩ (.bool dead')).setCell ⟨w.heap.size + 1, 3, none⟩ (.int .i64 fu')).setCell ⟨w.heap.size + 1, 4, none⟩ (.int .i64 fa')).setCell ⟨w.heap.size + 1, 5, none⟩ (.int .i64 done')).cell? ⟨w.heap.size, 2, none⟩ = some (.bool dead') ∧ ((((((w4.setCell ⟨w.heap.size + 1, 0, none⟩ (.int .i64 n)).setCell ⟨w.heap.size + 1, 1, none⟩ (.slice A l c)).setCell ⟨w.heap.size + 1, 2, none⟩ (.bool dead')).setCell ⟨w.heap.size + 1, 3, none⟩ (.int .i64 fu')).setCell ⟨w.heap.size + 1, 4, none⟩ (.int .i64 fa')).setCell ⟨w.heap.size + 1, 5, none⟩ (.int .i64 done')).cell? ⟨w.heap.size, 3, none⟩ = some (.int .i64 fu') ∧ ((((((w4.setCell ⟨w.heap.size + 1, 0, none⟩ (.int .i64 n)).setCell ⟨w.heap.size + 1, 1, none⟩ (.slice A l c)).setCell ⟨w.heap.size + 1, 2, none⟩ (.bool dead')).setCell ⟨w.heap.size + 1, 3, none⟩ (.int .i64 fu')).setCell ⟨w.heap.size + 1, 4, none⟩ (.int .i64 fa')).setCell ⟨w.heap.size + 1, 5, none⟩ (.int .i64 done')).cell? ⟨w.heap.size, 4, none⟩ = some (.int .i64 fa') ∧ ((((((w4.setCell ⟨w.heap.size + 1, 0, none⟩ (.int .i64 n)).setCell ⟨w.heap.size + 1, 1, none⟩ (.slice A l c)).setCell ⟨w.heap.size + 1, 2, none⟩ (.bool dead')).setCell ⟨w.heap.size + 1, 3, none⟩ (.int .i64 fu')).setCell ⟨w.heap.size + 1, 4, none⟩ (.int .i64 fa')).setCell ⟨w.heap.size + 1, 5, none⟩ (.int .i64 done')).cell? ⟨w.heap.size, 5, none⟩ = some (.int .i64 done') ∧ ((((((w4.setCell ⟨w.heap.size + 1, 0, none⟩ (.int .i64 n)).setCell ⟨w.heap.size + 1, 1, none⟩ (.slice A l c)).setCell ⟨w.heap.size + 1, 2, none⟩ (.bool dead')).setCell ⟨w.heap.size + 1, 3, none⟩ (.int .i64 fu')).setCell ⟨w.heap.size + 1, 4, none⟩ (.int .i64 fa')).setCell ⟨w.heap.size + 1, 5, none⟩ (.int .i64 done')).there (w.heap.size + 2) 0 64 from ⟨F5.out.x.cell (j := 0) rfl, F5.out.x.cell (j := 1) rfl, F5.out.x.cell (j := 2) rfl, F5.out.x.cell (j := 3) rfl, F5.out.x.cell (j := 4) rfl, F5.out.x.cell (j := 5) rfl, F5.out.z.th⟩); have F6 := Lib.hid (F5.out.setz HL.out); have HK6 := Lib.hid (show (((((((w4.setCell ⟨w.heap.size + 1, 0, none⟩ (.int .i64 n)).setCell ⟨w.heap.size + 1, 1, none⟩ (.slice A l c)).setCell ⟨w.heap.size + 1, 2, none⟩ (.bool dead')).setCell ⟨w.heap.size + 1, 3, none⟩ (.int .i64 fu')).setCell ⟨w.heap.size + 1, 4, none⟩ (.int .i64 fa')).setCell ⟨w.heap.size + 1, 5, none⟩ (.int .i64 done')).setCells (w.heap.size + 2) 0 (bvs (holdE es j))).cell? ⟨w.heap.size, 0, none⟩ = some (.int .i64 n) ∧ (((((((w4.setCell ⟨w.heap.size + 1, 0, none⟩ (.int .i64 n)).setCell ⟨w.heap.size + 1, 1, none⟩ (.slice A l c)).setCell ⟨w.heap.size + 1, 2, none⟩ (.bool dead')).setCell ⟨w.heap.size + 1, 3, none⟩ (.int .i64 fu')).setCell ⟨w.heap.size + 1, 4, none⟩ (.int .i64 fa')).setCell ⟨w.heap.size + 1, 5, none⟩ (.int .i64 done')).setCells (w.heap.size + 2) 0 (bvs (holdE es j))).cell? ⟨w.heap.size, 1, none⟩ = some (.slice A l c) ∧ (((((((w4.setCell ⟨w.heap.size + 1, 0, none⟩ (.int .i64 n)).setCell ⟨w.heap.size + 1, 1, none⟩ (.slice A l c)).setCell ⟨w.heap.size + 1, 2, none⟩ (.bool dead')).setCell ⟨w.heap.size + 1, 3, none⟩ (.int .i64 fu')).setCell ⟨w.heap.size + 1, 4, none⟩ (.int .i64 fa')).setCell ⟨w.heap.size + 1, 5, none⟩ (.int .i64 done')).setCells (w.heap.size + 2) 0 (bvs (holdE es j))).cell? ⟨w.heap.size, 2, none⟩ = some (.bool dead') ∧ (((((((w4.setCell ⟨w.heap.size + 1, 0, none⟩ (.int .i64 n)).setCell ⟨w.heap.size + 1, 1, none⟩ (.slice A l c)).setCell ⟨w.heap.size + 1, 2, none⟩ (.bool dead')).setCell ⟨w.heap.size + 1, 3, none⟩ (.int .i64 fu')).setCell ⟨w.heap.size + 1, 4, none⟩ (.int .i64 fa')).setCell ⟨w.heap.size + 1, 5, none⟩ (.int .i64 done')).setCells (w.heap.size + 2) 0 (bvs (holdE es j))).cell? ⟨w.heap.size, 3, none⟩ = some (.int .i64 fu') ∧ (((((((w4.setCell ⟨w.heap.size + 1, 0, none⟩ (.int .i64 n)).setCell ⟨w.heap.size + 1, 1, none⟩ (.slice A l c)).setCell ⟨w.heap.size + 1, 2, none⟩ (.bool dead')).setCell ⟨w.heap.size + 1, 3, none⟩ (.int .i64 fu')).setCell ⟨w.heap.size + 1, 4, none⟩ (.int .i64 fa')).setCell ⟨w.heap.size + 1, 5, none⟩ (.int .i64 done')).setCells (w.heap.size + 2) 0 (bvs (holdE es j))).cell? ⟨w.heap.size, 4, none⟩ = some (.int .i64 fa') ∧ (((((((w4.setCell ⟨w.heap.size + 1, 0, none⟩ (.int .i64 n)).setCell ⟨w.heap.size + 1, 1, none⟩ (.slice A l c)).setCell ⟨w.heap.size + 1, 2, none⟩ (.bool dead')).setCell ⟨w.heap.size + 1, 3, none⟩ (.int .i64 fu')).setCell ⟨w.heap.size + 1, 4, none⟩ (.int .i64 fa')).setCell ⟨w.heap.size + 1, 5, none⟩ (.int .i64 done')).setCells (w.heap.size + 2) 0 (bvs (holdE es j))).cell? ⟨w.heap.size, 5, none⟩ = some (.int .i64 done') ∧ (((((((w4.setCell ⟨w.heap.size + 1, 0, none⟩ (.int .i64 n)).setCell ⟨w.heap.size + 1, 1, none⟩ (.slice A l c)).setCell ⟨w.heap.size + 1, 2, none⟩ (.bool dead')).setCell ⟨w.heap.size + 1, 3, none⟩ (.int .i64 fu')).setCell ⟨w.heap.size + 1, 4, none⟩ (.int .i64 fa')).setCell ⟨w.heap.size + 1, 5, none⟩ (.int .i64 done')).setCells (w.heap.size + 2) 0 (bvs (holdE es j))).there (w.heap.size + 2) 0 64 from ⟨F6.out.x.cell (j := 0) rfl, F6.out.x.cell (j := 1) rfl, F6.out.x.cell (j := 2) rfl, F6.out.x.cell (j := 3) rfl, F6.out.x.cell (j := 4) rfl, F6.out.x.cell (j := 5) rfl, F6.out.z.th⟩)))
    go_wp2
    exact bodyPost_ret (results_ccs rfl _ _ (w.heap.size + 1) (w.heap.size + 2) (rfL n (.slice A l c) dead' fu' fa' done') (bvs (holdE es j)) _ _ rfl (rangeAt_keep Y5.out ((setCells_os _ _ _ _).2.2.2.2 (w.heap.size + 1) (by omega))) Try.underlying30 rfl ref_size rfl F6.out.z.rg Try.underlying37 rfl (size_of HL.out)) rfl ⟨rfl, F6.out.below⟩
  · have hq : (er != 0) = true := by simpa using he
    rw [if_neg he]
    go_enter Try.func28, Try.ntmps28
    go_wp2_with (with_reducible refine al_block rfl rfl ?_)
    refine (HBG.out _).mono ?_
    rintro e w1 ⟨rfl, hb1⟩
    have F1 := Lib.hid (HF.out.next hb1)
    have F2 := Lib.hid (F1.out.setx (x' := rfL n (.slice A l c) dead' fu' fa' done') rfl)
    clear hb1
    go_wp2_with (first
      | (with_reducible refine ld_ref rfl _ rfl w.heap.size n (.slice A l c) dead fu fa done rfl F1.out.x.rg ?_)
      | (with_reducible refine ld_ref rfl _ rfl w.heap.size n (.slice A l c) dead' fu' fa' done' rfl F2.out.x.rg ?_)
      | (with_reducible refine st_ref rfl _ _ rfl w.heap.size n A l c dead' fu' fa' done' rfl rfl F1.out.x.th ?_)
      | (with_reducible refine st_ref rfl _ _ rfl (w.heap.size + 1) n A l c dead' fu' fa' done' rfl rfl (F2.out.y.choose_spec.th) ?_)
      | (with_reducible refine st_block rfl _ _ rfl (w.heap.size + 2) 0 Zb HZ rfl rfl ((F2.out.sety (x' := rfL n (.slice A l c) dead' fu' fa' done') rfl).1.z.th) ?_)
      | (with_reducible refine bz_block rfl rfl ?_))
    have F3 := Lib.hid (F2.out.sety (x' := rfL n (.slice A l c) dead' fu' fa' done') rfl)
    have F4 := Lib.hid (F3.out.1.setz HZ.out)
    exact bodyPost_ret (results_ccs rfl _ _ (w.heap.size + 1) (w.heap.size + 2) (rfL n (.slice A l c) dead' fu' fa' done') (bvs Zb) _ _ rfl (rangeAt_keep F3.out.2 ((setCells_os _ _ _ _).2.2.2.2 (w.heap.size + 1) (by omega))) Try.underlying30 rfl ref_size rfl F4.out.z.rg Try.underlying37 rfl (size_of HZ.out)) rfl ⟨rfl, F4.out.below⟩
end Go.Proofs.Ytionbjocfepkaaa
