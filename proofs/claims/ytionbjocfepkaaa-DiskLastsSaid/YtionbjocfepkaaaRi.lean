/-
  THE DOCUMENT'S OWN DISK: Write.
-/
import Derived.Test.YtionbjocfepkaaaRh
namespace Go.Proofs.Ytionbjocfepkaaa
set_option linter.unusedVariables false
set_option linter.unusedSimpArgs false
open Go.RowKit Go.WideShapes Go.ChangeShapes Go.Deep

theorem built_form (parts : List (Nat × Value)) : Try.prog.built 94 parts = Instr.fill (#[(0, 1), (1, 64), (65, 1)][·]?) Z66 parts := by kernel_rfl
theorem fill_step {place : Nat → Option (Nat × Nat)} {cells : Array Value} {i off size : Nat} {v : Value} {rest : List (Nat × Value)} (hp : place i = some (off, size)) (hv : v.cells.size = size) (ho : off + size ≤ cells.size) :
    Instr.fill place cells ((i, v) :: rest) = Instr.fill place ((v.cells.toList.zipIdx 0).foldl (fun cs (x : Value × Nat) => cs.setIfInBounds (off + x.2) x.1) cells) rest := by
  rw [Instr.fill, hp]
  simp only [hv]
  rw [if_neg (by simp; omega)]
  congr 1
  rw [← Array.foldl_toList, Array.toList_zipIdx]
theorem built_en {x : List UInt8} (hx : x.length = 64) (b : Nat) : Try.prog.built 94 [(0, .int .i64 (b : Int)), (1, .agg (bvs x).toArray)] = some (En.mk b x false).cells.toArray := by
  rw [built_form]
  have hb : (bvs x).length = 64 := by rw [bvs_len, hx]
  have hz : Z66.size = 66 := by simp [Z66, En.cells_len (e := ⟨0, Zb, false⟩) Zb_len]
  rw [fill_step (off := 0) (size := 1) rfl (by simp [Value.cells]) (by omega)]
  obtain ⟨g1, g2⟩ := Great.foldl_set 0 (Value.int .i64 (b : Int)).cells.toList 0 Z66
  generalize ((Value.int .i64 (b : Int)).cells.toList.zipIdx 0).foldl (fun cs (x : Value × Nat) => cs.setIfInBounds (0 + x.2) x.1) Z66 = C1 at g1 g2 ⊢
  rw [fill_step (off := 1) (size := 64) rfl (by simp [Value.cells, hb]) (by rw [g1]; omega)]
  obtain ⟨k1, k2⟩ := Great.foldl_set 1 (Value.agg (bvs x).toArray).cells.toList 0 C1
  generalize ((Value.agg (bvs x).toArray).cells.toList.zipIdx 0).foldl (fun cs (x : Value × Nat) => cs.setIfInBounds (1 + x.2) x.1) C1 = C2 at k1 k2 ⊢
  rw [Instr.fill]
  congr 1
  apply Array.ext_getElem?
  intro k
  have e1 : (Value.int .i64 (b : Int)).cells.toList = [Value.int .i64 (b : Int)] := rfl
  have e2 : (Value.agg (bvs x).toArray).cells.toList = bvs x := by simp [Value.cells]
  rw [k2 k, g2 k, g1, hz, e1, e2, hb]
  simp only [List.length_cons, List.length_nil, Nat.add_zero, Nat.zero_add, En.cells]
  by_cases h0 : k = 0
  · subst h0
    rw [if_neg (by omega), if_pos (by omega)]
    rfl
  · obtain ⟨j, rfl⟩ : ∃ j, k = j + 1 := ⟨k - 1, by omega⟩
    have e3 : (Value.int .i64 (b : Int) :: (bvs x ++ [Value.bool false])).toArray[j + 1]? = (bvs x ++ [Value.bool false])[j]? := by simp
    rw [e3]
    by_cases h1 : j < 64
    · rw [if_pos (by omega), List.getElem?_append_left (by omega), Nat.add_sub_cancel]
    · rw [if_neg (by omega), if_neg (by omega), List.getElem?_append_right (by omega), hb]
      by_cases h2 : j = 64
      · subst h2
        simp only [Z66, En.cells, List.getElem?_toArray, List.getElem?_cons_succ]
        rw [List.getElem?_append_right (by rw [bvs_len, Zb_len]; omega), bvs_len, Zb_len]
      · rw [Array.getElem?_eq_none (by omega), List.getElem?_eq_none (by simp only [List.length_cons, List.length_nil]; omega)]
theorem wpList_bu_en {ops : Array Oper} {rest : List Oper} {w : World} {o : Oper} {a : Act} {Q : Exit → Act → World → Prop} (hgd : o.guard = none) (y z : Operand) (ho : o.op = .build 94 #[(0, y), (1, z)]) (b : Nat) (x : List UInt8) (hx : Hid (x.length = 64)) (hy : a.eval y = .int .i64 (b : Int)) (hz : a.eval z = .agg (bvs x).toArray)
    (h : wpList Try.prog ops Q rest (a.put o.dst (.agg (En.mk b x false).cells.toArray)) w) : wpList Try.prog ops Q (o :: rest) a w :=
  wpList_buildTo hgd 94 #[(0, y), (1, z)] ho _ rfl _ (by simp only [List.map_toArray, List.map_cons, List.map_nil, hy, hz]; exact built_en hx.out b) h

/-- A disk boxed, a block boxed, and a disk that the result lies in. -/
structure Fb3 (w : World) (x : List Value) (l : List UInt8) (y : List Value) (W : World) : Prop where
  x : Lies W w.heap.size 6 x
  b : Lies W (w.heap.size + 1) 64 (bvs l)
  y : Lies W (w.heap.size + 2) 6 y
  below : Below w.heap.size w W
  size : w.heap.size + 3 ≤ W.heap.size
abbrev bxB (w : World) (l : List UInt8) : World := w.alloc (.cells (bvs l).toArray 37)
theorem Fb3.start (w : World) (n : Int) (V : Value) (dead : Bool) (fu fa done : Int) {l : List UInt8} (hl : l.length = 64) : Fb3 w (rfL n V dead fu fa done) l rf0 (boxR (bxB (boxR w n V dead fu fa done) l) 0 (.slice none 0 0) false 0 0 0) := by
  have b1 := boxR_below w n V dead fu fa done
  have z1 := boxR_size w n V dead fu fa done
  have b2 : Below (boxR w n V dead fu fa done).heap.size (boxR w n V dead fu fa done) (bxB (boxR w n V dead fu fa done) l) := (Below.refl _ _).alloc (Nat.le_refl _) _
  have z2 : (bxB (boxR w n V dead fu fa done) l).heap.size = (boxR w n V dead fu fa done).heap.size + 1 := by simp
  have b3 := boxR_below (bxB (boxR w n V dead fu fa done) l) 0 (.slice none 0 0) false 0 0 0
  have z3 := boxR_size (bxB (boxR w n V dead fu fa done) l) 0 (.slice none 0 0) false 0 0 0
  have l1 := Lies.new w (rfL n V dead fu fa done) 30
  have l2 := Lies.new (boxR w n V dead fu fa done) (bvs l) 37
  have l3 := Lies.new (bxB (boxR w n V dead fu fa done) l) (rfL 0 (.slice none 0 0) false 0 0 0) 30
  rw [z1] at l2 b2 z2
  rw [z2] at l3 b3 z3
  rw [bvs_len, hl] at l2
  exact ⟨(Lies.below (B := w.heap.size + 1) l1 b2 (by omega)).below (b3.mono (by omega)) (Nat.lt_succ_self _), l2.below b3 (by omega), l3, (b1.trans (b2.mono (by omega))).trans (b3.mono (by omega)), by rw [z3]; exact Nat.le_refl _⟩
section
variable {w W W' : World} {x y : List Value} {l : List UInt8}
theorem Fb3.next (h : Fb3 w x l y W) (hb : Below W.heap.size W W') : Fb3 w x l y W' := by
  have hz := h.size
  exact ⟨h.x.below hb (by omega), h.b.below hb (by omega), h.y.below hb (by omega), h.below.trans (hb.mono (by omega)), by have := hb.size; omega⟩
theorem Fb3.grown (h : Fb3 w x l y W) {r : Option Nat} (hg : W.grownBy W' r) (hr : ∀ g, r = some g → w.heap.size + 3 ≤ g) : Fb3 w x l y W' := by
  have hz := h.size
  have hb : Below (w.heap.size + 3) W W' := (Below.refl _ _).grown hg hz hr
  exact ⟨h.x.below hb (by omega), h.b.below hb (by omega), h.y.below hb (by omega), h.below.trans (hb.mono (by omega)), by have := hg.size; omega⟩
theorem Fb3.fldx (h : Fb3 w x l y W) {j : Nat} (hj : j < 6) (v : Value) : Fb3 w (x.set j v) l y (W.setCell ⟨w.heap.size, j, none⟩ v) :=
  ⟨h.x.fld hj v, h.b.other (b' := w.heap.size) (by omega) j [v], h.y.other (b' := w.heap.size) (by omega) j [v], h.below.setCell (Nat.le_refl _) v, by have := h.size; simpa [World.setCell] using this⟩
theorem Fb3.setx (h : Fb3 w x l y W) {x' : List Value} (hx : x'.length = 6) : Fb3 w x' l y (W.setCells w.heap.size 0 x') :=
  ⟨h.x.set_ hx, h.b.other (by omega) _ _, h.y.other (by omega) _ _, below_setCells h.below (by omega) _ _, by rw [(setCells_os _ _ _ _).2.2.2.1]; exact h.size⟩
theorem Fb3.sety (h : Fb3 w x l y W) {y' : List Value} (hy : y'.length = 6) : Fb3 w x l y' (W.setCells (w.heap.size + 2) 0 y') :=
  ⟨h.x.other (by omega) _ _, h.b.other (by omega) _ _, h.y.set_ hy, below_setCells h.below (by omega) _ _, by rw [(setCells_os _ _ _ _).2.2.2.1]; exact h.size⟩
end

/-- Writes appended to nothing. -/
theorem app_en0 {ops : Array Oper} {rest : List Oper} {w : World} {o : Oper} {a : Act} {Q : Exit → Act → World → Prop} (hgd : o.guard = none) (s x : Operand)
    (ho : o.op = .call { callee := .builtin .append, args := #[s, x], argTypes := #[28, 28] })
    (base : Nat) (hs : a.eval s = .slice none 0 0)
    (ad : Addr) (m c : Nat) (new : List En) (hx : a.eval x = .slice (some ad) m c) (hl : Hid (∀ e ∈ new, e.b.length = 64)) (hm : new.length = m) (hnews : ∀ j u, (ens new)[j]? = some u → w.cell? (ad.add j) = some u)
    (hp : 0 < m) (hn : m ≤ 1000000000) (hbase : base ≤ w.heap.size)
    (h : ∀ g cap w', w'.ownsRow base 94 66 (.slice (some ⟨g, 0, none⟩) m cap) m (ens new) → w.grownBy w' none → g < w'.heap.size → wpList Try.prog ops Q rest (a.put o.dst (.slice (some ⟨g, 0, none⟩) m cap)) w') : wpList Try.prog ops Q (o :: rest) a w := by
  refine app_en hgd s x ho base (.slice none 0 0) 0 [] hs (World.ownsRow_nil _ _ _ _) ad m c new hx hl hm hnews hp (by omega) hbase _ rfl ?_
  intro g cap w' h1 h2 h3 h4
  rw [Nat.zero_add, List.nil_append] at h1
  rw [Nat.zero_add]
  exact h g cap w' h1 h2 h4

set_option maxRecDepth 100000 in
set_option maxHeartbeats 4000000 in
theorem write_ref {w : World} {A : Option Addr} {l c : Nat} {es : List En} (h : Ew w A l c es) (hl : l ≤ 1000000) {s : Rs} (hs : s.Ok) (hd : s.done ≤ 4611686018427387904) (n i : Int) {x : List UInt8} (hx : x.length = 64) :
    Calls Try.prog 29 #[s.val n (.slice A l c), .int .i64 i, .agg (bvs x).toArray] w fun e w' => ∃ A' m c', e = .returned (.tuple #[(s.begin n i true).1.val n (.slice A' m c'), .int .i64 (s.begin n i true).2]) ∧ Ew w' A' m c' (if (s.begin n i true).2 = 0 then es ++ [⟨i.toNat, x, false⟩] else es) ∧ (∀ x, A' = some x → A' = A ∨ w.heap.size ≤ x.block) ∧ Below w.heap.size w w' := by
  have hbg := fun w => begin_any hs hd n i true A l c w
  have hio : (s.begin n i true).2 = 0 → 0 ≤ i := by
    unfold Rs.begin
    split
    · intro e; cases e
    · split
      · intro e; cases e
      · rename_i h
        intro _
        omega
  obtain ⟨s', hs'⟩ : ∃ s', (s.begin n i true).1 = s' := ⟨_, rfl⟩
  obtain ⟨er, her⟩ : ∃ er, (s.begin n i true).2 = er := ⟨_, rfl⟩
  rw [hs', her] at hbg
  rw [her] at hio
  rw [hs', her]
  obtain ⟨dead, fu, fa, done⟩ := s
  obtain ⟨dead', fu', fa', done'⟩ := s'
  have F0 := Lib.hid (Fb3.start w n (.slice A l c) dead fu fa done hx)
  have HBG := Lib.hid hbg
  have HEW := Lib.hid h
  have HX := Lib.hid hx
  clear hbg h hs hd hs' her hx
  by_cases he : er = 0
  · subst he
    obtain ⟨j, hj⟩ : ∃ j : Nat, i = (j : Int) := ⟨i.toNat, by have := hio rfl; omega⟩
    subst hj
    clear hio
    rw [if_pos rfl, Int.toNat_natCast]
    obtain ⟨i0, hi, hz, hz1, hz2⟩ := info_parts info_en
    go_enter Try.func29, Try.ntmps29
    go_wp2_with fail
    refine (HBG.out _).mono ?_
    rintro e w1 ⟨rfl, hb1⟩
    have F1 := Lib.hid (F0.out.next hb1)
    have F2 := Lib.hid (F1.out.setx (x' := rfL n (.slice A l c) dead' fu' fa' done') rfl)
    clear hb1
    have c1 := F2.out.x.cell (j := 1) rfl
    have hz1' := F1.out.size
    have hzf2 := F2.out.size
    have HZW := Lib.hid (show (w1.setCells w.heap.size 0 (rfL n (.slice A l c) dead' fu' fa' done')).heap.size = w1.heap.size from (setCells_os _ _ _ _).2.2.2.1)
    have HX1 : Hid (∀ e ∈ [En.mk j x false], e.b.length = 64) := Lib.hid (fun y hy => by rw [List.mem_singleton.1 hy]; exact HX.out)
    have HXE : Hid ((En.mk j x false).b.length = 64) := Lib.hid HX.out
    rcases A with _ | ad
    · have hc := HEW.out.zc rfl
      have hl0 : l = 0 := by have := HEW.out.cap; omega
      subst hc hl0
      obtain rfl : es = [] := List.eq_nil_of_length_eq_zero HEW.out.len
      have XX := Lib.hid <| World.news_of_block (w := (w1.setCells w.heap.size 0 (rfL n (.slice none 0 0) dead' fu' fa' done')).alloc (.cells (En.mk j x false).cells.toArray 94)) (B := w1.heap.size) (cs := (En.mk j x false).cells.toArray) (t := 94) (fr := (0, 0)) (by have := heap_alloc_new (w1.setCells w.heap.size 0 (rfL n (.slice none 0 0) dead' fu' fa' done')) (.cells (En.mk j x false).cells.toArray 94); rwa [HZW.out] at this)
      have F3 := Lib.hid (F2.out.next ((Below.refl _ _).alloc (Nat.le_refl _) (.cells (En.mk j x false).cells.toArray 94)))
      have hz3 := F3.out.size
      go_wp2_with (first
        | (with_reducible refine st_ref rfl _ _ rfl w.heap.size n none 0 0 dead' fu' fa' done' rfl rfl F1.out.x.th ?_)
        | (with_reducible refine wpList_append_own_none rfl (.tmp 18) (.tmp 20) 28 rfl (w.heap.size + 3) 94 i0 66 Try.underlying28 hi (.slice none 0 0) 0 [] rfl (World.ownsRow_nil _ _ _ _) rfl ?_)
        | (with_reducible refine ld_block rfl _ rfl (w.heap.size + 1) 0 x HX rfl F2.out.b.rg ?_)
        | (refine wpList_bu_en rfl _ _ rfl j x HX rfl rfl ?_)
        | (refine wpList_one_en rfl _ rfl ⟨j, x, false⟩ HXE ?_ w1.heap.size ?_ ?_; rfl; exact HZW.out)
        | (at_builtin; refine app_en0 rfl (.tmp 22) (.tmp 26) rfl (w.heap.size + 3) rfl ⟨w1.heap.size, 0, none⟩ 1 1 [⟨j, x, false⟩] rfl HX1 rfl (by rw [ens_one]; exact XX.out) (by omega) (by omega) hz3 ?_; intro g2 c2 w5 hown5 hg5 hlt5; have F4 := Lib.hid (F3.out.grown hg5 (fun g hg => by cases hg)); have d0 := F4.out.x.cell (j := 0) rfl; have d1 := F4.out.x.cell (j := 1) rfl; have d2 := F4.out.x.cell (j := 2) rfl; have d3 := F4.out.x.cell (j := 3) rfl; have d4 := F4.out.x.cell (j := 4) rfl; have d5 := F4.out.x.cell (j := 5) rfl; have f1 := F4.out.x.frozen (j := 1) (by omega); have F5 : Hid (Fb3 w (rfL n (.slice (some ⟨g2, 0, none⟩) 1 c2) dead' fu' fa' done') x rf0 _) := Lib.hid (F4.out.fldx (j := 1) (by omega) (.slice (some ⟨g2, 0, none⟩) 1 c2)); clear hg5 hlt5; have HO5 := Lib.hid hown5; clear hown5)
        | (with_reducible refine ld_ref rfl _ rfl w.heap.size n (.slice (some ⟨g2, 0, none⟩) 1 c2) dead' fu' fa' done' rfl F5.out.x.rg ?_)
        | (with_reducible refine st_ref rfl _ _ rfl (w.heap.size + 2) n (some ⟨g2, 0, none⟩) 1 c2 dead' fu' fa' done' rfl rfl F5.out.y.th ?_))
      have F6 := Lib.hid (F5.out.sety (y' := rfL n (.slice (some ⟨g2, 0, none⟩) 1 c2) dead' fu' fa' done') rfl)
      have HE6 := own_ew (l := [⟨j, x, false⟩]) HO5.out HX1.out (fun e => by omega)
      exact bodyPost_ret (results_cell_tmp rfl _ _ (w.heap.size + 2) 0 (rfL n (.slice (some ⟨g2, 0, none⟩) 1 c2) dead' fu' fa' done') _ rfl F6.out.y.rg Try.underlying30 rfl ref_size) rfl ⟨_, _, _, rfl, HE6.1.mv (S := fun b => b = w.heap.size ∨ b = w.heap.size + 2) ((Mv.refl _ _).set_ (.inl (.inl rfl)) _ |>.setCells (.inl (.inr rfl)) _ _) (fun y hy hS => by have h1 := HE6.2 y hy; rcases hS with hS | hS <;> omega), fun y hy => .inr (by have h1 := HE6.2 y hy; omega), F6.out.below⟩
    · have hl1 : 0 < l := by
        rcases Nat.eq_zero_or_pos l with h0 | h0
        · have := HEW.out.non h0; cases this
        · exact h0
      have hel := HEW.out.len
      have HFT := Lib.hid HEW.out.fit
      have HSRC := Lib.hid (show ∀ j u, (ens es)[j]? = some u → (w1.setCells w.heap.size 0 (rfL n (.slice (some ad) l c) dead' fu' fa' done')).cell? (ad.add j) = some u from by
        have hsw := (HEW.out.below F2.out.below).pos hl1
        generalize w1.setCells w.heap.size 0 (rfL n (.slice (some ad) l c) dead' fu' fa' done') = W2 at hsw ⊢
        obtain ⟨b, o, e, hlt, hc⟩ := hsw
        injection e with e
        subst e
        intro j u hu
        rw [addr_add]
        exact hc j u hu)
      go_wp2_with (first
        | (with_reducible refine st_ref rfl _ _ rfl w.heap.size n (some ad) l c dead' fu' fa' done' rfl rfl F1.out.x.th ?_)
        | (at_builtin; refine app_en rfl (.tmp 22) (.tmp 26) rfl (w.heap.size + 3) (.slice (some ⟨g1, 0, none⟩) l c3) l es rfl (by exact HO4.out.alloc _) ⟨w4.heap.size, 0, none⟩ 1 1 [⟨j, x, false⟩] rfl HX1 rfl (by rw [ens_one]; exact XX.out) (by omega) (by omega) (by rw [HZ4.out]; omega) _ rfl ?_; intro g2 c2 w5 hown5 hg5 hat5 hlt5; have F5 := Lib.hid (F4.out.grown hg5 (fun g hg => (HO4.out.lt g hg).1)); have d0 := F5.out.x.cell (j := 0) rfl; have d1 := F5.out.x.cell (j := 1) rfl; have d2 := F5.out.x.cell (j := 2) rfl; have d3 := F5.out.x.cell (j := 3) rfl; have d4 := F5.out.x.cell (j := 4) rfl; have d5 := F5.out.x.cell (j := 5) rfl; have f1 := F5.out.x.frozen (j := 1) (by omega); have F6 : Hid (Fb3 w (rfL n (.slice (some ⟨g2, 0, none⟩) (l + 1) c2) dead' fu' fa' done') x rf0 _) := Lib.hid (F5.out.fldx (j := 1) (by omega) (.slice (some ⟨g2, 0, none⟩) (l + 1) c2)); clear hg5 hlt5 hat5; have HO5 := Lib.hid hown5; clear hown5)
        | (with_reducible refine ld_block rfl _ rfl (w.heap.size + 1) 0 x HX rfl F3.out.b.rg ?_)
        | (refine wpList_bu_en rfl _ _ rfl j x HX rfl rfl ?_)
        | (refine wpList_one_en rfl _ rfl ⟨j, x, false⟩ HXE ?_ w4.heap.size rfl ?_; rfl)
        | (at_builtin; refine app_en0 rfl (.tmp 18) (.tmp 20) rfl (w.heap.size + 3) rfl ad l c es rfl HFT hel (by exact HSRC.out) hl1 (by omega) (by exact hzf2) ?_; intro g1 c3 w4 hown4 hg4 hlt4; have F3 := Lib.hid (F2.out.grown hg4 (fun g hg => by cases hg)); have HO4 := Lib.hid hown4; clear hown4 hg4 hlt4; have hz4 := F3.out.size; have XX := Lib.hid <| World.news_of_block (w := w4.alloc (.cells (En.mk j x false).cells.toArray 94)) (B := w4.heap.size) (cs := (En.mk j x false).cells.toArray) (t := 94) (fr := (0, 0)) (heap_alloc_new w4 (.cells (En.mk j x false).cells.toArray 94)); have F4 := Lib.hid (F3.out.next ((Below.refl _ _).alloc (Nat.le_refl _) (.cells (En.mk j x false).cells.toArray 94))); have HZ4 : Hid ((w4.alloc (.cells (En.mk j x false).cells.toArray 94)).heap.size = w4.heap.size + 1) := Lib.hid (by simp))
        | (with_reducible refine ld_ref rfl _ rfl w.heap.size n (.slice (some ⟨g2, 0, none⟩) (l + 1) c2) dead' fu' fa' done' rfl F6.out.x.rg ?_)
        | (with_reducible refine st_ref rfl _ _ rfl (w.heap.size + 2) n (some ⟨g2, 0, none⟩) (l + 1) c2 dead' fu' fa' done' rfl rfl F6.out.y.th ?_))
      have F7 := Lib.hid (F6.out.sety (y' := rfL n (.slice (some ⟨g2, 0, none⟩) (l + 1) c2) dead' fu' fa' done') rfl)
      have HE6 := own_ew (l := es ++ [⟨j, x, false⟩]) HO5.out (fun e he => (List.mem_append.1 he).elim (HFT.out e) (HX1.out e)) (fun e => by omega)
      exact bodyPost_ret (results_cell_tmp rfl _ _ (w.heap.size + 2) 0 (rfL n (.slice (some ⟨g2, 0, none⟩) (l + 1) c2) dead' fu' fa' done') _ rfl F7.out.y.rg Try.underlying30 rfl ref_size) rfl ⟨_, _, _, rfl, HE6.1.mv (S := fun b => b = w.heap.size ∨ b = w.heap.size + 2) ((Mv.refl _ _).set_ (.inl (.inl rfl)) _ |>.setCells (.inl (.inr rfl)) _ _) (fun y hy hS => by have h1 := HE6.2 y hy; rcases hS with hS | hS <;> omega), fun y hy => .inr (by have h1 := HE6.2 y hy; omega), F7.out.below⟩
  · have hq : (er == 0) = false := by simpa using he
    rw [if_neg he]
    go_enter Try.func29, Try.ntmps29
    go_wp2_with fail
    refine (HBG.out _).mono ?_
    rintro e w1 ⟨rfl, hb1⟩
    have F1 := Lib.hid (F0.out.next hb1)
    have F2 := Lib.hid (F1.out.setx (x' := rfL n (.slice A l c) dead' fu' fa' done') rfl)
    clear hb1
    go_wp2_with (first
      | (with_reducible refine ld_ref rfl _ rfl w.heap.size n (.slice A l c) dead' fu' fa' done' rfl F2.out.x.rg ?_)
      | (with_reducible refine st_ref rfl _ _ rfl w.heap.size n A l c dead' fu' fa' done' rfl rfl F1.out.x.th ?_)
      | (with_reducible refine st_ref rfl _ _ rfl (w.heap.size + 2) n A l c dead' fu' fa' done' rfl rfl F2.out.y.th ?_))
    have F6 := Lib.hid (F2.out.sety (y' := rfL n (.slice A l c) dead' fu' fa' done') rfl)
    exact bodyPost_ret (results_cell_tmp rfl _ _ (w.heap.size + 2) 0 (rfL n (.slice A l c) dead' fu' fa' done') _ rfl F6.out.y.rg Try.underlying30 rfl ref_size) rfl ⟨A, l, c, rfl, HEW.out.below F6.out.below, fun x hx => .inl rfl, F6.out.below⟩
end Go.Proofs.Ytionbjocfepkaaa
