/-
  WHICH DIGEST IS THE LESSER ONE.
-/
import Derived.Test.YtgjkahoblopddaaDoorEq
import Derived.Deep.QuietTactic
namespace Go.Proofs.YtgjkahoblopddaaDoor
set_option linter.unusedVariables false
set_option linter.unusedSimpArgs false
open Go.RowKit Go.WideShapes Go.ChangeShapes

theorem results_cc {P : Program} {fn : Func} {p p' : Tmp} {ty ty' : TypeId} (h : fn.results = #[.cell p ty, .cell p' ty']) (tmps : Array Value) (w : World) (b b' : Nat) (cs cs' : List Value) (d d' : TypeDesc)
    (hp : tmps.getD p undef = .pointer (some ⟨b, 0, none⟩)) (hc : w.rangeAt b 0 cs) (hu : P.underlying ty = some d) (hd : d.isRow = true) (hi : (P.info? ty).map (·.size) = some cs.length)
    (hp' : tmps.getD p' undef = .pointer (some ⟨b', 0, none⟩)) (hc' : w.rangeAt b' 0 cs') (hu' : P.underlying ty' = some d') (hd' : d'.isRow = true) (hi' : (P.info? ty').map (·.size) = some cs'.length) :
    (results fn tmps).run P w = .ok (.tuple #[.agg cs.toArray, .agg cs'.toArray]) w := by
  have hq : tmps[p]?.getD undef = .pointer (some ⟨b, 0, none⟩) := by simpa using hp
  have hq' : tmps[p']?.getD undef = .pointer (some ⟨b', 0, none⟩) := by simpa using hp'
  simp [results, h, hq, hq', asAddr, run_loadVar_mid w b 0 ty cs d hc hu hd hi, run_loadVar_mid w b' 0 ty' cs' d' hc' hu' hd' hi']
def Ze : List UInt8 := List.replicate 16 0
theorem Ze_len : Ze.length = 16 := List.length_replicate
theorem zero_b16 (w : World) : (zeroValue 85).run Tryd.prog w = .ok (.agg (bvs Ze).toArray) w := by kernel_rfl
theorem al_b16 {ops : Array Oper} {rest : List Oper} {op : Oper} {a : Act} {w : World} {Q : Exit → Act → World → Prop} (hgd : op.guard = none) (ho : op.op = .alloc 85)
    (h : wpList Tryd.prog ops Q rest (a.put op.dst (.pointer (some ⟨w.heap.size, 0, none⟩))) (w.alloc (.cells (bvs Ze).toArray 85))) : wpList Tryd.prog ops Q (op :: rest) a w :=
  wpList_alloc_as hgd _ ho _ zero_b16 h
theorem Ze_new (w : World) : Lies (w.alloc (.cells (bvs Ze).toArray 85)) w.heap.size 16 (bvs Ze) := by
  have := Lies.new w (bvs Ze) 85
  rwa [bvs_len, Ze_len] at this

set_option maxRecDepth 100000 in
set_option maxHeartbeats 1600000 in
theorem ends_any (x : List UInt8) (hx : x.length = 32) (w : World) :
    Calls Tryd.prog 53 #[.agg (bvs x).toArray] w fun e w' => e = .returned (.tuple #[.agg (bvs (x.take 16)).toArray, .agg (bvs (x.drop 16)).toArray]) ∧ Below w.heap.size w w' := by
  have l1 : Lies (w.alloc (.cells (bvs x).toArray 26)) w.heap.size 32 (bvs x) := by
    have := Lies.new w (bvs x) 26
    rwa [bvs_len, hx] at this
  have hb1 : Below w.heap.size w (w.alloc (.cells (bvs x).toArray 26)) := (Below.refl _ _).alloc (Nat.le_refl _) _
  have hz1 : (w.alloc (.cells (bvs x).toArray 26)).heap.size = w.heap.size + 1 := by simp
  obtain ⟨w1, hw1⟩ : ∃ w1, w1 = w.alloc (.cells (bvs x).toArray 26) := ⟨_, rfl⟩
  rw [← hw1] at l1 hb1 hz1
  have l2 := Ze_new w1
  obtain ⟨w2, hw2⟩ : ∃ w2, w2 = w1.alloc (.cells (bvs Ze).toArray 85) := ⟨_, rfl⟩
  have hz2 : w2.heap.size = w.heap.size + 1 + 1 := by rw [hw2]; simp [hz1]
  rw [← hw2, hz1] at l2
  have l12 : Lies w2 w.heap.size 32 (bvs x) := by rw [hw2]; exact l1.alloc _
  have hb2 : Below w.heap.size w w2 := by rw [hw2]; exact hb1.alloc hb1.size _
  have l3 := Ze_new w2
  obtain ⟨w3, hw3⟩ : ∃ w3, w3 = w2.alloc (.cells (bvs Ze).toArray 85) := ⟨_, rfl⟩
  rw [← hw3, hz2] at l3
  have l13 : Lies w3 w.heap.size 32 (bvs x) := by rw [hw3]; exact l12.alloc _
  have l23 : Lies w3 (w.heap.size + 1) 16 (bvs Ze) := by rw [hw3]; exact l2.alloc _
  have hb3 : Below w.heap.size w w3 := by rw [hw3]; exact hb2.alloc hb2.size _
  have HT := Lib.hid (show (x.take 16).length = 16 by rw [List.length_take, hx]; rfl)
  have HD := Lib.hid (show (x.drop 16).length = 16 by rw [List.length_drop, hx])
  have BD := Lib.hid (show Below w3.heap.size w3 w3.drew from (Below.refl _ _).drew)
  have L1 := Lib.hid (l13.below BD.out l13.lt)
  have L2 := Lib.hid (l23.below BD.out l23.lt)
  have L3 := Lib.hid (l3.below BD.out l3.lt)
  have B3 := Lib.hid (hb3.trans (BD.out.mono hb3.size))
  have HW3 := Lib.hid (hw3.trans (by rw [hw2, hw1]))
  have R1 := Lib.hid (show w3.drew.rangeAt w.heap.size 0 (bvs (x.take 16)) from fun j v hv => by
    obtain ⟨hj, rfl⟩ := bvs_at _ _ _ hv
    rw [HT.out] at hj
    exact L1.out.rg j _ (by simp [bvs, List.getElem?_eq_getElem (show j < x.length by omega)]))
  have R2 := Lib.hid (show w3.drew.rangeAt w.heap.size 16 (bvs (x.drop 16)) from fun j v hv => by
    obtain ⟨hj, rfl⟩ := bvs_at _ _ _ hv
    rw [HD.out] at hj
    have := L1.out.rg (16 + j) (bv ((x.drop 16)[j]'(by rw [HD.out]; exact hj))) (by simp [bvs, List.getElem?_eq_getElem (show 16 + j < x.length by omega)])
    rw [Nat.zero_add] at this
    exact this)
  have ha1 := fun w => run_arrayAt (P := Tryd.prog) w 85 5 16 (some ⟨w3.heap.size - 3, 0, none⟩) 16 32 Tryd.underlying85 (Nat.le_refl _)
  clear ha1 hw1 hz1 hw2 hz2 hw3 hb1 hb2 hb3 l1 l2 l3 l12 l13 l23
  have ha1 := fun w' => run_arrayAt (P := Tryd.prog) w' 85 5 16 (some ⟨w.heap.size, 0, none⟩) 16 32 Tryd.underlying85 (Nat.le_refl _)
  have ha2 := fun w' => run_arrayAt (P := Tryd.prog) w' 85 5 16 (some ⟨w.heap.size, 16, none⟩) 16 16 Tryd.underlying85 (Nat.le_refl _)
  go_enter Tryd.func53, Tryd.ntmps53
  go_wp2_with (first | ((with_reducible refine al_b16 rfl rfl ?_); (try simp only [Act.put, List.setIfInBounds_toArray, List.set_cons_succ, List.set_cons_zero, World.size_alloc])))
  rw [← HW3.out]
  refine wp_region_noPanic ?_
  refine wp_region_held_drew (S := fun w' => w'.rangeAt w.heap.size 0 (bvs (x.take 16)) ∧ w'.rangeAt w.heap.size 16 (bvs (x.drop 16))) (by kernel_rfl) ⟨R1.out, R2.out⟩ (fun _ => ?_)
  refine wpAnyH_take (i := 0) rfl (by kernel_rfl) (by kernel_rfl) (by kernel_rfl) (fun _ _ _ h => h) (.inl ⟨rfl, fun w' hw' => (by clear hw'; go_simp; rfl)⟩) ⟨R1.out, R2.out⟩ ?_
  simp only [List.getElem_toArray, List.getElem_cons_zero, List.getElem_cons_succ, Act.put, List.setIfInBounds_toArray, List.set_cons_succ, List.set_cons_zero]
  refine wpAnyH_take (i := 1) rfl (by kernel_rfl) (by kernel_rfl) (by kernel_rfl) (fun _ _ _ h => h) (.inl ⟨rfl, fun w' hw' => (by clear hw'; go_simp; rfl)⟩) ⟨R1.out, R2.out⟩ ?_
  simp only [List.getElem_toArray, List.getElem_cons_zero, List.getElem_cons_succ, Act.put, List.setIfInBounds_toArray, List.set_cons_succ, List.set_cons_zero]
  refine wpAnyH_take (i := 2) rfl (by kernel_rfl) (by kernel_rfl) (by kernel_rfl) (fun _ _ _ h => h) (yieldsIf_load_mid rfl 85 _ rfl w.heap.size 0 rfl (bvs (x.take 16)) _ (fun w' hw' => hw'.1) Tryd.underlying85 rfl (by rw [bvs_len, HT.out]; exact size_b16)) ⟨R1.out, R2.out⟩ ?_
  simp only [List.getElem_toArray, List.getElem_cons_zero, List.getElem_cons_succ, Act.put, List.setIfInBounds_toArray, List.set_cons_succ, List.set_cons_zero]
  refine wpAnyH_take (i := 3) rfl (by kernel_rfl) (by kernel_rfl) (by kernel_rfl) (fun _ _ _ h => h) (.inl ⟨rfl, fun w' hw' => (by clear hw'; go_simp; rfl)⟩) ⟨R1.out, R2.out⟩ ?_
  simp only [List.getElem_toArray, List.getElem_cons_zero, List.getElem_cons_succ, Act.put, List.setIfInBounds_toArray, List.set_cons_succ, List.set_cons_zero]
  refine wpAnyH_take (i := 4) rfl (by kernel_rfl) (by kernel_rfl) (by kernel_rfl) (fun _ _ _ h => h) (.inl ⟨rfl, fun w' hw' => (by clear hw'; go_simp; rfl)⟩) ⟨R1.out, R2.out⟩ ?_
  simp only [List.getElem_toArray, List.getElem_cons_zero, List.getElem_cons_succ, Act.put, List.setIfInBounds_toArray, List.set_cons_succ, List.set_cons_zero]
  refine wpAnyH_take (i := 5) rfl (by kernel_rfl) (by kernel_rfl) (by kernel_rfl) (fun _ _ _ h => h) (yieldsIf_load_mid rfl 85 _ rfl w.heap.size 16 rfl (bvs (x.drop 16)) _ (fun w' hw' => hw'.2) Tryd.underlying85 rfl (by rw [bvs_len, HD.out]; exact size_b16)) ⟨R1.out, R2.out⟩ ?_
  simp only [List.getElem_toArray, List.getElem_cons_zero, List.getElem_cons_succ, Act.put, List.setIfInBounds_toArray, List.set_cons_succ, List.set_cons_zero]
  have M2 := Lib.hid (L2.out.set_ (l' := bvs (x.take 16)) (by rw [bvs_len]; exact HT.out))
  have M3 := Lib.hid (L3.out.other (b' := w.heap.size + 1) (by omega) 0 (bvs (x.take 16)))
  have M1 := Lib.hid (L1.out.other (b' := w.heap.size + 1) (by omega) 0 (bvs (x.take 16)))
  have N2 := Lib.hid (M2.out.other (b' := w.heap.size + 1 + 1) (by omega) 0 (bvs (x.drop 16)))
  have N3 := Lib.hid (M3.out.set_ (l' := bvs (x.drop 16)) (by rw [bvs_len]; exact HD.out))
  have hk1 := (setCells_os (w.heap.size + 1) (bvs (x.take 16)) 0 w3.drew).2.2.2.2 w.heap.size (by omega)
  have S1 := Lib.hid (And.intro (rangeAt_keep R1.out hk1) (rangeAt_keep R2.out hk1))
  have hk2 := (setCells_os (w.heap.size + 1 + 1) (bvs (x.drop 16)) 0 (w3.drew.setCells (w.heap.size + 1) 0 (bvs (x.take 16)))).2.2.2.2 w.heap.size (by omega)
  have S2 := Lib.hid (And.intro (rangeAt_keep S1.out.1 hk2) (rangeAt_keep S1.out.2 hk2))
  refine wpAnyH_ready (rs := [6]) (by kernel_rfl) (by simp) (AllReadyH.cons rfl (fun K hK => ?_) AllReadyH.nil)
  rw [if_pos (by rfl)]
  refine wp_store_mid _ _ _ rfl (w.heap.size + 1) 0 (bvs (x.take 16)).toArray rfl rfl (by have e := bvs_len (x.take 16); rw [HT.out] at e; simpa [e] using L2.out.th) (by have e := bvs_len (x.take 16); rw [HT.out] at e; simpa [e] using size_b16) bvs_all ?_
  refine hK.out _ _ S1.out (fun _ => ?_)
  simp only [List.getElem_toArray, List.getElem_cons_zero, List.getElem_cons_succ, Act.put, List.setIfInBounds_toArray, List.set_cons_succ, List.set_cons_zero]
  refine wpAnyH_ready (rs := [7]) (by kernel_rfl) (by simp) (AllReadyH.cons rfl (fun K2 hK2 => ?_) AllReadyH.nil)
  rw [if_pos (by rfl)]
  refine wp_store_mid _ _ _ rfl (w.heap.size + 1 + 1) 0 (bvs (x.drop 16)).toArray rfl rfl (by have e := bvs_len (x.drop 16); rw [HD.out] at e; simpa [e] using M3.out.th) (by have e := bvs_len (x.drop 16); rw [HD.out] at e; simpa [e] using size_b16) bvs_all ?_
  refine hK2.out _ _ S2.out (fun _ => ?_)
  refine wpAnyH_done (by kernel_rfl) ?_ _
  refine NoPanic.normal ?_
  go_wp2
  refine bodyPost_ret (results_cc rfl _ _ (w.heap.size + 1) (w.heap.size + 1 + 1) (bvs (x.take 16)) (bvs (x.drop 16)) _ _ rfl N2.out.rg Tryd.underlying85 rfl (by rw [bvs_len, HT.out]; exact size_b16) rfl N3.out.rg Tryd.underlying85 rfl (by rw [bvs_len, HD.out]; exact size_b16)) rfl ⟨rfl, below_setCells (below_setCells B3.out (by omega) _ _) (by omega) _ _⟩

theorem run_equal_16 (a b : List UInt8) (ha : a.length = 16) (hb : b.length = 16) (w : World) : (Op.equal 85 (.agg (bvs a).toArray) (.agg (bvs b).toArray)).run Tryd.prog w = .ok (a == b) w :=
  run_equalIn_rows 9999 a b 16 _ Tryd.underlying85 ha hb (fun x y w => run_equalIn_int w 9998 _ _ _ x y Tryd.underlying5) w
theorem run_neq_16 (a b : List UInt8) (ha : a.length = 16) (hb : b.length = 16) (w : World) : (binOp .neq 85 (.agg (bvs a).toArray) (.agg (bvs b).toArray)).run Tryd.prog w = .ok (.bool (!(a == b))) w := by
  simp only [binOp, Sem.run_bind, run_equal_16 a b ha hb, Result.andThen_ok, Sem.run_pure]
theorem run_equal_32 (a b : List UInt8) (ha : a.length = 32) (hb : b.length = 32) (w : World) : (Op.equal 26 (.agg (bvs a).toArray) (.agg (bvs b).toArray)).run Tryd.prog w = .ok (a == b) w :=
  run_equalIn_rows 9999 a b 32 _ Tryd.underlying26 ha hb (fun x y w => run_equalIn_int w 9998 _ _ _ x y Tryd.underlying5) w
theorem run_eql_32 (a b : List UInt8) (ha : a.length = 32) (hb : b.length = 32) (w : World) : (binOp .eql 26 (.agg (bvs a).toArray) (.agg (bvs b).toArray)).run Tryd.prog w = .ok (.bool (a == b)) w := by
  simp only [binOp, Sem.run_bind, run_equal_32 a b ha hb, Result.andThen_ok, Sem.run_pure]
theorem run_neq_32 (a b : List UInt8) (ha : a.length = 32) (hb : b.length = 32) (w : World) : (binOp .neq 26 (.agg (bvs a).toArray) (.agg (bvs b).toArray)).run Tryd.prog w = .ok (.bool (!(a == b))) w := by
  simp only [binOp, Sem.run_bind, run_equal_32 a b ha hb, Result.andThen_ok, Sem.run_pure]
theorem Lies.slb16 {W : World} {b : Nat} {l : List UInt8} (h : Lies W b 16 (bvs l)) (k : Nat) (hl : l.length = 16) : SlB (W.drewN k) (W.drewN k).heap.size (some ⟨b, 0, none⟩) 16 16 l :=
  ⟨hl, Nat.le_refl _, by unfold maxLen; omega, fun e => (by cases e), fun _ => ⟨b, 0, rfl, (h.drewN k).lt, fun j hj => by
    rw [Nat.zero_add]
    exact (h.drewN k).cell (by simp [bvs, List.getElem?_eq_getElem hj])⟩⟩
/-- Is the first one the lesser? -/
def lessB (a b : List UInt8) : Bool := if a.take 16 = b.take 16 then decide (Lib.compareBytes (a.drop 16) (b.drop 16) < 0) else decide (Lib.compareBytes (a.take 16) (b.take 16) < 0)

set_option maxRecDepth 100000 in
set_option maxHeartbeats 1600000 in
theorem less_any (a b : List UInt8) (ha : a.length = 32) (hb : b.length = 32) (w : World) :
    Calls Tryd.prog 34 #[.agg (bvs a).toArray, .agg (bvs b).toArray] w fun e w' => e = .returned (.bool (lessB a b)) ∧ Below w.heap.size w w' := by
  have HA := Lib.hid ha
  have HB := Lib.hid hb
  have l1 : Lies (w.alloc (.cells (bvs a).toArray 26)) w.heap.size 32 (bvs a) := by
    have := Lies.new w (bvs a) 26
    rwa [bvs_len, ha] at this
  obtain ⟨w1, hw1⟩ : ∃ w1, w1 = w.alloc (.cells (bvs a).toArray 26) := ⟨_, rfl⟩
  have hb1 : Below w.heap.size w w1 := by rw [hw1]; exact (Below.refl _ _).alloc (Nat.le_refl _) _
  have hz1 : w1.heap.size = w.heap.size + 1 := by rw [hw1]; simp
  rw [← hw1] at l1
  have l2 : Lies (w1.alloc (.cells (bvs b).toArray 26)) w1.heap.size 32 (bvs b) := by
    have := Lies.new w1 (bvs b) 26
    rwa [bvs_len, hb] at this
  obtain ⟨w2, hw2⟩ : ∃ w2, w2 = w1.alloc (.cells (bvs b).toArray 26) := ⟨_, rfl⟩
  have hb2 : Below w.heap.size w w2 := by rw [hw2]; exact hb1.alloc hb1.size _
  rw [← hw2, hz1] at l2
  have L1 : Hid (Lies w2 w.heap.size 32 (bvs a)) := Lib.hid (by rw [hw2]; exact l1.alloc _)
  have L2 := Lib.hid l2
  have B2 := Lib.hid hb2
  have HW2 := Lib.hid (hw2.trans (by rw [hw1]))
  have HT := Lib.hid (show (a.take 16).length = 16 by rw [List.length_take, ha]; rfl)
  have HD := Lib.hid (show (a.drop 16).length = 16 by rw [List.length_drop, ha])
  have HT' := Lib.hid (show (b.take 16).length = 16 by rw [List.length_take, hb]; rfl)
  have HD' := Lib.hid (show (b.drop 16).length = 16 by rw [List.length_drop, hb])
  clear hw1 hw2 hb1 hb2 hz1 l1 l2 ha hb
  go_enter Tryd.func34, Tryd.ntmps34
  have LX := Lib.hid (show ((w.alloc (.cells (bvs a).toArray 26)).alloc (.cells (bvs b).toArray 26)).rangeAt w.heap.size 0 (bvs a) by rw [← HW2.out]; exact L1.out.rg)
  go_wp2_with (first
    | (with_reducible refine ld_id rfl (.tmp 2) rfl w.heap.size 0 a HA rfl LX.out ?_))
  rw [← HW2.out]
  refine (ends_any a HA.out _).mono ?_
  rintro e w3 ⟨rfl, hb3⟩
  have L3 := Lib.hid (L2.out.below hb3 L2.out.lt)
  have B3 := Lib.hid (B2.out.trans (hb3.mono B2.out.size))
  clear hb3
  have hz3 : ((w3.alloc (.cells (bvs Ze).toArray 85)).alloc (.cells (bvs Ze).toArray 85)).heap.size = w3.heap.size + 1 + 1 := by simp
  have E3a : Hid (Lies ((w3.alloc (.cells (bvs Ze).toArray 85)).alloc (.cells (bvs Ze).toArray 85)) w3.heap.size 16 (bvs Ze)) := Lib.hid ((Ze_new w3).alloc _)
  have E3b : Hid (Lies ((w3.alloc (.cells (bvs Ze).toArray 85)).alloc (.cells (bvs Ze).toArray 85)) (w3.heap.size + 1) 16 (bvs Ze)) := Lib.hid (by have := Ze_new (w3.alloc (.cells (bvs Ze).toArray 85)); rwa [World.size_alloc] at this)
  have BE3 := Lib.hid (show Below w3.heap.size w3 ((w3.alloc (.cells (bvs Ze).toArray 85)).alloc (.cells (bvs Ze).toArray 85)) from ((Below.refl _ _).alloc (Nat.le_refl _) _).alloc (by simp) _)
  clear hz3
  have F3a := Lib.hid (E3a.out.set_ (l' := bvs (a.take 16)) (by rw [bvs_len]; exact HT.out))
  have F3b := Lib.hid (E3b.out.other (b' := w3.heap.size) (by omega) 0 (bvs (a.take 16)))
  have G3a := Lib.hid (F3a.out.other (b' := w3.heap.size + 1) (by omega) 0 (bvs (a.drop 16)))
  have G3b := Lib.hid (F3b.out.set_ (l' := bvs (a.drop 16)) (by rw [bvs_len]; exact HD.out))
  have BG3 := Lib.hid (below_setCells (below_setCells BE3.out (Nat.le_refl _) 0 (bvs (a.take 16))) (show w3.heap.size ≤ w3.heap.size + 1 by omega) 0 (bvs (a.drop 16)))
  have K3 := Lib.hid (L3.out.below BG3.out L3.out.lt)
  go_wp2_with (first
    | ((with_reducible refine al_b16 rfl rfl ?_); (try simp only [Act.put, List.setIfInBounds_toArray, List.set_cons_succ, List.set_cons_zero, World.size_alloc]))
    | (with_reducible refine st_b16 rfl _ _ rfl w3.heap.size 0 (a.take 16) HT rfl rfl E3a.out.th ?_)
    | (with_reducible refine st_b16 rfl _ _ rfl (w3.heap.size + 1) 0 (a.drop 16) HD rfl rfl F3b.out.th ?_)
    | (with_reducible refine ld_id rfl (.tmp 3) rfl (w.heap.size + 1) 0 b HB rfl K3.out.rg ?_))
  generalize (((w3.alloc (.cells (bvs Ze).toArray 85)).alloc (.cells (bvs Ze).toArray 85)).setCells w3.heap.size 0 (bvs (a.take 16))).setCells (w3.heap.size + 1) 0 (bvs (a.drop 16)) = w4 at G3a G3b BG3 K3 ⊢
  refine (ends_any b HB.out _).mono ?_
  rintro e w5 ⟨rfl, hb5⟩
  have B5 := Lib.hid ((B3.out.trans (BG3.out.mono B3.out.size)).trans (hb5.mono (Nat.le_trans B3.out.size BG3.out.size)))
  have P5a := Lib.hid (G3a.out.below hb5 G3a.out.lt)
  have P5b := Lib.hid (G3b.out.below hb5 G3b.out.lt)
  clear hb5
  obtain ⟨sm, hsm⟩ : ∃ sm, (a.take 16 == b.take 16) = sm := ⟨_, rfl⟩
  have hne16 : ∀ w : World, (binOp .neq 85 (.agg (bvs (a.take 16)).toArray) (.agg (bvs (b.take 16)).toArray)).run Tryd.prog w = .ok (.bool (!sm)) w := fun w => by rw [← hsm]; exact run_neq_16 (a.take 16) (b.take 16) HT.out HT'.out w
  have HSM := Lib.hid hsm
  clear hsm
  have hz5 : ((w5.alloc (.cells (bvs Ze).toArray 85)).alloc (.cells (bvs Ze).toArray 85)).heap.size = w5.heap.size + 1 + 1 := by simp
  have E5a : Hid (Lies ((w5.alloc (.cells (bvs Ze).toArray 85)).alloc (.cells (bvs Ze).toArray 85)) w5.heap.size 16 (bvs Ze)) := Lib.hid ((Ze_new w5).alloc _)
  have E5b : Hid (Lies ((w5.alloc (.cells (bvs Ze).toArray 85)).alloc (.cells (bvs Ze).toArray 85)) (w5.heap.size + 1) 16 (bvs Ze)) := Lib.hid (by have := Ze_new (w5.alloc (.cells (bvs Ze).toArray 85)); rwa [World.size_alloc] at this)
  have BE5 := Lib.hid (show Below w5.heap.size w5 ((w5.alloc (.cells (bvs Ze).toArray 85)).alloc (.cells (bvs Ze).toArray 85)) from ((Below.refl _ _).alloc (Nat.le_refl _) _).alloc (by simp) _)
  clear hz5
  have F5a := Lib.hid (E5a.out.set_ (l' := bvs (b.take 16)) (by rw [bvs_len]; exact HT'.out))
  have F5b := Lib.hid (E5b.out.other (b' := w5.heap.size) (by omega) 0 (bvs (b.take 16)))
  have G5a := Lib.hid (F5a.out.other (b' := w5.heap.size + 1) (by omega) 0 (bvs (b.drop 16)))
  have G5b := Lib.hid (F5b.out.set_ (l' := bvs (b.drop 16)) (by rw [bvs_len]; exact HD'.out))
  have BG5 := Lib.hid (below_setCells (below_setCells BE5.out (Nat.le_refl _) 0 (bvs (b.take 16))) (show w5.heap.size ≤ w5.heap.size + 1 by omega) 0 (bvs (b.drop 16)))
  have Q5a := Lib.hid (P5a.out.below BG5.out P5a.out.lt)
  have Q5b := Lib.hid (P5b.out.below BG5.out P5b.out.lt)
  cases sm
  · have hne := beq_eq_false_iff_ne.1 HSM.out
    go_wp2_with (first
      | ((with_reducible refine al_b16 rfl rfl ?_); (try simp only [Act.put, List.setIfInBounds_toArray, List.set_cons_succ, List.set_cons_zero, World.size_alloc]))
      | (with_reducible refine st_b16 rfl _ _ rfl w5.heap.size 0 (b.take 16) HT' rfl rfl E5a.out.th ?_)
      | (with_reducible refine st_b16 rfl _ _ rfl (w5.heap.size + 1) 0 (b.drop 16) HD' rfl rfl F5b.out.th ?_)
      | (with_reducible refine ld_b16 rfl (.tmp 5) rfl w3.heap.size 0 (a.take 16) HT rfl Q5a.out.rg ?_)
      | (with_reducible refine ld_b16 rfl (.tmp 7) rfl w5.heap.size 0 (b.take 16) HT' rfl G5a.out.rg ?_))
    generalize (((w5.alloc (.cells (bvs Ze).toArray 85)).alloc (.cells (bvs Ze).toArray 85)).setCells w5.heap.size 0 (bvs (b.take 16))).setCells (w5.heap.size + 1) 0 (bvs (b.drop 16)) = w6 at Q5a Q5b G5a G5b BG5 ⊢
    have C1 := Lib.hid (fun k => quiet_eq (n := k) (compare_any (Q5a.out.slb16 k HT.out) (G5a.out.slb16 k HT'.out)))
    go_quiet ((go_at_call 54; with_reducible exact C1.out _))
    go_wp2
    go_ret
    refine ⟨?_, below_drewN (B5.out.trans (BG5.out.mono B5.out.size)) _⟩
    unfold lessB
    rw [if_neg hne]
    rfl
  · have HEQ := Lib.hid (eq_of_beq HSM.out)
    go_wp2_with (first
      | ((with_reducible refine al_b16 rfl rfl ?_); (try simp only [Act.put, List.setIfInBounds_toArray, List.set_cons_succ, List.set_cons_zero, World.size_alloc]))
      | (with_reducible refine st_b16 rfl _ _ rfl w5.heap.size 0 (b.take 16) HT' rfl rfl E5a.out.th ?_)
      | (with_reducible refine st_b16 rfl _ _ rfl (w5.heap.size + 1) 0 (b.drop 16) HD' rfl rfl F5b.out.th ?_)
      | (with_reducible refine ld_b16 rfl (.tmp 5) rfl w3.heap.size 0 (a.take 16) HT rfl Q5a.out.rg ?_)
      | (with_reducible refine ld_b16 rfl (.tmp 7) rfl w5.heap.size 0 (b.take 16) HT' rfl G5a.out.rg ?_))
    generalize (((w5.alloc (.cells (bvs Ze).toArray 85)).alloc (.cells (bvs Ze).toArray 85)).setCells w5.heap.size 0 (bvs (b.take 16))).setCells (w5.heap.size + 1) 0 (bvs (b.drop 16)) = w6 at Q5a Q5b G5a G5b BG5 ⊢
    have C1 := Lib.hid (fun k => quiet_eq (n := k) (compare_any (Q5b.out.slb16 k HD.out) (G5b.out.slb16 k HD'.out)))
    go_quiet ((go_at_call 54; with_reducible exact C1.out _))
    go_wp2
    go_ret
    refine ⟨?_, below_drewN (B5.out.trans (BG5.out.mono B5.out.size)) _⟩
    unfold lessB
    rw [if_pos HEQ.out]
    rfl
end Go.Proofs.YtgjkahoblopddaaDoor
