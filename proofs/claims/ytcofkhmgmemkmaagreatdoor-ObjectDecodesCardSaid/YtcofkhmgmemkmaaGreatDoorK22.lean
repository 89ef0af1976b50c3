/-
  OBJECTS: held, Id.
  OBJECTS: found, Id.
-/
import Derived.Test.YtcofkhmgmemkmaaGreatDoorK21
import Derived.Laws.ResultCell
namespace Go.Proofs.YtcofkhmgmemkmaaGreatDoor
set_option linter.unusedVariables false
set_option linter.unusedSimpArgs false
open Go.RowKit Go.WideShapes Go.ChangeShapes Go.Deep Go.Shelf
attribute [local irreducible] wpQuiet

theorem wp_fn {P : Program} {o : Oper} {a : Act} {w : World} {K : Act → World → Prop} {Q : Exit → Act → World → Prop} {f : FuncId} {xs : Array Value} (hr : (execOp a.eval o).run P w = .ok (.enter f xs) w)
    (h : Calls P f xs w fun e w' => ∃ v, e = .returned v ∧ K (a.put o.dst v) w') : o.wp P a w K Q := by
  unfold Oper.wp
  rw [hr, Oper.upon_enter]
  refine h.mono ?_
  rintro e w' ⟨v, rfl, hk⟩
  exact hk
theorem flat_le {α : Type} {f : α → List UInt8} {K : Nat} : ∀ {l : List α}, (∀ x ∈ l, (f x).length ≤ K) → (l.flatMap f).length ≤ l.length * K
  | [], _ => by simp
  | x :: r, h => by
    have h1 := h x (by simp)
    have h2 := flat_le (l := r) (K := K) fun y hy => h y (by simp [hy])
    rw [List.flatMap_cons, List.length_append, List.length_cons, Nat.succ_mul]
    omega
theorem lay_len {x : Ov} (h : layW x) : (bytesW x).length ≤ 100000 := by
  unfold bytesW
  rw [List.length_append]
  rcases h with ⟨K1, h⟩ | ⟨K2, h1, h2⟩ | ⟨K3, h⟩
  · rw [if_pos K1, List.length_append, S3.be_len, strB_len]
    simp only [List.length_cons, List.length_nil]
    omega
  · rw [if_neg (by omega), if_pos K2]
    have := flat_le (f := leafB) (K := 100) (l := x.lv) fun l hl => by
      have := h2 l hl
      unfold leafB
      simp only [List.length_append, strB_len, l.id.h, List.length_cons, List.length_nil]
      omega
    simp only [List.length_append, List.length_cons, List.length_nil]
    omega
  · rw [if_neg (by omega), if_neg (by omega)]
    obtain ⟨h1, h2, h3, h4, h5⟩ := com_ok (P := ⟨none, x.ps.length, 0⟩) (E := ⟨none, x.es.length, 0⟩) h rfl rfl
    have e1 := flat_le (f := Idv.b) (K := 32) (l := x.ps) fun i _ => by rw [i.h]; exact Nat.le_refl _
    have e2 := flat_le (f := chB) (K := 400) (l := x.es) fun c hc => by
      have := h4 c hc
      unfold chB
      simp only [List.length_append, strB_len, S3.be_len, List.length_cons, List.length_nil]
      omega
    have h2' : x.ps.length ≤ 2 := h2
    have h3' : x.es.length ≤ 32 := h3
    unfold comB
    simp only [List.length_append, strB_len, S3.be_len, List.length_cons, List.length_nil, x.tree.h, x.base.h]
    omega
/-- An object's Id. -/
def idW (x : Ov) : Idv := ⟨S3.sumW (bytesW x), S3.sumW_len _⟩
theorem yieldsIf_build {P : Program} {ops : Array Oper} {S : World → Prop} {op : Oper} {a : Act} (hw : Region.wanted op (yielded ops a.tmps) = true) (t : TypeId) (ps : List (Nat × Operand)) (ho : op.op = .build t ps.toArray) (zs : Array Value) (hb : P.built t (ps.map fun ix => (ix.1, a.eval ix.2)) = some zs) : YieldsIf P ops S op (.agg zs) a :=
  .inl ⟨hw, fun w _ => by
    have e : (ps.toArray.map fun (i, x) => (i, a.eval x)) = (ps.map fun ix => (ix.1, a.eval ix.2)).toArray := by simp
    unfold execOp
    simp only [ho, e]
    rw [Sem.run_bind, run_build w t _ zs (by simpa using hb)]
    rfl⟩
set_option maxRecDepth 100000 in
set_option maxHeartbeats 4000000 in
theorem held_any {w : World} {x : Ov} {L P E : Sl} (h : Obj3 w w.heap.size x L P E) (hs : layW x) (hg : S3.GK w) :
    Calls Tryz.prog 54 #[ofV (x.at_ L P E)] w fun e w' => e = .returned (.agg (hdC (idW x) (x.at_ L P E)).toArray) ∧ Below w.heap.size w w' := by
  obtain ⟨ox, w1, hb⟩ := Bxo.mk_ w x L P E
  have HB := Lib.hid hb
  rw [hb.eq]
  have OX : Hid (ox.lv.oneCell' = true ∧ ox.pv.oneCell' = true ∧ ox.ev.oneCell' = true) := Lib.hid (by rw [← hb.eq]; exact ⟨rfl, rfl, rfl⟩)
  obtain ⟨w2, hw2⟩ : ∃ w2, w1.alloc (.cells (hdC Idv.zero zOf).toArray 54) = w2 := ⟨_, rfl⟩
  have B2 : Hid (Below w.heap.size w w2) := Lib.hid (by rw [← hw2]; exact hb.bl.alloc hb.bl.size _)
  have B12 : Below w1.heap.size w1 w2 := by rw [← hw2]; exact (Below.refl _ _).alloc (Nat.le_refl _) _
  have Z1 := hb.sz
  have Z2 : Hid (w2.heap.size = w.heap.size + 2) := Lib.hid (by rw [← hw2]; simp; omega)
  have N2 : Hid (Lies w2 (w.heap.size + 1) 105 (hdC Idv.zero zOf)) := Lib.hid (by
    rw [← hw2, ← Z1]
    have := Lies.new w1 (hdC Idv.zero zOf) 54
    rwa [hd_sz] at this)
  have RG : Hid (∀ W, Below w2.heap.size w2 W → W.rangeAt w.heap.size 0 ox.cells) := Lib.hid fun W hW => hb.rg (B12.trans (hW.mono B12.size))
  have C1 : Hid (Calls Tryz.prog 23 #[ofV ox] w2.drew (Laid w2.drew x)) := Lib.hid (by
    rw [← hb.eq]
    exact laid_lay ((h.below B2.out.drew).more B2.out.size) hs)
  have HG2 : Hid (S3.GK w2.drew) := Lib.hid (hg.below B2.out.drew)
  have HN := Lib.hid (lay_len hs)
  obtain ⟨ix, hix⟩ : ∃ i, idW x = i := ⟨_, rfl⟩
  have HIX : Hid (S3.sumW (bytesW x) = ix.b) := Lib.hid (by rw [← hix]; rfl)
  rw [hix]
  have BD := Lib.hid (built_hd ix ox)
  have HZ1 := Lib.hid Z1
  have HW2 := Lib.hid hw2
  clear hb hw2 B12 Z1 hix h hs hg
  go_enter Tryz.func54, Tryz.ntmps54
  have hz1 := HZ1.out
  go_upto_region 1 with (first
    | ((with_reducible refine alt 54 ?_ ?_ (hdC Idv.zero zOf) zero_hd ?_); rfl; rfl; rw [HB.out.al, HW2.out]; (try simp only [Act.put, List.setIfInBounds_toArray, List.set_cons_succ, List.set_cons_zero, hz1]))
    | fail)
  trace_state
  refine wp_region_noPanic ?_
  refine wp_region_held_drew (S := (fun w' => w'.rangeAt w.heap.size 0 ox.cells)) (by kernel_rfl) (RG.out w2.drew (Below.refl _ _).drew) (fun _ => ?_)
  refine wpAnyH_take (i := 0) rfl (by kernel_rfl) (by kernel_rfl) (by kernel_rfl) (fun _ _ _ h => h) (yieldsIf_load_mid rfl 34 _ rfl (w.heap.size) (0) rfl (ox.cells) _ (fun w' hw' => hw') Tryz.underlying34 rfl (by rw [of_sz]; exact size_of)) (RG.out w2.drew (Below.refl _ _).drew) ?_
  simp only [List.getElem_toArray, List.getElem_cons_zero, List.getElem_cons_succ, Act.put, List.setIfInBounds_toArray, List.set_cons_succ, List.set_cons_zero]
  refine wpAnyH_take (i := 3) rfl (by kernel_rfl) (by kernel_rfl) (by kernel_rfl) (fun _ _ _ h => h) (yieldsIf_load_mid rfl 34 _ rfl (w.heap.size) (0) rfl (ox.cells) _ (fun w' hw' => hw') Tryz.underlying34 rfl (by rw [of_sz]; exact size_of)) (RG.out w2.drew (Below.refl _ _).drew) ?_
  simp only [List.getElem_toArray, List.getElem_cons_zero, List.getElem_cons_succ, Act.put, List.setIfInBounds_toArray, List.set_cons_succ, List.set_cons_zero]
  refine wpAnyH_ready (rs := [1]) (by kernel_rfl) (by simp) (AllReadyH.cons rfl (fun K hK => ?_) AllReadyH.nil)
  rw [if_pos (by rfl)]
  refine wp_fn (f := 23) (xs := #[ofV ox]) (by first | (go_simp; done) | (go_simp; rfl)) ((C1.out).mono ?_)
  rintro e w3 ⟨A, n, c, rfl, own, hb3⟩
  have Y3 : Hid (Below w2.heap.size w2 w3) := Lib.hid (Below.trans (Below.refl w2.heap.size w2).drew hb3)
  have HO := Lib.hid own
  have HG3 := Lib.hid (HG2.out.below hb3)
  have hn : n ≤ 100000 := by have := own.sl.len; have := HN.out; omega
  have C2 : Hid (Calls Tryz.prog 74 #[.slice A n c] w3 fun e w' => e = .returned (idV ix) ∧ Below w3.heap.size w3 w') := Lib.hid (by have := S3.sum_any HO.out.sl (Nat.le_refl _) (by omega) HG3.out; rw [HIX.out] at this; exact this)
  clear own hb3
  refine ⟨_, rfl, hK.out _ _ (RG.out w3 Y3.out) (fun _ => ?_)⟩
  simp only [List.getElem_toArray, List.getElem_cons_zero, List.getElem_cons_succ, Act.put, List.setIfInBounds_toArray, List.set_cons_succ, List.set_cons_zero]
  refine wpAnyH_ready (rs := [2]) (by kernel_rfl) (by simp) (AllReadyH.cons rfl (fun K hK => ?_) AllReadyH.nil)
  rw [if_pos (by rfl)]
  refine wp_fn (f := 74) (xs := #[.slice A n c]) (by first | (go_simp; done) | (go_simp; rfl)) ((C2.out).mono ?_)
  rintro e w4 ⟨rfl, hb4⟩
  have Y4 : Hid (Below w2.heap.size w2 w4) := Lib.hid (Y3.out.trans (hb4.mono Y3.out.size))
  clear hb4
  refine ⟨_, rfl, hK.out _ _ (RG.out w4 Y4.out) (fun _ => ?_)⟩
  simp only [List.getElem_toArray, List.getElem_cons_zero, List.getElem_cons_succ, Act.put, List.setIfInBounds_toArray, List.set_cons_succ, List.set_cons_zero]
  refine wpAnyH_take (i := 4) rfl (by kernel_rfl) (by kernel_rfl) (by kernel_rfl) (fun _ _ _ h => h) (yieldsIf_build rfl 54 [(0, .tmp 5), (1, .tmp 6)] rfl (hdC ix ox).toArray BD.out) (RG.out w4 Y4.out) ?_
  simp only [List.getElem_toArray, List.getElem_cons_zero, List.getElem_cons_succ, Act.put, List.setIfInBounds_toArray, List.set_cons_succ, List.set_cons_zero]
  refine wpAnyH_ready (rs := [5]) (by kernel_rfl) (by simp) (AllReadyH.cons rfl (fun K hK => ?_) AllReadyH.nil)
  rw [if_pos (by rfl)]
  obtain ⟨w5, hw5⟩ : ∃ w5, w4.setCells (w.heap.size + 1) 0 (hdC ix ox) = w5 := ⟨_, rfl⟩
  have N4 := Lib.hid (N2.out.below Y4.out (by rw [Z2.out]; omega))
  have N5 : Hid (Lies w5 (w.heap.size + 1) 105 (hdC ix ox)) := Lib.hid (by rw [← hw5]; exact N4.out.set_ (hd_sz _ _))
  have R5 : Hid (w5.rangeAt w.heap.size 0 ox.cells) := Lib.hid (by rw [← hw5]; exact rangeAt_keep (RG.out w4 Y4.out) ((setCells_os (w.heap.size + 1) (hdC ix ox) 0 w4).2.2.2.2 _ (by omega)))
  have B5 : Hid (Below w.heap.size w w5) := Lib.hid (by rw [← hw5]; exact below_setCells (B2.out.trans (Y4.out.mono B2.out.size)) (by omega) _ _)
  have HW5 := Lib.hid hw5
  clear hw5
  refine wp_store_mid 54 (.tmp 2) (.tmp 7) rfl (w.heap.size + 1) 0 (hdC ix ox).toArray rfl rfl (by have := N4.out.th; simpa [hd_sz] using this) (by simpa [hd_sz] using size_hd) (hd_one OX.out.1 OX.out.2.1 OX.out.2.2) ?_
  rw [show (hdC ix ox).toArray.toList = hdC ix ox from rfl, HW5.out]
  refine hK.out _ _ R5.out (fun _ => ?_)
  simp only [List.getElem_toArray, List.getElem_cons_zero, List.getElem_cons_succ, Act.put, List.setIfInBounds_toArray, List.set_cons_succ, List.set_cons_zero]
  refine wpAnyH_done (by kernel_rfl) ?_ _
  refine NoPanic.normal ?_
  go_wp2_with fail
  refine bodyPost_ret (results_cell_mid rfl _ _ (w.heap.size + 1) 0 (hdC ix ox) _ rfl N5.out.rg Tryz.underlying54 rfl (by rw [hd_sz]; exact size_hd)) rfl ⟨rfl, B5.out⟩
theorem res_idi {fn : Func} {p u : Tmp} (h : fn.results = #[.cell p 27, .tmp u]) (tmps : Array Value) (w : World) (b o : Nat) (i : Idv) (v : Value) (hp : tmps.getD p undef = .pointer (some ⟨b, o, none⟩)) (hu : tmps.getD u undef = v) (hc : w.rangeAt b o i.cells) :
    (results fn tmps).run Tryz.prog w = .ok (.tuple #[idV i, v]) w := by
  rw [results_cell_tmp h, hp, hu]
  simp [asAddr, Result.andThen, run_loadVar_mid w b o 27 i.cells _ hc Tryz.underlying27 rfl (by rw [id_sz]; exact size_idv)]
  rfl
theorem res_obi {fn : Func} {p u : Tmp} (h : fn.results = #[.cell p 34, .tmp u]) (tmps : Array Value) (w : World) (b o : Nat) (i : Of) (v : Value) (hp : tmps.getD p undef = .pointer (some ⟨b, o, none⟩)) (hu : tmps.getD u undef = v) (hc : w.rangeAt b o i.cells) :
    (results fn tmps).run Tryz.prog w = .ok (.tuple #[ofV i, v]) w := by
  rw [results_cell_tmp h, hp, hu]
  simp [asAddr, Result.andThen, run_loadVar_mid w b o 34 i.cells _ hc Tryz.underlying34 rfl (by rw [of_sz]; exact size_of)]
end Go.Proofs.YtcofkhmgmemkmaaGreatDoor
namespace Go.Proofs.YtcofkhmgmemkmaaGreatDoor
set_option linter.unusedVariables false
set_option linter.unusedSimpArgs false
open Go.RowKit Go.WideShapes Go.ChangeShapes Go.Deep Go.Shelf
attribute [local irreducible] wpQuiet

/-- An object in memory, with its Id. -/
structure Hd where
  i : Idv
  o : Of
  ok : o.lv.oneCell' = true ∧ o.pv.oneCell' = true ∧ o.ev.oneCell' = true
def Hd.cells (h : Hd) : List Value := hdC h.i h.o
theorem hdl_sz (h : Hd) : h.cells.length = 105 := hd_sz _ _
abbrev SqH := Sq Hd.cells 105
/-- The first one with an Id. -/
def findH (l : List Hd) (x : Idv) : Option Hd := l.find? fun h => h.i.b == x.b
theorem findH_none {l : List Hd} {x : Idv} (h : ∀ j (hj : j < l.length), (l[j].i.b == x.b) = false) : findH l x = none := by
  unfold findH
  rw [List.find?_eq_none]
  intro y hy
  obtain ⟨j, hj, rfl⟩ := List.getElem_of_mem hy
  rw [h j hj]
  simp
theorem findH_some {l : List Hd} {x : Idv} {k : Nat} (hk : k < l.length) (h : ∀ j (hj : j < k) (hj' : j < l.length), (l[j].i.b == x.b) = false) (hx : (l[k].i.b == x.b) = true) : findH l x = some l[k] := by
  unfold findH
  rw [List.find?_eq_some_iff_getElem]
  exact ⟨hx, k, hk, rfl, fun j hj => by rw [h j hj (by omega)]; rfl⟩
def foundV : Option Hd → Value
  | some h => .tuple #[ofV h.o, .bool true]
  | none => .tuple #[ofV zOf, .bool false]
theorem built_obz : Tryz.prog.built 34 [] = some zOf.cells.toArray := by kernel_rfl
theorem zOf_one : zOf.lv.oneCell' = true ∧ zOf.pv.oneCell' = true ∧ zOf.ev.oneCell' = true := ⟨rfl, rfl, rfl⟩
set_option maxRecDepth 100000 in
set_option maxHeartbeats 4000000 in
theorem found_any {w : World} {A : Option Addr} {n c : Nat} {l : List Hd} (h : SqH w w.heap.size A n c l) (x : Idv) (hn : n ≤ 100000) :
    Calls Tryz.prog 51 #[.slice A n c, idV x] w fun e w' => e = .returned (foundV (findH l x)) ∧ Below w.heap.size w w' := by
  obtain ⟨w1, hw1⟩ : ∃ w1, w.alloc (.cells x.cells.toArray 27) = w1 := ⟨_, rfl⟩
  have Z1 : w1.heap.size = w.heap.size + 1 := by rw [← hw1]; simp
  obtain ⟨zz, hzz⟩ : ∃ o, zOf = o := ⟨_, rfl⟩
  have ZO : Hid (∀ w : World, (zeroValue 34).run Tryz.prog w = .ok (.agg zz.cells.toArray) w) := Lib.hid (by rw [← hzz]; exact zero_of)
  have BZ : Hid (Tryz.prog.built 34 [] = some zz.cells.toArray) := Lib.hid (by rw [← hzz]; exact built_obz)
  have Z1C : Hid (zz.lv.oneCell' = true ∧ zz.pv.oneCell' = true ∧ zz.ev.oneCell' = true) := Lib.hid (by rw [← hzz]; exact zOf_one)
  have HZZ := Lib.hid hzz
  obtain ⟨w2, hw2⟩ : ∃ w2, w1.alloc (.cells zz.cells.toArray 34) = w2 := ⟨_, rfl⟩
  have B2 : Hid (Below w.heap.size w w2) := Lib.hid (by rw [← hw2, ← hw1]; exact ((Below.refl _ _).alloc (Nat.le_refl _) _).alloc (by simp) _)
  have Z2 : Hid (w2.heap.size = w.heap.size + 2) := Lib.hid (by rw [← hw2]; simp; omega)
  have X2 : Hid (Lies w2 w.heap.size 32 x.cells) := Lib.hid (by
    rw [← hw2, ← hw1]
    have := (Lies.new w x.cells 27).alloc (.cells zz.cells.toArray 34)
    rwa [id_sz] at this)
  have N2 : Hid (Lies w2 (w.heap.size + 1) 73 zz.cells) := Lib.hid (by
    rw [← hw2, ← Z1]
    have := Lies.new w1 zz.cells 34
    rwa [of_sz] at this)
  have HW1 := Lib.hid hw1
  have HW2 := Lib.hid hw2
  have HZ1 := Lib.hid Z1
  have HS := Lib.hid h
  have hl := Lib.hid h.len
  clear h hw1 hw2 Z1 hzz
  obtain ⟨fv, hfv⟩ : ∃ v, foundV (findH l x) = v := ⟨_, rfl⟩
  have HFV := Lib.hid hfv
  rw [hfv]
  clear hfv
  go_enter Tryz.func51, Tryz.ntmps51
  have hz1 := HZ1.out
  go_upto_region 1 with (first
    | ((with_reducible refine alt 34 ?_ ?_ zz.cells ZO.out ?_); rfl; rfl; rw [show w.alloc (.cells (S3.bvs x.b).toArray 27) = w1 from HW1.out, HW2.out]; (try simp only [Act.put, List.setIfInBounds_toArray, List.set_cons_succ, List.set_cons_zero, hz1]))
    | fail)
  go_wp2_with fail
  go_loopw [10] (fun i wr => ∃ k : Nat, k ≤ n ∧ i = .int .i64 (k : Int) ∧ Hid (∀ j (hk : j < k) (hj : j < l.length), (l[j].i.b == x.b) = false) ∧ Hid (Below w2.heap.size w2 wr)) (fun i _ => n - (intOf i).toNat)
  case atStart => exact ⟨0, Nat.zero_le _, rfl, Lib.hid (fun j hj => absurd hj (by omega)), Lib.hid (Below.refl _ _)⟩
  case round =>
    obtain ⟨k, hk, rfl, hg, hb2⟩ := hrel
    have hb : Hid (Below w.heap.size w wr) := Lib.hid (B2.out.trans (hb2.out.mono B2.out.size))
    by_cases hlt : k < n
    · have hd : decide ((k : Int) < (n : Int)) = true := by simp; omega
      have hk0 : (0 : Int) ≤ (k : Int) := Int.natCast_nonneg _
      have hk1 : (k : Int) < (n : Int) := by omega
      obtain ⟨b, o, rfl, hbl, hrg⟩ := (HS.out.below hb.out).at_ hlt
      have hkl : k < l.length := by rw [hl.out]; exact hlt
      obtain ⟨r, hr⟩ : ∃ r, l[k] = r := ⟨_, rfl⟩
      rw [hr] at hrg
      obtain ⟨wA, hwA⟩ : ∃ wA, wr.alloc (.cells (hdC Idv.zero zOf).toArray 54) = wA := ⟨_, rfl⟩
      have YA : Lies wA wr.heap.size 105 (hdC Idv.zero zOf) := by
        rw [← hwA]
        have := Lies.new wr (hdC Idv.zero zOf) 54
        rwa [hd_sz] at this
      obtain ⟨w5, hw5⟩ : ∃ w5, wA.setCells wr.heap.size 0 (hdC r.i r.o) = w5 := ⟨_, rfl⟩
      have Y5 : Hid (Lies w5 wr.heap.size 105 (hdC r.i r.o)) := Lib.hid (by rw [← hw5]; exact YA.set_ (hd_sz _ _))
      have C5 : Below wr.heap.size wr w5 := by rw [← hw5, ← hwA]; exact below_setCells ((Below.refl _ _).alloc (Nat.le_refl _) _) (Nat.le_refl _) _ _
      have hs5 := hb2.out.size
      have B5 : Hid (Below w2.heap.size w2 w5) := Lib.hid (hb2.out.trans (C5.mono hs5))
      have HWA := Lib.hid hwA
      have HW5 := Lib.hid hw5
      have TA := Lib.hid YA.th
      have HRG : Hid (wr.rangeAt b (o + k * 105) (hdC r.i r.o)) := Lib.hid hrg
      have P5 := Lib.hid (hd_rg.1 Y5.out.rg)
      have X5 := Lib.hid (X2.out.below B5.out (by rw [Z2.out]; omega)).rg
      have ROK := Lib.hid r.ok
      have hne : ∀ w, (Op.equalIn 10000 27 (.agg (S3.bvs r.i.b).toArray) (.agg (S3.bvs x.b).toArray)).run Tryz.prog w = .ok (r.i.b == x.b) w := fun w => eq_id r.i x w
      obtain ⟨q, hq⟩ : ∃ q, (r.i.b == x.b) = q := ⟨_, rfl⟩
      rw [hq] at hne
      have YES : Hid (q = false → ∀ j (hk : j < k + 1) (hj : j < l.length), (l[j].i.b == x.b) = false) := Lib.hid (fun h1 j hjk hj => by
        by_cases e : j = k
        · subst e; rw [hr, hq]; exact h1
        · exact hg.out j (by omega) hj)
      have NO : Hid (q = true → fv = .tuple #[ofV r.o, .bool true]) := Lib.hid (fun h1 => by
        rw [← HFV.out, findH_some hkl (fun j hj hj' => hg.out j hj hj') (by rw [hr, hq]; exact h1), hr]
        rfl)
      clear hr hq hrg hwA hw5 YA C5 hs5
      go_upto_region 4 with (first
        | ((with_reducible refine ldh (.tmp 12) ?_ ?_ b (o + k * 105) r.i r.o ?_ HRG.out ?_); rfl; rfl; (first | rfl | go_simp))
        | ((with_reducible refine alt 54 ?_ ?_ (hdC Idv.zero zOf) zero_hd ?_); rfl; rfl; rw [HWA.out]; (try simp only [Act.put, List.setIfInBounds_toArray, List.set_cons_succ, List.set_cons_zero]))
        | ((with_reducible refine sth (.tmp 7) (.tmp 13) ?_ ?_ wr.heap.size 0 r.i r.o ?_ ?_ TA.out ROK.out.1 ROK.out.2.1 ROK.out.2.2 ?_); rfl; rfl; rfl; rfl; rw [HW5.out])
        | fail)
      cases q
      · go_wp2_with (first
          | ((with_reducible refine ldi (.tmp 14) ?_ ?_ wr.heap.size 0 r.i ?_ P5.out.1 ?_); rfl; rfl; rfl)
          | ((with_reducible refine ldi (.tmp 3) ?_ ?_ w.heap.size 0 x ?_ X5.out ?_); rfl; rfl; rfl)
          | fail)
        go_roundw
        case rel => exact ⟨k + 1, by omega, by go_num, Lib.hid (YES.out rfl), B5⟩
        case measure => simp [intOf]; omega
      · have e := NO.out rfl
        subst e
        have N5 := Lib.hid (N2.out.below B5.out (by rw [Z2.out]; omega))
        have T5 := Lib.hid N5.out.th
        obtain ⟨w6, hw6⟩ : ∃ w6, w5.setCells (w.heap.size + 1) 0 r.o.cells = w6 := ⟨_, rfl⟩
        have N6 : Hid (Lies w6 (w.heap.size + 1) 73 r.o.cells) := Lib.hid (by rw [← hw6]; exact N5.out.set_ (of_sz _))
        have B6 : Hid (Below w.heap.size w w6) := Lib.hid (by rw [← hw6]; exact below_setCells (B2.out.trans (B5.out.mono B2.out.size)) (by omega) _ _)
        have HW6 := Lib.hid hw6
        clear hw6
        go_wp2_with (first
          | ((with_reducible refine ldi (.tmp 14) ?_ ?_ wr.heap.size 0 r.i ?_ P5.out.1 ?_); rfl; rfl; rfl)
          | ((with_reducible refine ldi (.tmp 3) ?_ ?_ w.heap.size 0 x ?_ X5.out ?_); rfl; rfl; rfl)
          | ((with_reducible refine ldo (.tmp 18) ?_ ?_ wr.heap.size 32 r.o ?_ P5.out.2 ?_); rfl; rfl; (first | rfl | go_simp))
          | ((with_reducible refine sto (.tmp 4) (.tmp 19) ?_ ?_ (w.heap.size + 1) 0 r.o ?_ ?_ T5.out ROK.out.1 ROK.out.2.1 ROK.out.2.2 ?_); rfl; rfl; rfl; rfl; rw [HW6.out])
          | fail)
        refine bodyPost_ret (res_obi rfl _ _ (w.heap.size + 1) 0 r.o _ rfl rfl N6.out.rg) rfl ⟨rfl, B6.out⟩
    · have hd : decide ((k : Int) < (n : Int)) = false := by simp; omega
      obtain rfl : k = n := by omega
      have N5 := Lib.hid (N2.out.below hb2.out (by rw [Z2.out]; omega))
      have T5 := Lib.hid N5.out.th
      obtain ⟨w6, hw6⟩ : ∃ w6, wr.setCells (w.heap.size + 1) 0 zz.cells = w6 := ⟨_, rfl⟩
      have N6 : Hid (Lies w6 (w.heap.size + 1) 73 zz.cells) := Lib.hid (by rw [← hw6]; exact N5.out.set_ (of_sz _))
      have B6 : Hid (Below w.heap.size w w6) := Lib.hid (by rw [← hw6]; exact below_setCells hb.out (by omega) _ _)
      have HW6 := Lib.hid hw6
      clear hw6
      go_wp2_with (first
        | ((with_reducible refine bdt 34 [] ?_ ?_ zz.cells.toArray ?_ ?_); rfl; rfl; exact BZ.out)
        | ((with_reducible refine sto (.tmp 4) (.tmp 21) ?_ ?_ (w.heap.size + 1) 0 zz ?_ ?_ T5.out Z1C.out.1 Z1C.out.2.1 Z1C.out.2.2 ?_); rfl; rfl; rfl; rfl; rw [HW6.out])
        | fail)
      refine bodyPost_ret (res_obi rfl _ _ (w.heap.size + 1) 0 zz _ rfl rfl N6.out.rg) rfl ⟨?_, B6.out⟩
      rw [← HFV.out, findH_none (fun j hj => hg.out j (by rw [hl.out] at hj; exact hj) hj), ← HZZ.out]
      rfl
end Go.Proofs.YtcofkhmgmemkmaaGreatDoor
