/-
  OBJECTS: Links.
-/
import Derived.Test.YtcofkhmgmemkmaaGreatDoorK22
namespace Go.Proofs.YtcofkhmgmemkmaaGreatDoor
set_option linter.unusedVariables false
set_option linter.unusedSimpArgs false
open Go.RowKit Go.WideShapes Go.ChangeShapes Go.Deep Go.Shelf
attribute [local irreducible] wpQuiet

/-- The Ids of what an object leads to. -/
def linksW (x : Ov) : List Idv := if x.kind = 2 then x.lv.map Lf.id else if x.kind = 3 then x.tree :: x.ps else []
theorem info_idv : (Tryz.prog.info? 27).map (fun i => (i.zero, i.size, i.bytes)) = some (some (idV Idv.zero), 32, 32) := by kernel_rfl
theorem idz_sz : (idV Idv.zero).cells.size = 32 := by rfl
theorem id_ones (l : List Idv) : ∀ u ∈ l.flatMap Idv.cells, u.oneCell' = true := fun u hu => by
  obtain ⟨i, _, hi⟩ := List.mem_flatMap.1 hu
  exact S3.bvs_one _ u hi
/-- A row of Ids of one's own. -/
abbrev OwnI (w : World) (base : Nat) (A : Option Addr) (n c : Nat) (l : List Idv) : Prop := w.ownsRow base 27 32 (.slice A n c) n (l.flatMap Idv.cells)
theorem own_fresh {w w' : World} {base : Nat} {e : TypeId} {k : Nat} {v : Value} {n : Nat} {xs : List Value} (h : w.ownsRow base e k v n xs) (hb : Below w.heap.size w w') : w'.ownsRow base e k v n xs := by
  rcases h with ⟨h1, h2 | ⟨g, cap, cur, h2, h3, h4, h5⟩⟩
  · exact ⟨h1, .inl h2⟩
  · exact ⟨h1, .inr ⟨g, cap, cur, h2, h3, (hb.block g (Array.getElem?_eq_some_iff.1 h4).1).trans h4, h5⟩⟩
section
variable {ops : Array Oper} {rest : List Oper} {op : Oper} {a : Act} {w : World} {Q : Exit → Act → World → Prop}
/-- One Id behind one's own. -/
theorem api1 (hgd : op.guard = none) (s x : Operand) (ho : op.op = .call { callee := .builtin .append, args := #[s, x], argTypes := #[28, 28] })
    {base n c : Nat} {A : Option Addr} {l : List Idv} {i : Idv} (hs : a.eval s = .slice A n c) (hx : a.eval x = .slice (some ⟨w.heap.size, 0, none⟩) 1 1) (h : OwnI w base A n c l) (hn : n + 1 ≤ 1000000) (hb : base ≤ w.heap.size)
    (hk : ∀ A' c' w', OwnI w' base A' (n + 1) c' (l ++ [i]) → Below base w w' → wpList Tryz.prog ops Q rest (a.put op.dst (.slice A' (n + 1) c')) w') : wpList Tryz.prog ops Q (op :: rest) a (w.alloc (.cells i.cells.toArray 27)) := by
  obtain ⟨i0, hi, hz, hz1, hz2⟩ := info_parts info_idv
  refine wpList_append_own (w.alloc (.cells i.cells.toArray 27)) hgd s x 28 ho base 27 i0 (idV Idv.zero) 32 32 Tryz.underlying28 hi hz hz1 hz2 (by rfl) (by omega) (.slice A n c) n (l.flatMap Idv.cells) hs (h.alloc _) ⟨w.heap.size, 0, none⟩ 1 1 i.cells hx (by rw [id_sz]) (World.news_of_block (heap_alloc_new w _)) (S3.bvs_one _) (by unfold maxLen; omega) (by omega) (by simp; omega) ?_
  intro v1 w1 hown hg _
  obtain ⟨A1, c1, rfl⟩ := own_shape hown
  refine hk A1 c1 w1 (by show w1.ownsRow base _ 32 _ _ ((l ++ [i]).flatMap Idv.cells); rw [List.flatMap_append]; simpa using hown) ?_
  exact ((Below.refl base w).alloc hb _).grown hg (by simp; omega) (fun k hk => (h.lt k hk).1)
end
set_option maxRecDepth 100000 in
set_option maxHeartbeats 4000000 in
theorem Links_any {w : World} {x : Ov} {L P E : Sl} (h : Obj3 w w.heap.size x L P E) (hm : Lim L P E) :
    Calls Tryz.prog 12 #[ofV (x.at_ L P E)] w fun e w' => (∃ A n c, e = .returned (.slice A n c) ∧ SqI w' w'.heap.size A n c (if okW x then linksW x else []) ∧ OwnI w' w.heap.size A n c (if okW x then linksW x else [])) ∧ Below w.heap.size w w' := by
  obtain ⟨ox, w1, hb⟩ := Bxo.mk_ w x L P E
  have HB := Lib.hid hb
  rw [hb.eq]
  have HL : Hid (∀ W, Below w.heap.size w W → Obj3 W w.heap.size x L P E) := Lib.hid fun W hW => h.below hW
  have C1 : Hid (Calls Tryz.prog 22 #[ofV ox] w1 fun e w' => e = .returned (.int .i64 (if okW x then 0 else 160)) ∧ Below w1.heap.size w1 w') := Lib.hid (by
    rw [← hb.eq]; exact OCheck_any ((h.below hb.bl).more hb.bl.size) hm)
  obtain ⟨AL, nL, cL⟩ := L
  obtain ⟨AP, nP, cP⟩ := P
  obtain ⟨AE, nE, cE⟩ := E
  have hnL : nL ≤ 100000 := hm.l
  have hnP : nP ≤ 100000 := hm.p
  have HLL : Hid (x.lv.length = nL) := Lib.hid h.l.len
  have FX : Hid (∀ W, Below w1.heap.size w1 W → W.cell? ⟨w.heap.size, 0, none⟩ = some (.int .i64 x.kind) ∧ W.cell? ⟨w.heap.size, 2, none⟩ = some (.slice AL nL cL) ∧ W.rangeAt w.heap.size 4 x.tree.cells ∧ W.cell? ⟨w.heap.size, 68, none⟩ = some (.slice AP nP cP) ∧ W.rangeAt w.heap.size 0 ox.cells) := Lib.hid fun W hW => by
    have f := hb.facts hW
    exact ⟨f.1, f.2.2.1, f.2.2.2.2.1, f.2.2.2.2.2.2.1, hb.rg hW⟩
  obtain ⟨cq, hcq⟩ : ∃ q, okW x = q := ⟨_, rfl⟩
  rw [hcq] at C1 ⊢
  clear h hb hcq
  go_enter Tryz.func12, Tryz.ntmps12
  go_upto_region 1 with fail
  rw [HB.out.al]
  have B1 := Lib.hid HB.out.bl
  go_wp2_with (first
    | ((with_reducible refine ldo (.tmp 1) ?_ ?_ w.heap.size 0 ox ?_ (FX.out w1 (Below.refl _ _)).2.2.2.2 ?_); rfl; (first | rfl | go_simp); (first | rfl | go_simp))
    | fail)
  refine C1.out.mono ?_
  rintro e w2 ⟨rfl, hb⟩
  dsimp only
  have Y2 : Hid (Below w1.heap.size w1 w2) := Lib.hid hb
  have B2 := Lib.hid (B1.out.trans (hb.mono B1.out.size))
  clear hb
  cases cq
  · simp only [Bool.false_eq_true, if_false]
    go_wp2_with fail
    go_ret
    exact ⟨⟨none, 0, 0, rfl, Sq.nil_ id_sz, ⟨rfl, .inl ⟨rfl, rfl⟩⟩⟩, B2.out⟩
  simp only [if_true]
  obtain ⟨a0, a2, -, a6, -⟩ := FX.out w2 Y2.out
  by_cases K2 : x.kind = 2
  · have d2 : (x.kind == 2) = true := by simp [K2]
    have HLK : Hid (linksW x = x.lv.map Lf.id) := Lib.hid (if_pos K2)
    clear K2
    go_wp2_with fail
    go_loopw [3, 16] (fun v i wr => ∃ (k : Nat) (B : Option Addr) (cc : Nat), k ≤ nL ∧ i = .int .i64 (k : Int) ∧ v = .slice B k cc ∧ Hid (OwnI wr w2.heap.size B k cc ((x.lv.take k).map Lf.id)) ∧ Hid (Below w2.heap.size w2 wr)) (fun _ i _ => nL - (intOf i).toNat)
    case atStart => exact ⟨0, none, 0, Nat.zero_le _, rfl, rfl, Lib.hid ⟨rfl, .inl ⟨rfl, rfl⟩⟩, Lib.hid (Below.refl _ _)⟩
    case round =>
      obtain ⟨k, B, cc, hk, rfl, rfl, hown, hbr⟩ := hrel
      have BR : Hid (Below w.heap.size w wr) := Lib.hid (B2.out.trans (hbr.out.mono B2.out.size))
      by_cases hlt : k < nL
      · have hd : decide ((k : Int) < (nL : Int)) = true := by simp; omega
        have hk0 : (0 : Int) ≤ (k : Int) := Int.natCast_nonneg _
        have hk1 : (k : Int) < (nL : Int) := by omega
        obtain ⟨b, o, rfl, hbl, hrg⟩ := (HL.out wr BR.out).l.at_ hlt
        have hkl : k < x.lv.length := by rw [HLL.out]; exact hlt
        have HST : Hid ((x.lv.take (k + 1)).map Lf.id = (x.lv.take k).map Lf.id ++ [x.lv[k].id]) := Lib.hid (by rw [List.take_succ_eq_append_getElem hkl, List.map_append, List.map_cons, List.map_nil])
        obtain ⟨r, hr⟩ : ∃ r, x.lv[k] = r := ⟨_, rfl⟩
        rw [hr] at hrg HST
        obtain ⟨wA, hwA⟩ : ∃ wA, wr.alloc (.cells zLf.cells.toArray 68) = wA := ⟨_, rfl⟩
        have YA : Lies wA wr.heap.size 33 zLf.cells := by
          rw [← hwA]
          have := Lies.new wr zLf.cells 68
          rwa [lf_sz] at this
        obtain ⟨w5, hw5⟩ : ∃ w5, wA.setCells wr.heap.size 0 r.cells = w5 := ⟨_, rfl⟩
        have Y5 : Lies w5 wr.heap.size 33 r.cells := by rw [← hw5]; exact YA.set_ (lf_sz _)
        have C5 : Below wr.heap.size wr w5 := by rw [← hw5, ← hwA]; exact below_setCells ((Below.refl _ _).alloc (Nat.le_refl _) _) (Nat.le_refl _) _ _
        have B5 : Hid (Below w2.heap.size w2 w5) := Lib.hid (hbr.out.trans (C5.mono hbr.out.size))
        have O5 : Hid (OwnI w5 w2.heap.size B k cc ((x.lv.take k).map Lf.id)) := Lib.hid (own_fresh hown.out C5)
        have HWA := Lib.hid hwA
        have HW5 := Lib.hid hw5
        have TA := Lib.hid YA.th
        have HRG := Lib.hid hrg
        have R1 : Hid (w5.rangeAt wr.heap.size 1 r.id.cells) := Lib.hid (by
          have := Y5.rg
          unfold Lf.cells at this
          rw [show (Value.string r.p :: S3.bvs r.id.b) = [Value.string r.p] ++ S3.bvs r.id.b from rfl, rangeAt_app] at this
          exact this.2)
        obtain ⟨i0, hi, hz, hz1, hz2⟩ := info_parts info_idv
        clear hwA hw5 YA Y5 C5 hrg hr
        go_upto_region 9 with (first
          | ((with_reducible refine ldl (.tmp 18) ?_ ?_ b (o + k * 33) r ?_ HRG.out ?_); rfl; rfl; (first | rfl | go_simp))
          | ((with_reducible refine alt 68 ?_ ?_ zLf.cells zero_lf ?_); rfl; rfl; rw [HWA.out]; (try simp only [Act.put, List.setIfInBounds_toArray, List.set_cons_succ, List.set_cons_zero]))
          | ((with_reducible refine stl (.tmp 5) (.tmp 19) ?_ ?_ wr.heap.size 0 r ?_ ?_ TA.out ?_); rfl; rfl; rfl; rfl; rw [HW5.out])
          | fail)
        go_wp2_with (first
          | ((with_reducible refine ldi (.tmp 21) ?_ ?_ wr.heap.size 1 r.id ?_ R1.out ?_); rfl; rfl; (first | rfl | go_simp))
          | ((with_reducible refine oneL Tryz.underlying28 hi hz (k := 32) (by omega) (by omega) hz1 idz_sz (.tmp 22) ?_ ?_ r.id.cells (id_sz _) ?_ ?_); rfl; rfl; rfl; (try simp only [Act.put, List.setIfInBounds_toArray, List.set_cons_succ, List.set_cons_zero]))
          | (at_builtin; refine api1 (w := w5) (i := r.id) ?_ (.tmp 20) (.tmp 23) ?_ ?_ ?_ O5.out ?_ B5.out.size ?_; rfl; rfl; rfl; rfl; omega; intro A6 c6 w6 own bel; have O6 := Lib.hid own; have B6 := Lib.hid (B5.out.trans bel); clear own bel)
          | fail)
        go_roundw
        case rel => exact ⟨k + 1, A6, c6, by omega, by go_num, rfl, Lib.hid (by rw [HST.out]; exact O6.out), B6⟩
        case measure => simp [intOf]; omega
      · have hd : decide ((k : Int) < (nL : Int)) = false := by simp; omega
        have ek : nL = k := by omega
        subst ek
        have etk : x.lv.take nL = x.lv := List.take_of_length_le (by rw [HLL.out]; exact Nat.le_refl _)
        rw [etk, ← HLK.out] at hown
        go_wp2_with fail
        go_ret
        exact ⟨⟨B, nL, cc, rfl, own_sq hown.out id_sz (by omega), own_base hown.out B2.out.size⟩, BR.out⟩
  · have d2 : (x.kind == 2) = false := by simp [K2]
    by_cases K3 : x.kind = 3
    · have d3 : (x.kind == 3) = true := by simp [K3]
      have HLK : Hid (linksW x = x.tree :: x.ps) := Lib.hid ((if_neg K2).trans (if_pos K3))
      obtain ⟨i0, hi, hz, hz1, hz2⟩ := info_parts info_idv
      have R4 := Lib.hid (FX.out w2 Y2.out).2.2.1
      have O2 : Hid (OwnI w2 w2.heap.size none 0 0 []) := Lib.hid ⟨rfl, .inl ⟨rfl, rfl⟩⟩
      clear K2 K3
      go_upto_region 13 with (first
        | ((with_reducible refine ldi (.tmp 29) ?_ ?_ w.heap.size 4 x.tree ?_ R4.out ?_); rfl; rfl; (first | rfl | go_simp))
        | ((with_reducible refine oneL Tryz.underlying28 hi hz (k := 32) (by omega) (by omega) hz1 idz_sz (.tmp 30) ?_ ?_ x.tree.cells (id_sz _) ?_ ?_); rfl; rfl; rfl; (try simp only [Act.put, List.setIfInBounds_toArray, List.set_cons_succ, List.set_cons_zero]))
        | (at_builtin; refine api1 (w := w2) (i := x.tree) ?_ (.tmp 28) (.tmp 31) ?_ ?_ ?_ O2.out ?_ (Nat.le_refl _) ?_; rfl; rfl; rfl; rfl; omega; intro A6 c6 w6 own bel; have O6 := Lib.hid own; have B6 := Lib.hid bel; clear own bel)
        | fail)
      have Y6 : Hid (Below w1.heap.size w1 w6) := Lib.hid (Y2.out.trans (B6.out.mono Y2.out.size))
      obtain ⟨-, -, -, b6, -⟩ := FX.out w6 Y6.out
      have B6w := Lib.hid (B2.out.trans (B6.out.mono B2.out.size))
      have SP := Lib.hid (HL.out w6 B6w.out).p
      have hz6 := B6.out.size
      go_wp2_with (first
        | (at_builtin; refine wpList_append_sq rfl (.tmp 33) (.tmp 35) 28 rfl w2.heap.size 27 i0 (idV Idv.zero) 32 Tryz.underlying28 hi hz hz1 hz2 (by rfl) (by omega) (.slice A6 (0 + 1) c6) (0 + 1) ([] ++ [x.tree]) rfl O6.out rfl SP.out (id_ones _) (by omega) (by omega) hz6 ?_; intro v7 w7 own7 hg7; obtain ⟨A7, c7, rfl⟩ := own_shape own7; have O7 := Lib.hid own7; have B7 := Lib.hid ((Below.refl w2.heap.size w6).grown hg7 hz6 (fun k hk => (O6.out.lt k hk).1)); clear own7 hg7)
        | fail)
      go_ret
      have e : x.tree :: x.ps = ([] ++ [x.tree]) ++ x.ps := rfl
      refine ⟨⟨A7, 0 + 1 + nP, c7, rfl, ?_, ?_⟩, B6w.out.trans (B7.out.mono B2.out.size)⟩
      · rw [HLK.out, e]
        exact own_sq O7.out id_sz (by omega)
      · rw [HLK.out, e]
        exact own_base O7.out B2.out.size
    · have d3 : (x.kind == 3) = false := by simp [K3]
      have HLK : Hid (linksW x = []) := Lib.hid ((if_neg K2).trans (if_neg K3))
      go_wp2_with fail
      go_ret
      exact ⟨⟨none, 0, 0, rfl, by rw [HLK.out]; exact Sq.nil_ id_sz, by rw [HLK.out]; exact ⟨rfl, .inl ⟨rfl, rfl⟩⟩⟩, B2.out⟩
end Go.Proofs.YtcofkhmgmemkmaaGreatDoor
