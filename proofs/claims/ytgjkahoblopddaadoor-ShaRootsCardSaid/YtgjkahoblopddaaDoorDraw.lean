/-
  A BLOCK, DRAWN OUT TO 64 WORDS.
-/
import Derived.Test.YtgjkahoblopddaaDoorStep
import Derived.IntWalk
namespace Go.Proofs.YtgjkahoblopddaaDoor
set_option linter.unusedVariables false
set_option linter.unusedSimpArgs false
open Go.RowKit

def wdOf (b : List UInt8) (k : Nat) : UInt32 := UInt32.ofNat (num ((b.drop (4 * k)).take 4))
/-- The first k words of a block. -/
def w16 (b : List UInt8) (k : Nat) : List UInt32 := (List.range k).map (wdOf b)
theorem w16_len (b : List UInt8) (k : Nat) : (w16 b k).length = k := by simp [w16]
theorem w16_succ (b : List UInt8) (k : Nat) : w16 b (k + 1) = w16 b k ++ [wdOf b k] := by simp [w16, List.range_succ]
def nxW (w : List UInt32) (i : Nat) : UInt32 := blendW (w.getD (i - 2) 0) 17 19 10 + w.getD (i - 7) 0 + blendW (w.getD (i - 15) 0) 7 18 3 + w.getD (i - 16) 0
/-- The words, k of them drawn out. -/
def drW (b : List UInt8) : Nat → List UInt32
  | 0 => w16 b 16
  | k + 1 => drW b k ++ [nxW (drW b k) (16 + k)]
theorem drW_len (b : List UInt8) : ∀ k, (drW b k).length = 16 + k
  | 0 => w16_len b 16
  | k + 1 => by rw [drW, List.length_append, drW_len b k]; rfl
/-- Words, filled up with noughts. -/
def fillW (l : List UInt32) : List UInt32 := l ++ List.replicate (64 - l.length) 0
theorem fillW_len {l : List UInt32} (h : l.length ≤ 64) : (fillW l).length = 64 := by simp [fillW]; omega
theorem fillW_set {l : List UInt32} (h : l.length < 64) (x : UInt32) : (fillW l).set l.length x = fillW (l ++ [x]) := by
  unfold fillW
  rw [List.set_append_right _ _ (Nat.le_refl _), Nat.sub_self, show 64 - l.length = (64 - (l ++ [x]).length) + 1 by simp; omega, List.replicate_succ]
  simp
theorem fillW_at {l : List UInt32} {j : Nat} (h : j < l.length) : (wvs (fillW l))[j]? = some (wv (l.getD j 0)) := by
  have : (fillW l)[j]? = some (l.getD j 0) := by
    unfold fillW
    rw [List.getElem?_append_left h, List.getD_eq_getElem?_getD, List.getElem?_eq_getElem h]
    rfl
  simp only [wvs, List.getElem?_map, this, Option.map_some]
theorem fillW_end {l : List UInt32} (h : l.length < 64) : (wvs (fillW l))[l.length]? = some (wv 0) := by
  have : (fillW l)[l.length]? = some 0 := by
    unfold fillW
    rw [List.getElem?_append_right (Nat.le_refl _), Nat.sub_self, List.getElem?_replicate, if_pos (by omega)]
  simp only [wvs, List.getElem?_map, this, Option.map_some]
theorem wvs_set (l : List UInt32) (j : Nat) (x : UInt32) : (wvs l).set j (wv x) = wvs (l.set j x) := by simp [wvs, List.map_set]
def Zw : List UInt32 := fillW []
theorem Zw_len : Zw.length = 64 := fillW_len (by simp)
theorem zero_w64 (w : World) : (zeroValue 39).run Tryd.prog w = .ok (.agg (wvs Zw).toArray) w := by kernel_rfl
theorem al_w64 {ops : Array Oper} {rest : List Oper} {op : Oper} {a : Act} {w : World} {Q : Exit → Act → World → Prop} (hgd : op.guard = none) (ho : op.op = .alloc 39)
    (h : wpList Tryd.prog ops Q rest (a.put op.dst (.pointer (some ⟨w.heap.size, 0, none⟩))) (w.alloc (.cells (wvs Zw).toArray 39))) : wpList Tryd.prog ops Q (op :: rest) a w :=
  wpList_alloc_as hgd _ ho _ zero_w64 h
theorem word_of (l : List UInt8) (h : l.length = 4) : ((num l : Nat) : Int) = ((UInt32.ofNat (num l)).toNat : Int) := by
  have := num_lt l
  rw [h] at this
  rw [UInt32.toNat_ofNat', Nat.mod_eq_of_lt this]
theorem Bl.lies {w : World} {g : Nat} {t : TypeId} {cs : List Value} (h : Bl w g t cs) : Lies w g cs.length cs :=
  ⟨fun j v hv => by rw [Nat.zero_add, h.cell j]; exact hv, fun j hj => ⟨by rw [Nat.zero_add, h.cell j, List.getElem?_eq_getElem hj]; rfl, h.frozen _⟩, h.lt, rfl⟩
/-- A word stored into a block of words does not touch a reader. -/
theorem Rd.word {w : World} {g : Nat} {l : List UInt8} {e : Int} (h : Rd w g l e) {b : Nat} {t : TypeId} {ws : List UInt32} (hb : Bl w b t (wvs ws)) (hne : g ≠ b) (j : Nat) (u : Value) : Rd (w.setCell ⟨b, j, none⟩ u) g l e := by
  obtain ⟨A, n, c, tt, full, h1, hs, ht, hl⟩ := h
  refine ⟨A, n, c, tt, full, h1.far (p := ⟨b, j, none⟩) hne u, ⟨hs.len, hs.cap, hs.max, hs.non, fun h0 => ?_⟩, ht, hl⟩
  obtain ⟨b', o, e1, hlt, hc⟩ := hs.pos h0
  refine ⟨b', o, e1, hlt, fun i hi => ?_⟩
  have hn : b' ≠ b := by
    rintro rfl
    have h2 := hc i hi
    rw [hb.cell (o + i)] at h2
    simp only [wvs, List.getElem?_map, Option.map_eq_some_iff] at h2
    obtain ⟨x, _, hx⟩ := h2
    cases hx
  rw [World.cell?_setCell_other (a := ⟨b, j, none⟩) (b := ⟨b', o + i, none⟩) w u (fun e => hn (by injection e with e; exact e.symm))]
  exact hc i hi
theorem Lies.far {W : World} {b k : Nat} {l : List Value} (h : Lies W b k l) {b' : Nat} (hn : b ≠ b') (j : Nat) (u : Value) : Lies (W.setCell ⟨b', j, none⟩ u) b k l := h.other hn j [u]
theorem blended_1 (x : UInt32) (w : World) : Calls Tryd.prog 59 #[wv x, .int .i64 17, .int .i64 19, .int .i64 10] w fun y w' => y = .returned (wv (blendW x 17 19 10)) ∧ Below w.heap.size w w' :=
  (blended_any x 17 19 10 _ _ _ rfl rfl rfl (by omega) (by omega) (by omega) w).mono fun e w' ⟨he, k, hk⟩ => ⟨he, by rw [hk]; exact below_drewN (Below.refl _ _) k⟩
theorem blended_2 (x : UInt32) (w : World) : Calls Tryd.prog 59 #[wv x, .int .i64 7, .int .i64 18, .int .i64 3] w fun y w' => y = .returned (wv (blendW x 7 18 3)) ∧ Below w.heap.size w w' :=
  (blended_any x 7 18 3 _ _ _ rfl rfl rfl (by omega) (by omega) (by omega) w).mono fun e w' ⟨he, k, hk⟩ => ⟨he, by rw [hk]; exact below_drewN (Below.refl _ _) k⟩
theorem blended_b (x : UInt32) (l m n : Nat) (hl : 1 ≤ l ∧ l ≤ 31) (hm : 1 ≤ m ∧ m ≤ 31) (hn : 1 ≤ n ∧ n ≤ 31) (w : World) :
    Calls Tryd.prog 59 #[wv x, .int .i64 (l : Int), .int .i64 (m : Int), .int .i64 (n : Int)] w fun y w' => y = .returned (wv (blendW x l m n)) ∧ Below w.heap.size w w' :=
  (blended_any x l m n _ _ _ rfl rfl rfl hl hm hn w).mono fun e w' ⟨he, k, hk⟩ => ⟨he, by rw [hk]; exact below_drewN (Below.refl _ _) k⟩

set_option maxRecDepth 100000 in
set_option maxHeartbeats 1600000 in
theorem drawn_any (b : List UInt8) (hl : b.length = 64) (w : World) :
    Calls Tryd.prog 41 #[.agg (bvs b).toArray] w fun e w' => e = .returned (.agg (wvs (drW b 48)).toArray) ∧ Below w.heap.size w w' := by
  have HL := Lib.hid hl
  have hbx : (w.alloc (.cells (bvs b).toArray 32)).heap.size = w.heap.size + 1 := by simp
  have l1 : Lies (w.alloc (.cells (bvs b).toArray 32)) w.heap.size 64 (bvs b) := by
    have := Lies.new w (bvs b) 32
    rwa [bvs_len, hl] at this
  obtain ⟨w1, hw1⟩ : ∃ w1, w1 = w.alloc (.cells (bvs b).toArray 32) := ⟨_, rfl⟩
  have hb1 : Below w.heap.size w w1 := by rw [hw1]; exact (Below.refl _ _).alloc (Nat.le_refl _) _
  rw [← hw1] at hbx l1
  obtain ⟨w2, hw2⟩ : ∃ w2, w2 = w1.alloc (.cells (wvs Zw).toArray 39) := ⟨_, rfl⟩
  have l2 : Lies w2 (w.heap.size + 1) 64 (wvs Zw) := by
    have := Lies.new w1 (wvs Zw) 39
    rw [wvs_len, Zw_len, ← hw2, hbx] at this
    exact this
  have hz2 : w2.heap.size = w.heap.size + 1 + 1 := by rw [hw2]; simp [hbx]
  have l12 : Lies w2 w.heap.size 64 (bvs b) := by rw [hw2]; exact l1.alloc _
  have hb2 : Below w.heap.size w w2 := by rw [hw2]; exact hb1.alloc hb1.size _
  obtain ⟨w3, hw3⟩ : ∃ w3, w3 = w2.alloc (.cells (wvs Zw).toArray 39) := ⟨_, rfl⟩
  have l3 : Bl w3 (w.heap.size + 1 + 1) 39 (wvs (fillW (w16 b 0))) := by
    have := Bl.new w2 39 (wvs Zw)
    rw [← hw3, hz2] at this
    exact this
  have hz3 : w3.heap.size = w.heap.size + 1 + 1 + 1 := by rw [hw3]; simp [hz2]
  have l13 : Lies w3 w.heap.size 64 (bvs b) := by rw [hw3]; exact l12.alloc _
  have l23 : Lies w3 (w.heap.size + 1) 64 (wvs Zw) := by rw [hw3]; exact l2.alloc _
  have hb3 : Below w.heap.size w w3 := by rw [hw3]; exact hb2.alloc hb2.size _
  have hs3 : SlB w3 w3.heap.size (some ⟨w.heap.size, 0, none⟩) 64 64 b := ⟨hl, Nat.le_refl _, by unfold maxLen; omega, fun e => (by cases e), fun _ => ⟨w.heap.size, 0, rfl, by rw [hz3]; omega, fun j hj => by
    have := l13.cell (j := j) (v := bv b[j]) (by simp [bvs, List.getElem?_eq_getElem hj])
    rw [Nat.zero_add]; exact this⟩⟩
  have HW3 := Lib.hid (hw3.trans (by rw [hw2, hw1]))
  have L23 := Lib.hid l23
  have L3 := Lib.hid l3
  have B3 := Lib.hid hb3
  have S3 := Lib.hid hs3
  have Z3 := Lib.hid hz3
  have SZ := Lib.hid (show w2.heap.size = w.heap.size + 1 + 1 ∧ w1.heap.size = w.heap.size + 1 from ⟨hz2, hbx⟩)
  clear hl hbx l1 hw1 hb1 hw2 l2 hz2 l12 hb2 hw3 l3 hz3 l13 l23 hb3 hs3
  go_enter Tryd.func41, Tryd.ntmps41
  go_wp2_with (first | (with_reducible refine al_w64 rfl rfl ?_))
  rw [← HW3.out]
  refine (read_any S3.out (Nat.le_refl _) (by omega)).mono ?_
  rintro e w4 ⟨g, hg, rfl, hR, hb4⟩
  have R4 := Lib.hid hR
  have B4 := Lib.hid (B3.out.trans (hb4.mono B3.out.size))
  have L24 := Lib.hid (L23.out.below hb4 L23.out.lt)
  have L4 := Lib.hid (L3.out.below hb4 L3.out.lt)
  have HG := Lib.hid (show w.heap.size + 1 + 1 < g by have := Z3.out; omega)
  clear hg hR hb4
  go_wp2_with fail
  go_loopw [9] (fun i wr => ∃ k : Nat, k ≤ 16 ∧ i = .int .i64 (k : Int) ∧ Hid (Rd wr g (b.drop (4 * k)) 0) ∧ Hid (Below w.heap.size w wr) ∧ Hid (Lies wr (w.heap.size + 1) 64 (wvs Zw)) ∧ Hid (Bl wr (w.heap.size + 1 + 1) 39 (wvs (fillW (w16 b k))))) (fun i _ => 16 - (intOf i).toNat)
  case atStart => exact ⟨0, by omega, rfl, by simpa using R4, B4, L24, L4⟩
  case round =>
    obtain ⟨k, hk, rfl, hR, hB, hL2, hL3⟩ := hrel
    by_cases hlt : k < 16
    · have hd : decide ((k : Int) < 16) = true := by simp; omega
      have hk0 : (0 : Int) ≤ (k : Int) := Int.natCast_nonneg _
      have hk1 : (k : Int) < 16 := by omega
      have hlen : (b.drop (4 * k)).length = 64 - 4 * k := by rw [List.length_drop, HL.out]
      obtain ⟨o1, o2, o3⟩ := off_ok (b.drop (4 * k)) 4 4 rfl (by omega)
      have hT := take_u32 hR.out
      rw [o1, o2, o3, word_of _ (by rw [List.length_take]; omega), List.drop_drop] at hT
      have HT := Lib.hid hT
      have HK := Lib.hid hlt
      clear hT o1 o2 o3 hlen
      go_wp2_with fail
      refine (HT.out).mono ?_
      rintro e w5 ⟨rfl, hR5, hG5⟩
      have hm : Mv (fun x => x = g) wr w5 := Mv.of_grown hG5 fun y hy => .inl (by injection hy with hy; exact hy.symm)
      have R5 := Lib.hid hR5
      have B5 := Lib.hid (hB.out.trans (below_of_only hG5 (by have := HG.out; omega) hB.out.size))
      have L25 := Lib.hid (hL2.out.mv hm (by have := HG.out; omega))
      have L5 := Lib.hid (hL3.out.grown hG5 (by have := HG.out; intro e; injection e with e; omega))
      have q1 : w5.cell? ⟨w.heap.size + 1 + 1, k, none⟩ = some (wv 0) := by
        have h := fillW_end (l := w16 b k) (by rw [w16_len]; omega)
        rw [w16_len] at h
        rw [L5.out.cell k]
        exact h
      have q2 := L5.out.frozen k
      clear hR5 hG5 hm hR hB hL2 hL3
      go_wp2
      go_roundw
      case rel =>
        refine ⟨k + 1, by have := HK.out; omega, by go_num, Lib.hid ?_, Lib.hid ?_, Lib.hid ?_, Lib.hid ?_⟩
        · rw [show 4 * (k + 1) = 4 * k + 4 by omega]
          exact R5.out.word L5.out (by have := HG.out; omega) k _
        · exact B5.out.setCell (by show w.heap.size ≤ w.heap.size + 1 + 1; omega) _
        · exact L25.out.far (by omega) k _
        · have h := L5.out.set_ k (wv (wdOf b k))
          have h2 := fillW_set (l := w16 b k) (by rw [w16_len]; have := HK.out; omega) (wdOf b k)
          rw [w16_len] at h2
          rw [wvs_set, h2, ← w16_succ] at h
          exact h
      case measure => simp [intOf]; omega
    · have hd : decide ((k : Int) < 16) = false := by simp; omega
      obtain rfl : k = 16 := by omega
      have HB := hB
      have HL2 := hL2
      have HL3 := hL3
      clear hB hL2 hL3 hR R4 B4 L24 L4
      obtain ⟨wo, hwo⟩ : ∃ wo : World, wo = wr := ⟨_, rfl⟩
      rw [← hwo] at HB HL2 HL3 ⊢
      clear hwo
      rw [show ((16 : Nat) : Int) = 16 from rfl]
      go_wp2
      go_loopw [6] (fun i wq => ∃ k : Nat, k ≤ 48 ∧ i = .int .i64 ((16 + k : Nat) : Int) ∧ Hid (Below w.heap.size w wq) ∧ Hid (Lies wq (w.heap.size + 1) 64 (wvs Zw)) ∧ Hid (Bl wq (w.heap.size + 1 + 1) 39 (wvs (fillW (drW b k))))) (fun i _ => 64 - (intOf i).toNat)
      case atStart => exact ⟨0, by omega, rfl, HB, HL2, HL3⟩
      case round =>
        obtain ⟨k, hk, rfl, hB, hL2, hL3⟩ := hrel
        obtain ⟨j, hj⟩ : ∃ j, 16 + k = j := ⟨_, rfl⟩
        have HJ := Lib.hid hj
        rw [hj]
        clear hj
        by_cases hlt : k < 48
        · have hj0 : 16 ≤ j := by have := HJ.out; omega
          have hj1 : j < 64 := by have := HJ.out; omega
          have hd : decide ((j : Int) < 64) = true := by simp; omega
          have hi0 : (16 : Int) ≤ (j : Int) := by omega
          have hi1 : (j : Int) < 64 := by omega
          have hlen := drW_len b k
          rw [HJ.out] at hlen
          have hc : ∀ i, i < j → wr.cell? ⟨w.heap.size + 1 + 1, i, none⟩ = some (wv ((drW b k).getD i 0)) := fun i hi => by
            rw [hL3.out.cell i]
            exact fillW_at (by rw [hlen]; exact hi)
          have he : wr.cell? ⟨w.heap.size + 1 + 1, j, none⟩ = some (wv 0) := by
            rw [hL3.out.cell j]
            have := fillW_end (l := drW b k) (by rw [hlen]; exact hj1)
            rwa [hlen] at this
          have HLEN := Lib.hid hlen
          have HX := Lib.hid (show nxW (drW b k) j = blendW ((drW b k).getD (j - 2) 0) 17 19 10 + (drW b k).getD (j - 7) 0 + blendW ((drW b k).getD (j - 15) 0) 7 18 3 + (drW b k).getD (j - 16) 0 from rfl)
          have c2 := hc (j - 2) (by omega)
          have c7 := hc (j - 7) (by omega)
          have c15 := hc (j - 15) (by omega)
          have c16 := hc (j - 16) (by omega)
          have hfz := hL3.out.frozen j
          have hzl := hL3.out.lt
          generalize (drW b k).getD (j - 2) 0 = x2 at c2 HX
          generalize (drW b k).getD (j - 7) 0 = x7 at c7 HX
          generalize (drW b k).getD (j - 15) 0 = x15 at c15 HX
          generalize (drW b k).getD (j - 16) 0 = x16 at c16 HX
          obtain ⟨B3, hB3⟩ : ∃ B3, B3 = w.heap.size + 1 + 1 := ⟨_, rfl⟩
          have HK := Lib.hid (fun w' (hb : Below wr.heap.size wr w') => show w'.cell? ⟨w.heap.size + 1 + 1, j - 2, none⟩ = some (wv x2) ∧ w'.cell? ⟨w.heap.size + 1 + 1, j - 7, none⟩ = some (wv x7) ∧ w'.cell? ⟨w.heap.size + 1 + 1, j - 15, none⟩ = some (wv x15) ∧ w'.cell? ⟨w.heap.size + 1 + 1, j - 16, none⟩ = some (wv x16) from
            ⟨(hb.cell (p := ⟨_, _, none⟩) hzl).trans c2, (hb.cell (p := ⟨_, _, none⟩) hzl).trans c7, (hb.cell (p := ⟨_, _, none⟩) hzl).trans c15, (hb.cell (p := ⟨_, _, none⟩) hzl).trans c16⟩)
          have HZ := Lib.hid (fun w' (hb : Below wr.heap.size wr w') => show w'.cell? ⟨w.heap.size + 1 + 1, j, none⟩ = some (wv 0) ∧ w'.frozen? ⟨w.heap.size + 1 + 1, j, none⟩ = false from ⟨(hb.cell (p := ⟨_, _, none⟩) hzl).trans he, (hb.frozen (p := ⟨_, _, none⟩) hzl).trans hfz⟩)
          have HO := Lib.hid (fun (w' : World) (v : Value) (h : w'.cell? ⟨w.heap.size + 1 + 1, j - 2, none⟩ = some (wv x2) ∧ w'.cell? ⟨w.heap.size + 1 + 1, j - 7, none⟩ = some (wv x7) ∧ w'.cell? ⟨w.heap.size + 1 + 1, j - 15, none⟩ = some (wv x15) ∧ w'.cell? ⟨w.heap.size + 1 + 1, j - 16, none⟩ = some (wv x16)) => show (fun w' : World => w'.cell? ⟨w.heap.size + 1 + 1, j - 2, none⟩ = some (wv x2) ∧ w'.cell? ⟨w.heap.size + 1 + 1, j - 7, none⟩ = some (wv x7) ∧ w'.cell? ⟨w.heap.size + 1 + 1, j - 15, none⟩ = some (wv x15) ∧ w'.cell? ⟨w.heap.size + 1 + 1, j - 16, none⟩ = some (wv x16)) (w'.setCell ⟨w.heap.size + 1 + 1, j, none⟩ v) from ⟨(World.cell?_setCell_other (a := ⟨w.heap.size + 1 + 1, j, none⟩) (b := ⟨w.heap.size + 1 + 1, j - 2, none⟩) w' v (fun e => by injection e with e1 e2; omega)).trans h.1, (World.cell?_setCell_other (a := ⟨w.heap.size + 1 + 1, j, none⟩) (b := ⟨w.heap.size + 1 + 1, j - 7, none⟩) w' v (fun e => by injection e with e1 e2; omega)).trans h.2.1, (World.cell?_setCell_other (a := ⟨w.heap.size + 1 + 1, j, none⟩) (b := ⟨w.heap.size + 1 + 1, j - 15, none⟩) w' v (fun e => by injection e with e1 e2; omega)).trans h.2.2.1, (World.cell?_setCell_other (a := ⟨w.heap.size + 1 + 1, j, none⟩) (b := ⟨w.heap.size + 1 + 1, j - 16, none⟩) w' v (fun e => by injection e with e1 e2; omega)).trans h.2.2.2⟩)
          have BD := Lib.hid (show Below wr.heap.size wr wr.drew from (Below.refl _ _).drew)
          have HKD := Lib.hid (HK.out _ BD.out)
          have t2 : ((j : Int) - 2).toNat = j - 2 := by omega
          have t7 : ((j : Int) - 7).toNat = j - 7 := by omega
          have t15 : ((j : Int) - 15).toNat = j - 15 := by omega
          have t16 : ((j : Int) - 16).toNat = j - 16 := by omega
          clear hc he c2 c7 c15 c16 hfz hzl hlen hB3
          go_wp2
          have p2 : 0 ≤ (j : Int) - 2 := by omega
          have r2 : (j : Int) - 2 < 64 := by omega
          have p7 : 0 ≤ (j : Int) - 7 := by omega
          have r7 : (j : Int) - 7 < 64 := by omega
          have p15 : 0 ≤ (j : Int) - 15 := by omega
          have r15 : (j : Int) - 15 < 64 := by omega
          have p16 : 0 ≤ (j : Int) - 16 := by omega
          have r16 : (j : Int) - 16 < 64 := by omega
          have g2 : (2 : Int) ≤ (j : Int) := by omega
          have v2 : (j : Int) < 66 := by omega
          have g7 : (7 : Int) ≤ (j : Int) := by omega
          have v7 : (j : Int) < 71 := by omega
          have g15 : (15 : Int) ≤ (j : Int) := by omega
          have v15 : (j : Int) < 79 := by omega
          have g16 : (16 : Int) ≤ (j : Int) := by omega
          have v16 : (j : Int) < 80 := by omega
          have hw2 : IntKind.i64.wrap ((j : Int) - 2) = (j : Int) - 2 := IntWalk.i64_in _ (by omega)
          have hw7 : IntKind.i64.wrap ((j : Int) - 7) = (j : Int) - 7 := IntWalk.i64_in _ (by omega)
          have hw15 : IntKind.i64.wrap ((j : Int) - 15) = (j : Int) - 15 := IntWalk.i64_in _ (by omega)
          have hw16 : IntKind.i64.wrap ((j : Int) - 16) = (j : Int) - 16 := IntWalk.i64_in _ (by omega)
          go_region_held3 (fun w' => w'.cell? ⟨w.heap.size + 1 + 1, j - 2, none⟩ = some (wv x2) ∧ w'.cell? ⟨w.heap.size + 1 + 1, j - 7, none⟩ = some (wv x7) ∧ w'.cell? ⟨w.heap.size + 1 + 1, j - 15, none⟩ = some (wv x15) ∧ w'.cell? ⟨w.heap.size + 1 + 1, j - 16, none⟩ = some (wv x16))
            (first | with_reducible exact HKD.out | with_reducible exact HK5.out | with_reducible exact HK6.out | exact HS6.out _)
            (first
              | (go_at_call 59; (with_reducible refine (blended_1 x2 _).mono ?_); rintro e w5 ⟨rfl, hb5⟩; have B5 := Lib.hid (BD.out.trans (hb5.mono BD.out.size)); have HK5 := Lib.hid (HK.out _ B5.out); clear hb5)
              | (go_at_call 59; (with_reducible refine (blended_2 x15 _).mono ?_); rintro e w6 ⟨rfl, hb6⟩; have B6 := Lib.hid (B5.out.trans (hb6.mono B5.out.size)); have HK6 := Lib.hid (HK.out _ B6.out); obtain ⟨z6, f6⟩ := HZ.out _ B6.out; have HS6 := Lib.hid (fun v => HO.out _ v HK6.out); clear hb6))
          clear hw2 hw7 hw15 hw16
          clear t2 t7 t15 t16 p2 p7 p15 p16 r2 r7 r15 r16 g2 g7 g15 g16 v2 v7 v15 v16 z6 f6
          go_wp2_with fail
          go_roundw
          case rel =>
            refine ⟨k + 1, by omega, ?_, Lib.hid ?_, Lib.hid ?_, Lib.hid ?_⟩
            · rw [show 16 + (k + 1) = j + 1 by have := HJ.out; omega]; go_num
            · exact (hB.out.trans (B6.out.mono hB.out.size)).setCell (by show w.heap.size ≤ w.heap.size + 1 + 1; omega) _
            · exact (hL2.out.below B6.out hL2.out.lt).far (by omega) j _
            · rw [← w_sum, ← w_sum, ← w_sum, ← HX.out]
              have h := (hL3.out.below B6.out hL3.out.lt).set_ j (wv (nxW (drW b k) j))
              have h2 := fillW_set (l := drW b k) (by rw [HLEN.out]; exact hj1) (nxW (drW b k) j)
              rw [HLEN.out] at h2
              rw [wvs_set, h2] at h
              rw [drW, HJ.out]
              exact h
          case measure => simp [intOf]; omega
        · obtain rfl : k = 48 := by omega
          obtain rfl : j = 64 := HJ.out.symm
          have hfw : fillW (drW b 48) = drW b 48 := by
            unfold fillW
            rw [drW_len]
            simp
          have HLD : Hid ((drW b 48).length = 64) := Lib.hid (drW_len b 48)
          have HBl := hL3.out
          rw [hfw] at HBl
          have LB := Lib.hid HBl.lies
          have L2 := hL2
          have HBB := hB
          clear hfw HBl hL3 hL2 hB
          go_wp2_with (first
            | (with_reducible refine ld_w64 rfl _ rfl (w.heap.size + 1 + 1) 0 (drW b 48) HLD rfl LB.out.rg ?_)
            | (with_reducible refine st_w64 rfl _ _ rfl (w.heap.size + 1) 0 (drW b 48) HLD rfl rfl L2.out.th ?_))
          refine bodyPost_ret (res_w64 rfl _ _ (w.heap.size + 1) (drW b 48) HLD.out rfl (L2.out.set_ (l' := wvs (drW b 48)) (by rw [wvs_len]; exact HLD.out)).rg) rfl ⟨rfl, below_setCells HBB.out (by omega) _ _⟩
end Go.Proofs.YtgjkahoblopddaaDoor
