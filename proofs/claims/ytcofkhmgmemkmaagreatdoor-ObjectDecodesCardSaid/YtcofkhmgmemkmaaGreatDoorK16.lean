/-
  OBJECTS: isBare.
  ROWS OF ONE'S OWN; the box of what is made; literal slices of one.
  OBJECTS: isTree.
-/
import Derived.Test.YtcofkhmgmemkmaaGreatDoorK15
import Derived.Shelf.RegionOpen
import Derived.RangeFuncBox
import Derived.RangeFuncNested
import Derived.RangeFuncBound
import Derived.RangeFuncCalls
import Derived.RangeFuncLeaves
import Derived.Shelf.Abstract
import Derived.OwnWalkIn
import Derived.TacticsInMore
import Derived.LoopNIn
import Derived.LoopIn
import Derived.Deep.AppendLies
import Derived.Great.BuildSlice
import Derived.Great.FillDense
import Derived.Lib.OwnBridge
import Derived.Test.YtcofkhmgmemkmaaGreatDoorK13
namespace Go.Proofs.YtcofkhmgmemkmaaGreatDoor
set_option linter.unusedVariables false
set_option linter.unusedSimpArgs false
open Go.RowKit Go.WideShapes Go.ChangeShapes Go.Deep
attribute [local irreducible] wpQuiet

/-- Nothing but a Kind. -/
def kOv (k : Int) : Ov := { zOv with kind := k }
/-- What counts of an object. -/
def cntO (x : Ov) : Ov := if x.kind = 1 then { kOv x.kind with text := x.text } else if x.kind = 2 then { kOv x.kind with lv := x.lv } else if x.kind = 3 then { x with text := ⟨#[]⟩, lv := [] } else kOv x.kind
noncomputable def bareO (x : Ov) : Bool := sameO x (cntO x)
abbrev nSl : Sl := ⟨none, 0, 0⟩
theorem kOv_ok {w : World} {B : Nat} {k : Int} (hk : -9223372036854775808 ≤ k ∧ k ≤ 9223372036854775807) : Obj3 w B (kOv k) nSl nSl nSl :=
  ⟨Sq.nil_ lf_sz, Sq.nil_ id_sz, Sq.nil_ ch_sz, hk, ⟨(by decide : (-9223372036854775808 : Int) ≤ 0), (by decide : (0 : Int) ≤ 9223372036854775807)⟩, (by decide : 0 < 4294967296), (by decide : 0 < 4294967296)⟩
set_option maxRecDepth 100000 in
set_option maxHeartbeats 4000000 in
theorem isBare_any {w : World} {x : Ov} {L P E : Sl} (h : Obj3 w w.heap.size x L P E) (hL : L.n ≤ 1000000) (hP : P.n ≤ 1000000) (hE : E.n ≤ 1000000) :
    Calls Tryz.prog 43 #[ofV (x.at_ L P E)] w fun e w' => e = .returned (.bool (bareO x)) ∧ Below w.heap.size w w' := by
  obtain ⟨w1, hw1⟩ : ∃ w1, w.alloc (.cells (x.at_ L P E).cells.toArray 34) = w1 := ⟨_, rfl⟩
  have B1 : Below w.heap.size w w1 := by rw [← hw1]; exact (Below.refl _ _).alloc (Nat.le_refl _) _
  have Z1 : w1.heap.size = w.heap.size + 1 := by rw [← hw1]; simp
  have X1 : Hid (Lies w1 w.heap.size 73 (x.at_ L P E).cells) := Lib.hid (by
    rw [← hw1]
    have := Lies.new w (x.at_ L P E).cells 34
    rwa [of_sz] at this)
  obtain ⟨wA, hwA⟩ : ∃ wA, w1.alloc (.cells zOf.cells.toArray 34) = wA := ⟨_, rfl⟩
  have YA : Lies wA (w.heap.size + 1) 73 zOf.cells := by
    rw [← hwA, ← Z1]
    have := Lies.new w1 zOf.cells 34
    rwa [of_sz] at this
  have ZA : wA.heap.size = w.heap.size + 2 := by rw [← hwA]; simp; omega
  obtain ⟨w3, hw3⟩ : ∃ w3, wA.setCells (w.heap.size + 1) 0 ((kOv x.kind).at_ nSl nSl nSl).cells = w3 := ⟨_, rfl⟩
  have X3 : Hid (Lies w3 w.heap.size 73 (x.at_ L P E).cells) := Lib.hid (by rw [← hw3, ← hwA]; exact (X1.out.alloc _).other (by omega) _ _)
  have Y3 : Hid (Lies w3 (w.heap.size + 1) 73 ((kOv x.kind).at_ nSl nSl nSl).cells) := Lib.hid (by rw [← hw3]; exact YA.set_ (of_sz _))
  have B3 : Below w.heap.size w w3 := by rw [← hw3, ← hwA]; exact below_setCells (B1.alloc (by omega) _) (by omega) _ _
  have Z3 : w3.heap.size = w.heap.size + 2 := by rw [← hw3, size_setCells, ZA]
  obtain ⟨AL, nL, cL⟩ := L
  obtain ⟨AP, nP, cP⟩ := P
  obtain ⟨AE, nE, cE⟩ := E
  have H3 := Lib.hid h
  have HW1 := Lib.hid hw1
  have HWA := Lib.hid hwA
  have HW3 := Lib.hid hw3
  have TA := Lib.hid YA.th
  have HB3 := Lib.hid B3
  have HZ3 := Lib.hid Z3
  have HZ1 := Lib.hid Z1
  have kb := h.kb
  clear hw1 hwA hw3 h YA B3 Z3 ZA
  obtain ⟨ox, hox⟩ : ∃ o, x.at_ ⟨AL, nL, cL⟩ ⟨AP, nP, cP⟩ ⟨AE, nE, cE⟩ = o := ⟨_, rfl⟩
  have C : Hid (∀ (y : Ov) (L' P' E' : Sl) w4 oy, y.at_ L' P' E' = oy → Obj3 w4 w4.heap.size y L' P' E' → Below w.heap.size w w4 → cntO x = y → Calls Tryz.prog 52 #[ofV ox, ofV oy] w4 fun e w' => e = .returned (.bool (bareO x)) ∧ Below w.heap.size w w') := Lib.hid fun y L' P' E' w4 oy hoy hy hb he => by
    rw [← hox, ← hoy]
    refine (Same_any ((H3.out.below hb).more hb.size) hy hL hP hE).mono ?_
    rintro e w' ⟨rfl, hb'⟩
    exact ⟨by unfold bareO; rw [he], hb.trans (hb'.mono hb.size)⟩
  have F1 : Hid (w1.cell? ⟨w.heap.size, 0, none⟩ = some (.int .i64 x.kind)) := Lib.hid (obj_lies X1.out).1
  have F3 := Lib.hid (obj_lies X3.out)
  have OX : Hid (ox.lv.oneCell' = true ∧ ox.pv.oneCell' = true ∧ ox.ev.oneCell' = true) := Lib.hid (by rw [← hox]; exact ⟨rfl, rfl, rfl⟩)
  rw [hox] at X1 X3
  have HOX := Lib.hid hox
  have HE1 := Lib.hid (show ofV (x.at_ ⟨AL, nL, cL⟩ ⟨AP, nP, cP⟩ ⟨AE, nE, cE⟩) = ofV ox by rw [hox])
  rw [HE1.out]
  rw [hox] at HW1
  clear hox HE1
  obtain ⟨ok, hok⟩ : ∃ o, (kOv x.kind).at_ nSl nSl nSl = o := ⟨_, rfl⟩
  have HOK := Lib.hid hok
  have OK1 : Hid (Tryz.prog.built 34 [(0, .int .i64 x.kind)] = some ok.cells.toArray) := Lib.hid (by rw [← hok]; kernel_rfl)
  have OK2 : Hid (ok.lv.oneCell' = true ∧ ok.pv.oneCell' = true ∧ ok.ev.oneCell' = true) := Lib.hid (by rw [← hok]; exact ⟨rfl, rfl, rfl⟩)
  rw [hok] at Y3 HW3
  clear hok
  go_enter Tryz.func43, Tryz.ntmps43
  go_upto_region 1 with fail
  rw [HW1.out]
  have a0 := F1.out
  have hz1 := HZ1.out
  go_upto_region 2 with (first
    | ((with_reducible refine bdt 34 [(0, .tmp 5)] ?_ ?_ ok.cells.toArray ?_ ?_); rfl; rfl; exact OK1.out)
    | ((with_reducible refine alt 34 ?_ ?_ zOf.cells zero_of ?_); rfl; rfl; rw [HWA.out]; (try simp only [Act.put, List.setIfInBounds_toArray, List.set_cons_succ, List.set_cons_zero, hz1]))
    | ((with_reducible refine sto (.tmp 3) (.tmp 6) ?_ ?_ (w.heap.size + 1) 0 ok ?_ ?_ TA.out OK2.out.1 OK2.out.2.1 OK2.out.2.2 ?_); rfl; rfl; rfl; rfl; rw [HW3.out])
    | fail)
  clear a0
  have a0 := F3.out.1
  by_cases K1 : x.kind = 1
  · have d1 : (x.kind == 1) = true := by simp [K1]
    have f1 := Y3.out.frozen (j := 1) (by omega)
    obtain ⟨v1, c1⟩ : ∃ v, w3.cell? ⟨w.heap.size + 1, 1, none⟩ = some v := ⟨_, Y3.out.cell (j := 1) (by rw [← HOK.out]; rfl)⟩
    obtain ⟨w4, hw4⟩ : ∃ w4, w3.setCell ⟨w.heap.size + 1, 1, none⟩ (.string x.text) = w4 := ⟨_, rfl⟩
    have X4 : Hid (Lies w4 w.heap.size 73 ox.cells) := Lib.hid (by rw [← hw4]; exact X3.out.far (by simp) _)
    obtain ⟨oy, hoy⟩ : ∃ o, (Ov.at_ { kOv x.kind with text := x.text } nSl nSl nSl) = o := ⟨_, rfl⟩
    have Y4 : Hid (Lies w4 (w.heap.size + 1) 73 oy.cells) := Lib.hid (by rw [← hw4, ← hoy]; exact by have := Y3.out.set1 1 (.string x.text); rw [← HOK.out] at this; exact this)
    have HOY := Lib.hid hoy
    clear hoy
    have B4 : Hid (Below w.heap.size w w4) := Lib.hid (by rw [← hw4]; exact HB3.out.setCell (by simp) _)
    have HW4 := Lib.hid hw4
    clear hw4
    have a1 := F3.out.2.1
    go_upto_region 10 with fail
    rw [HW4.out]
    go_wp2_with (first
      | ((with_reducible refine ldo (.tmp 1) ?_ ?_ w.heap.size 0 ox ?_ X4.out.rg ?_); rfl; rfl; rfl)
      | ((with_reducible refine ldo (.tmp 3) ?_ ?_ (w.heap.size + 1) 0 oy ?_ Y4.out.rg ?_); rfl; rfl; rfl)
      | fail)
    refine (C.out ({ kOv x.kind with text := x.text }) nSl nSl nSl w4 oy HOY.out (let k := kOv_ok (w := w4) (B := w4.heap.size) kb; ⟨k.l, k.p, k.e, k.kb, k.sb, k.nb, k.ab⟩) B4.out (if_pos K1)).mono ?_
    rintro e w9 ⟨rfl, hb9⟩
    have HB9 := Lib.hid hb9
    clear hb9
    go_wp2_with fail
    go_ret
    exact ⟨rfl, HB9.out⟩
  · have d1 : (x.kind == 1) = false := by simp [K1]
    by_cases K2 : x.kind = 2
    · have d2 : (x.kind == 2) = true := by simp [K2]
      have f2 := Y3.out.frozen (j := 2) (by omega)
      obtain ⟨v2, c2⟩ : ∃ v, w3.cell? ⟨w.heap.size + 1, 2, none⟩ = some v := ⟨_, Y3.out.cell (j := 2) (by rw [← HOK.out]; rfl)⟩
      obtain ⟨w4, hw4⟩ : ∃ w4, w3.setCell ⟨w.heap.size + 1, 2, none⟩ (.slice AL nL cL) = w4 := ⟨_, rfl⟩
      have X4 : Hid (Lies w4 w.heap.size 73 ox.cells) := Lib.hid (by rw [← hw4]; exact X3.out.far (by simp) _)
      obtain ⟨oy, hoy⟩ : ∃ o, (Ov.at_ { kOv x.kind with lv := x.lv } ⟨AL, nL, cL⟩ nSl nSl) = o := ⟨_, rfl⟩
      have Y4 : Hid (Lies w4 (w.heap.size + 1) 73 oy.cells) := Lib.hid (by rw [← hw4, ← hoy]; exact by have := Y3.out.set1 2 (.slice AL nL cL); rw [← HOK.out] at this; exact this)
      have HOY := Lib.hid hoy
      clear hoy
      have B4 : Hid (Below w.heap.size w w4) := Lib.hid (by rw [← hw4]; exact HB3.out.setCell (by simp) _)
      have HW4 := Lib.hid hw4
      clear hw4
      have a2 := F3.out.2.2.1
      go_upto_region 10 with fail
      rw [HW4.out]
      go_wp2_with (first
        | ((with_reducible refine ldo (.tmp 1) ?_ ?_ w.heap.size 0 ox ?_ X4.out.rg ?_); rfl; rfl; rfl)
        | ((with_reducible refine ldo (.tmp 3) ?_ ?_ (w.heap.size + 1) 0 oy ?_ Y4.out.rg ?_); rfl; rfl; rfl)
        | fail)
      refine (C.out ({ kOv x.kind with lv := x.lv }) ⟨AL, nL, cL⟩ nSl nSl w4 oy HOY.out (let k := kOv_ok (w := w4) (B := w4.heap.size) kb; ⟨(H3.out.l.below B4.out).more B4.out.size, k.p, k.e, k.kb, k.sb, k.nb, k.ab⟩) B4.out ((if_neg K1).trans (if_pos K2))).mono ?_
      rintro e w9 ⟨rfl, hb9⟩
      have HB9 := Lib.hid hb9
      clear hb9
      go_wp2_with fail
      go_ret
      exact ⟨rfl, HB9.out⟩
    · have d2 : (x.kind == 2) = false := by simp [K2]
      by_cases K3 : x.kind = 3
      · have d3 : (x.kind == 3) = true := by simp [K3]
        obtain ⟨w5, hw5⟩ : ∃ w5, w3.setCells (w.heap.size + 1) 0 ox.cells = w5 := ⟨_, rfl⟩
        have Y5 : Hid (Lies w5 (w.heap.size + 1) 73 ox.cells) := Lib.hid (by rw [← hw5]; exact Y3.out.set_ (of_sz _))
        have X5 : Hid (Lies w5 w.heap.size 73 ox.cells) := Lib.hid (by rw [← hw5]; exact X3.out.other (by omega) _ _)
        have B5 : Hid (Below w.heap.size w w5) := Lib.hid (by rw [← hw5]; exact below_setCells HB3.out (by omega) _ _)
        have HW5 := Lib.hid hw5
        clear hw5
        have T3 := Lib.hid Y3.out.th
        go_upto_region 9 with (first
          | ((with_reducible refine ldo (.tmp 1) ?_ ?_ w.heap.size 0 ox ?_ X3.out.rg ?_); rfl; rfl; rfl)
          | ((with_reducible refine sto (.tmp 3) (.tmp 21) ?_ ?_ (w.heap.size + 1) 0 ox ?_ ?_ T3.out OX.out.1 OX.out.2.1 OX.out.2.2 ?_); rfl; rfl; rfl; rfl)
          | fail)
        rw [HW5.out]
        have f1 := Y5.out.frozen (j := 1) (by omega)
        have f2 := Y5.out.frozen (j := 2) (by omega)
        have G5 := obj_lies (x := x) (AL := AL) (nL := nL) (cL := cL) (AP := AP) (nP := nP) (cP := cP) (AE := AE) (nE := nE) (cE := cE) (by rw [HOX.out]; exact Y5.out)
        have g1 := G5.2.1
        have g2 := G5.2.2.1
        clear G5
        obtain ⟨w4, hw4⟩ : ∃ w4, (w5.setCell ⟨w.heap.size + 1, 1, none⟩ (.string { data := #[] })).setCell ⟨w.heap.size + 1, 2, none⟩ (.slice none 0 0) = w4 := ⟨_, rfl⟩
        have X4 : Hid (Lies w4 w.heap.size 73 ox.cells) := Lib.hid (by rw [← hw4]; exact (X5.out.far (by simp) _).far (by simp) _)
        obtain ⟨oy, hoy⟩ : ∃ o, (Ov.at_ { x with text := ⟨#[]⟩, lv := [] } nSl ⟨AP, nP, cP⟩ ⟨AE, nE, cE⟩) = o := ⟨_, rfl⟩
        have Y4 : Hid (Lies w4 (w.heap.size + 1) 73 oy.cells) := Lib.hid (by rw [← hw4, ← hoy]; exact by have := (Y5.out.set1 1 (.string { data := #[] })).set1 2 (.slice none 0 0); rw [← HOX.out] at this; exact this)
        have HOY := Lib.hid hoy
        clear hoy
        have B4 : Hid (Below w.heap.size w w4) := Lib.hid (by rw [← hw4]; exact (B5.out.setCell (by simp) _).setCell (by simp) _)
        have HW4 := Lib.hid hw4
        clear hw4
        go_upto_region 10 with fail
        rw [HW4.out]
        go_wp2_with (first
          | ((with_reducible refine ldo (.tmp 1) ?_ ?_ w.heap.size 0 ox ?_ X4.out.rg ?_); rfl; rfl; rfl)
          | ((with_reducible refine ldo (.tmp 3) ?_ ?_ (w.heap.size + 1) 0 oy ?_ Y4.out.rg ?_); rfl; rfl; rfl)
          | fail)
        refine (C.out ({ x with text := ⟨#[]⟩, lv := [] }) nSl ⟨AP, nP, cP⟩ ⟨AE, nE, cE⟩ w4 oy HOY.out (let k := (H3.out.below B4.out).more B4.out.size; ⟨Sq.nil_ lf_sz, k.p, k.e, k.kb, k.sb, k.nb, k.ab⟩) B4.out ((if_neg K1).trans ((if_neg K2).trans (if_pos K3)))).mono ?_
        rintro e w9 ⟨rfl, hb9⟩
        have HB9 := Lib.hid hb9
        clear hb9
        go_wp2_with fail
        go_ret
        exact ⟨rfl, HB9.out⟩
      · have d3 : (x.kind == 3) = false := by simp [K3]
        go_upto_region 10 with fail
        go_wp2_with (first
          | ((with_reducible refine ldo (.tmp 1) ?_ ?_ w.heap.size 0 ox ?_ X3.out.rg ?_); rfl; rfl; rfl)
          | ((with_reducible refine ldo (.tmp 3) ?_ ?_ (w.heap.size + 1) 0 ok ?_ Y3.out.rg ?_); rfl; rfl; rfl)
          | fail)
        refine (C.out (kOv x.kind) nSl nSl nSl w3 ok HOK.out (kOv_ok kb) HB3.out ((if_neg K1).trans ((if_neg K2).trans (if_neg K3)))).mono ?_
        rintro e w9 ⟨rfl, hb9⟩
        have HB9 := Lib.hid hb9
        clear hb9
        go_wp2_with fail
        go_ret
        exact ⟨rfl, HB9.out⟩
end Go.Proofs.YtcofkhmgmemkmaaGreatDoor
namespace Go.Proofs.YtcofkhmgmemkmaaGreatDoor
set_option linter.unusedVariables false
set_option linter.unusedSimpArgs false
open Go.RowKit Go.WideShapes Go.ChangeShapes Go.Deep Go.Shelf

theorem own_sq {α : Type} {f : α → List Value} {k : Nat} {w : World} {base : Nat} {e : TypeId} {A : Option Addr} {n c : Nat} {l : List α} (h : w.ownsRow base e k (.slice A n c) n (l.flatMap f)) (hs : ∀ x, (f x).length = k) (hk : 0 < k) : Sq f k w w.heap.size A n c l := by
  have hn : l.length = n := by
    have h1 := h.1
    rw [flat_len hs] at h1
    exact Nat.eq_of_mul_eq_mul_right hk h1
  rcases h.2 with ⟨h2, h3⟩ | ⟨g, cap, cur, h2, hb, hg, hnc, hcm, hcs, htk⟩
  · injection h2 with h4 h5 h6
    subst h3 h4 h6
    obtain rfl := List.eq_nil_of_length_eq_zero hn
    exact Sq.nil_ hs
  · injection h2 with h4 h5 h6
    subst h4 h6
    refine ⟨hn, hnc, hcm, (fun e => by cases e), hs, fun _ => ⟨g, 0, rfl, (Array.getElem?_eq_some_iff.1 hg).1, fun j u hu => ?_⟩⟩
    have := h.cells (g := g) rfl j u hu
    rwa [S3.addr_add] at this

/-- The variable in block b holds a slice v of one's own; of the world V only that block has turned. -/
structure Md (V : World) (b : Nat) (tm e : TypeId) (k : Nat) (v : Value) (n : Nat) (xs : List Value) (W : World) : Prop where
  bx : Boxed W b tm v
  own : W.ownsRow V.heap.size e k v n xs
  mv : Mv (fun x => x = b) V W
  lt : b < V.heap.size
section
variable {V W W' : World} {b : Nat} {tm e : TypeId} {k n : Nat} {v : Value} {xs : List Value}
theorem Md.turn (h : Md V b tm e k v n xs W) {row : Option Nat} (hg : W.grownBy W' row) (hr : ∀ r, row = some r → V.heap.size ≤ r ∧ ∃ o : Obj, W.heap[r]? = some o ∧ o.isCells = false) : Md V b tm e k v n xs W' := by
  refine ⟨h.bx.kept hg (fun e' => ?_), h.own.kept hg ?_, ?_, h.lt⟩
  · have := (hr b e'.symm).1
    have := h.lt
    omega
  · rcases h.own.2 with ⟨rfl, _⟩ | ⟨g, cap, cur, rfl, _, hgb, _⟩
    · exact .inl rfl
    · refine .inr fun e' => ?_
      obtain ⟨_, o, ho, hc⟩ := hr g (by simpa [Value.ownBlock] using e'.symm)
      rw [hgb] at ho; cases ho; cases hc
  · exact h.mv.then (S' := fun x => V.heap.size ≤ x) (Mv.of_grown hg fun g e' => .inl (hr g e').1) (fun x hx => .inr hx)
theorem Md.below (h : Md V b tm e k v n xs W) (hb : Below W.heap.size W W') : Md V b tm e k v n xs W' := h.turn (only_of_below hb none) (fun r e => by cases e)
/-- Behind an append, and the store of what it gives back. -/
theorem Md.app (h : Md V b tm e k v n xs W) {tmp : Obj} {w1 : World} {v' : Value} {m : Nat} {ys : List Value} (hown : w1.ownsRow V.heap.size e k v' m ys) (hg : (W.alloc tmp).grownBy w1 v.ownBlock) :
    Boxed w1 b tm v ∧ Md V b tm e k v' m ys (w1.setCell ⟨b, 0, none⟩ v') ∧ KeepsFrom V.heap.size W (w1.setCell ⟨b, 0, none⟩ v') ∧ Mv (fun x => x = b ∨ V.heap.size ≤ x) W (w1.setCell ⟨b, 0, none⟩ v') := by
  have hge : ∀ g, v.ownBlock = some g → V.heap.size ≤ g := fun g e' => (h.own.lt g e').1
  have hge' : ∀ g, v'.ownBlock = some g → V.heap.size ≤ g := fun g e' => (hown.lt g e').1
  have hlt := h.lt
  have hv1 : Boxed w1 b tm v := (h.bx.alloc tmp).kept hg (fun e' => by have := hge b e'.symm; omega)
  have hmv : Mv (fun x => x = b ∨ V.heap.size ≤ x) W (w1.setCell ⟨b, 0, none⟩ v') := by
    have h1 : Mv (fun x => x = b ∨ V.heap.size ≤ x) W (W.alloc tmp) := (Mv.refl _ _).alloc tmp
    have h2 : Mv (fun x => x = b ∨ V.heap.size ≤ x) (W.alloc tmp) w1 := Mv.of_grown hg fun g e' => .inl (.inr (hge g e'))
    exact (h1.trans h2).set_ (p := ⟨b, 0, none⟩) (.inl (.inl rfl)) v'
  refine ⟨hv1, ⟨hv1.set v', hown.kept (grownBy_setCell' w1 b v') ?_, h.mv.then hmv fun x hx => hx, h.lt⟩, ⟨hmv.size, fun j o hB hj hc => ?_⟩, hmv⟩
  · rcases hq : v'.ownBlock with _ | g
    · exact .inl rfl
    · exact .inr (fun e' => by injection e' with e'; have := hge' g hq; omega)
  · have hjl := (Array.getElem?_eq_some_iff.1 hj).1
    have h1 : (W.alloc tmp).heap[j]? = some o := (Below.heap_alloc W tmp j hjl).trans hj
    have h2 : w1.heap[j]? = some o := (hg.block j (by simp; omega) (fun e' => by
      rcases h.own.2 with ⟨rfl, _⟩ | ⟨g, cap, cur, rfl, _, hgb, _⟩
      · simp [Value.ownBlock] at e'
      · obtain rfl : j = g := by simpa [Value.ownBlock] using e'
        rw [hgb] at hj; cases hj; cases hc)).trans h1
    exact (Below.heap_setCell w1 ⟨b, 0, none⟩ v' j (fun e' => by have e2 : j = b := e'; omega)).trans h2
end
theorem md_own {V : World} {b : Nat} {tm e : TypeId} {k : Nat} {β : Type} (L : β → Nat) (X : β → List Value) : OwnFrom V.heap.size (fun (s : β) W => ∃ v, Md V b tm e k v (L s) (X s) W) := by
  rintro s W W' row ⟨v, h⟩ hg hr
  exact ⟨v, h.turn hg hr⟩

/-- Rows behind one's own: nil, empty or not. -/
theorem wpList_append_sq {α : Type} {f : α → List Value} {k : Nat} {P : Program} {w : World} {ops : Array Oper} {rest : List Oper} {o : Oper} {a : Act} {Q : Exit → Act → World → Prop} (hgd : o.guard = none) (s x : Operand) (t : TypeId)
    (ho : o.op = .call { callee := .builtin .append, args := #[s, x], argTypes := #[t, t] })
    (base : Nat) (e : TypeId) (i : TypeInfo) (z : Value) (bytes : Nat) (ht : P.underlying t = some (.slice e)) (hi : P.info? e = some i) (hz : i.zero = some z) (hsize : i.size = k) (hby : i.bytes = bytes) (hzs : z.cells.size = k) (hk : 0 < k)
    (v : Value) (n : Nat) (l0 : List α) (hs : a.eval s = v) (hown : w.ownsRow base e k v n (l0.flatMap f))
    {B : Nat} {A : Option Addr} {m c : Nat} {l : List α} (hx : a.eval x = .slice A m c) (hr : Sq f k w B A m c l) (h1 : ∀ u ∈ l.flatMap f, u.oneCell' = true) (h63 : n + m ≤ 1000000) (hb : bytes ≤ 1000) (hbase : base ≤ w.heap.size)
    (h : ∀ v' w', w'.ownsRow base e k v' (n + m) ((l0 ++ l).flatMap f) → w.grownBy w' v.ownBlock → wpList P ops Q rest (a.put o.dst v') w') : wpList P ops Q (o :: rest) a w := by
  rcases A with _ | ad
  · obtain rfl : c = 0 := by have := hr.non rfl; omega
    obtain rfl : m = 0 := by have := hr.cap; omega
    obtain rfl : l = [] := List.eq_nil_of_length_eq_zero hr.len
    exact wpList_append_own_none hgd s x t ho base e i k ht hi v n _ hs hown hx (h v w (by simpa using hown) (only_refl _ _))
  · have hc : ∀ j u, (l.flatMap f)[j]? = some u → w.cell? (ad.add j) = some u := by
      intro j u hu
      rcases Nat.eq_zero_or_pos m with h0 | h0
      · subst h0
        obtain rfl : l = [] := List.eq_nil_of_length_eq_zero hr.len
        simp at hu
      · obtain ⟨b, o', e', hlt, hc⟩ := hr.pos h0
        injection e' with e'
        subst e'
        rw [S3.addr_add]
        exact hc j u hu
    refine wpList_append_own w hgd s x t ho base e i z k bytes ht hi hz hsize hby hzs hk v n _ hs hown ad m c (l.flatMap f) hx (by rw [flat_len hr.sz, hr.len]) hc h1 (by unfold maxLen; omega) (Nat.le_trans (Nat.mul_le_mul h63 hb) (by omega)) hbase fun v' w' h2 h3 _ => h v' w' (by rw [List.flatMap_append]; exact h2) h3
theorem own_base {w : World} {base base' : Nat} {e : TypeId} {k : Nat} {v : Value} {n : Nat} {xs : List Value} (h : w.ownsRow base e k v n xs) (hb : base' ≤ base) : w.ownsRow base' e k v n xs := by
  rcases h with ⟨h1, h2 | ⟨g, cap, cur, h2, h3, h4⟩⟩
  · exact ⟨h1, .inl h2⟩
  · exact ⟨h1, .inr ⟨g, cap, cur, h2, Nat.le_trans hb h3, h4⟩⟩
theorem own_shape {w : World} {base : Nat} {e : TypeId} {k : Nat} {v : Value} {n : Nat} {xs : List Value} (h : w.ownsRow base e k v n xs) : ∃ A c, v = .slice A n c := by
  rcases h.2 with ⟨rfl, rfl⟩ | ⟨g, cap, cur, rfl, _⟩
  · exact ⟨none, 0, rfl⟩
  · exact ⟨_, cap, rfl⟩

/-- A literal slice of one. -/
theorem one_of {T E : TypeId} {i0 : TypeInfo} {z : Value} (hu : Tryz.prog.underlying T = some (.slice E)) (hi : Tryz.prog.info? E = some i0) (hz : i0.zero = some z) {k : Nat} (hk : 0 < k) (hk2 : k ≤ 1000) (hz1 : i0.size = k) (hzs : z.cells.size = k) (cs : List Value) (hcl : cs.length = k) (v : Value) (hv : v.cells = cs.toArray) (w : World) :
    (Instr.buildSlice T 1 #[(0, v)]).run Tryz.prog w = .ok (.slice (some ⟨w.heap.size, 0, none⟩) 1 1) (w.alloc (.cells cs.toArray E)) := by
  have hs : v.cells.size = k := by rw [hv]; simpa using hcl
  obtain ⟨x, hr, hrs, hrk⟩ := Great.fill_dense (s := k) hk [v] 0 ((Array.range (1 * i0.size)).map (z.cells[· % z.cells.size]!)) (by intro u hu; simp at hu; subst hu; exact hs) (by rw [hz1]; simp)
  have hre : x = cs.toArray := by
    apply Array.ext_getElem?
    intro j
    rw [hrk j]
    by_cases hj : j < k
    · rw [if_pos ⟨by omega, by simp; omega⟩]
      have h1 : j / k - 0 = 0 := by rw [Nat.div_eq_of_lt hj]
      have h2 : j % k = j := Nat.mod_eq_of_lt hj
      rw [h1, h2]
      simp [hv]
    · rw [if_neg (by simp; omega)]
      rw [Array.getElem?_eq_none (by simp [hz1]; omega), Array.getElem?_eq_none (by simp [hcl]; omega)]
  rw [hre] at hr
  exact run_buildSlice w _ _ 1 _ _ i0 _ hu hi hz (by rw [hz1]; omega) (by rw [hz1]; omega) (by rw [hz1] at hr ⊢; exact hr)
section
variable {ops : Array Oper} {rest : List Oper} {op : Oper} {a : Act} {w : World} {Q : Exit → Act → World → Prop}
theorem oneL {T E : TypeId} {i0 : TypeInfo} {z : Value} (hu : Tryz.prog.underlying T = some (.slice E)) (hi : Tryz.prog.info? E = some i0) (hz : i0.zero = some z) {k : Nat} (hk : 0 < k) (hk2 : k ≤ 1000) (hz1 : i0.size = k) (hzs : z.cells.size = k) (x : Operand) (ho : op.op = .buildSlice T 1 #[(0, x)]) (hw : Region.wanted op (yielded ops a.tmps) = true)
    (cs : List Value) (hcl : cs.length = k) (hx : a.eval x = .agg cs.toArray)
    (h : wpList Tryz.prog ops Q rest (a.put op.dst (.slice (some ⟨w.heap.size, 0, none⟩) 1 1)) (w.alloc (.cells cs.toArray E))) : wpList Tryz.prog ops Q (op :: rest) a w := by
  refine wpList_want hw ?_
  unfold Oper.wp execOp
  simp only [ho, List.map_toArray, List.map_cons, List.map_nil, hx, one_of hu hi hz hk hk2 hz1 hzs cs hcl (.agg cs.toArray) rfl, Sem.run_bind, Result.andThen_ok]
  exact h
end
end Go.Proofs.YtcofkhmgmemkmaaGreatDoor
namespace Go.Proofs.YtcofkhmgmemkmaaGreatDoor
set_option linter.unusedVariables false
set_option linter.unusedSimpArgs false
open Go.RowKit Go.WideShapes Go.ChangeShapes Go.Deep Go.Shelf
attribute [local irreducible] wpQuiet

/-- A leaf's row, without a text. -/
def rowL (x : Lf) : Rw := ⟨x.p, ⟨#[]⟩⟩
def rowsL (l : List Lf) : List Rw := l.map rowL
def treeW (l : List Lf) : Bool := (l.all fun x => !(x.id.b == Idv.zero.b)) && rightR (rowsL l)
theorem treeW_yes {l : List Lf} (h : ∀ j (hj : j < l.length), (l[j].id.b == Idv.zero.b) = false) : treeW l = rightR (rowsL l) := by
  unfold treeW
  rw [show (l.all fun x => !(x.id.b == Idv.zero.b)) = true from by
    rw [List.all_eq_true]
    intro x hx
    obtain ⟨j, hj, rfl⟩ := List.getElem_of_mem hx
    rw [h j hj]
    rfl]
  rfl
theorem treeW_no {l : List Lf} {j : Nat} (hj : j < l.length) (h : (l[j].id.b == Idv.zero.b) = true) : treeW l = false := by
  unfold treeW
  rw [show (l.all fun x => !(x.id.b == Idv.zero.b)) = false from by
    rw [List.all_eq_false]
    exact ⟨l[j], List.getElem_mem hj, by rw [h]; simp⟩]
  rfl
theorem rowsL_step {l : List Lf} {k : Nat} (h : k < l.length) : (rowsL (l.take (k + 1))).flatMap Rw.cells = (rowsL (l.take k)).flatMap Rw.cells ++ (rowL l[k]).cells := by
  unfold rowsL
  rw [List.take_succ_eq_append_getElem h, List.map_append, List.flatMap_append, List.map_cons, List.map_nil, List.flatMap_cons, List.flatMap_nil, List.append_nil]
theorem built_idz : Tryz.prog.built 27 [] = some Idv.zero.cells.toArray := by kernel_rfl
set_option maxRecDepth 100000 in
set_option maxHeartbeats 4000000 in
theorem isTree_any {w : World} {A : Option Addr} {n c : Nat} {l : List Lf} (h : SqL w w.heap.size A n c l) (hn : n ≤ 100000) :
    Calls Tryz.prog 63 #[.slice A n c] w fun e w' => e = .returned (.bool (treeW l)) ∧ Below w.heap.size w w' := by
  obtain ⟨i0, hi, hz, hz1, hz2⟩ := info_parts info_row
  obtain ⟨V, hV⟩ : ∃ V, w.alloc (.cells #[.slice none 0 0] 51) = V := ⟨_, rfl⟩
  have BV : Hid (Below w.heap.size w V) := Lib.hid (by rw [← hV]; exact (Below.refl _ _).alloc (Nat.le_refl _) _)
  have ZV : Hid (V.heap.size = w.heap.size + 1) := Lib.hid (by rw [← hV]; simp)
  have M0 : Hid (Md V w.heap.size 51 48 2 (.slice none 0 0) 0 [] V) := Lib.hid ⟨by rw [← hV]; exact Boxed.new w _ _, ⟨rfl, .inl ⟨rfl, rfl⟩⟩, Mv.refl _ _, by rw [ZV.out]; omega⟩
  have HW := Lib.hid hV
  have HS := Lib.hid h
  have hl := Lib.hid h.len
  clear hV h
  have HB : Hid (∀ W, Mv (fun x => x = w.heap.size) V W → Below w.heap.size w W) := Lib.hid fun W hm => BV.out.trans (hm.below (fun b e => by omega) BV.out.size)
  obtain ⟨tq, htq⟩ : ∃ q, treeW l = q := ⟨_, rfl⟩
  have HTQ := Lib.hid htq
  rw [htq]
  clear htq
  go_enter Tryz.func63, Tryz.ntmps63
  go_upto_region 2 with fail
  rw [HW.out]
  go_wp2_with fail
  go_loopw [8] (fun i wr => ∃ k : Nat, k ≤ n ∧ i = .int .i64 (k : Int) ∧ Hid (∀ j (hk : j < k) (hj : j < l.length), (l[j].id.b == Idv.zero.b) = false) ∧ Hid (∃ v, Md V w.heap.size 51 48 2 v k ((rowsL (l.take k)).flatMap Rw.cells) wr)) (fun i _ => n - (intOf i).toNat)
  case atStart => exact ⟨0, Nat.zero_le _, rfl, Lib.hid (fun j hj => absurd hj (by omega)), Lib.hid ⟨_, M0.out⟩⟩
  case round =>
    obtain ⟨k, hk, rfl, hg, hmd⟩ := hrel
    obtain ⟨v, md⟩ := hmd.out
    have MD := Lib.hid md
    have BB : Hid (Below w.heap.size w wr) := Lib.hid (HB.out wr md.mv)
    clear hmd md
    by_cases hlt : k < n
    · have hd : decide ((k : Int) < (n : Int)) = true := by simp; omega
      have hk0 : (0 : Int) ≤ (k : Int) := Int.natCast_nonneg _
      have hk1 : (k : Int) < (n : Int) := by omega
      obtain ⟨b, o, rfl, hbl, hrg⟩ := (HS.out.below BB.out).at_ hlt
      have hkl : k < l.length := by rw [hl.out]; exact hlt
      have HST := Lib.hid (rowsL_step hkl)
      obtain ⟨r, hr⟩ : ∃ r, l[k] = r := ⟨_, rfl⟩
      rw [hr] at hrg HST
      obtain ⟨wA, hwA⟩ : ∃ wA, wr.alloc (.cells zLf.cells.toArray 68) = wA := ⟨_, rfl⟩
      have YA : Lies wA wr.heap.size 33 zLf.cells := by
        rw [← hwA]
        have := Lies.new wr zLf.cells 68
        rwa [lf_sz] at this
      obtain ⟨w5, hw5⟩ : ∃ w5, wA.setCells wr.heap.size 0 r.cells = w5 := ⟨_, rfl⟩
      have Y5 : Hid (Lies w5 wr.heap.size 33 r.cells) := Lib.hid (by rw [← hw5]; exact YA.set_ (lf_sz _))
      have C5 : Below wr.heap.size wr w5 := by rw [← hw5, ← hwA]; exact below_setCells ((Below.refl _ _).alloc (Nat.le_refl _) _) (Nat.le_refl _) _ _
      have MD5 := Lib.hid (MD.out.below C5)
      have B5 : Hid (Below w.heap.size w w5) := Lib.hid (HB.out w5 MD5.out.mv)
      have HWA := Lib.hid hwA
      have HW5 := Lib.hid hw5
      have TA := Lib.hid YA.th
      have HRG := Lib.hid hrg
      clear hwA hw5 YA C5 hrg
      have r0 : w5.cell? ⟨wr.heap.size, 0, none⟩ = some (.string r.p) := Y5.out.cell rfl
      have R1 : Hid (w5.rangeAt wr.heap.size 1 r.id.cells) := Lib.hid (by
        have := Y5.out.rg
        unfold Lf.cells at this
        rw [show (Value.string r.p :: S3.bvs r.id.b) = [Value.string r.p] ++ S3.bvs r.id.b from rfl, rangeAt_app] at this
        exact this.2)
      have m0 := MD5.out.bx.cell
      have m1 := MD5.out.bx.frozen
      have hq0 : ∀ w, (Op.equalIn 10000 27 (.agg (S3.bvs r.id.b).toArray) (.agg #[.int .u8 0, .int .u8 0, .int .u8 0, .int .u8 0, .int .u8 0, .int .u8 0, .int .u8 0, .int .u8 0, .int .u8 0, .int .u8 0, .int .u8 0, .int .u8 0, .int .u8 0, .int .u8 0, .int .u8 0, .int .u8 0, .int .u8 0, .int .u8 0, .int .u8 0, .int .u8 0, .int .u8 0, .int .u8 0, .int .u8 0, .int .u8 0, .int .u8 0, .int .u8 0, .int .u8 0, .int .u8 0, .int .u8 0, .int .u8 0, .int .u8 0, .int .u8 0])).run Tryz.prog w = .ok (r.id.b == Idv.zero.b) w := fun w => eq_id r.id Idv.zero w
      obtain ⟨q, hq⟩ : ∃ q, (r.id.b == Idv.zero.b) = q := ⟨_, rfl⟩
      rw [hq] at hq0
      have NO : Hid (q = true → tq = false) := Lib.hid (fun h1 => by rw [← HTQ.out]; exact treeW_no hkl (by rw [hr, hq]; exact h1))
      have YES : Hid (q = false → ∀ j (hk : j < k + 1) (hj : j < l.length), (l[j].id.b == Idv.zero.b) = false) := Lib.hid (fun h1 j hjk hj => by
        by_cases e : j = k
        · subst e; rw [hr, hq]; exact h1
        · exact hg.out j (by omega) hj)
      clear hr hq
      go_upto_region 5 with (first
        | ((with_reducible refine ldl (.tmp 10) ?_ ?_ b (o + k * 33) r ?_ HRG.out ?_); rfl; rfl; (first | rfl | go_simp))
        | ((with_reducible refine alt 68 ?_ ?_ zLf.cells zero_lf ?_); rfl; rfl; rw [HWA.out]; (try simp only [Act.put, List.setIfInBounds_toArray, List.set_cons_succ, List.set_cons_zero]))
        | ((with_reducible refine stl (.tmp 5) (.tmp 11) ?_ ?_ wr.heap.size 0 r ?_ ?_ TA.out ?_); rfl; rfl; rfl; rfl; rw [HW5.out])
        | fail)
      cases q
      · go_wp2_with (first
          | ((with_reducible refine ldi (.tmp 12) ?_ ?_ wr.heap.size 1 r.id ?_ R1.out ?_); rfl; rfl; rfl)
          | ((with_reducible refine oneL Tryz.underlying49 hi hz (k := 2) (by omega) (by omega) hz1 rfl (.tmp 20) ?_ ?_ (rowL r).cells rfl ?_ ?_); rfl; rfl; rfl; (try simp only [Act.put, List.setIfInBounds_toArray, List.set_cons_succ, List.set_cons_zero]))
          | (at_builtin; refine wpList_append_own (w5.alloc (.cells (rowL r).cells.toArray 48)) rfl (.tmp 17) (.tmp 21) 49 rfl V.heap.size 48 i0 (rwV ⟨⟨#[]⟩, ⟨#[]⟩⟩) 2 32 Tryz.underlying49 hi hz hz1 hz2 rfl (by omega) v k ((rowsL (l.take k)).flatMap Rw.cells) rfl (MD5.out.own.alloc _) ⟨w5.heap.size, 0, none⟩ 1 1 (rowL r).cells rfl rfl (World.news_of_block (heap_alloc_new w5 _)) (by intro u hu; exact rw_one [rowL r] u (by simpa using hu)) (by unfold maxLen; omega) (by omega) (by have := MD5.out.mv.size; simp; omega) ?_; intro v' w1 hown5 hg5 _; obtain ⟨A5, c5, hv5⟩ := own_shape hown5; subst v'; have APP := Lib.hid (MD5.out.app (W := w5) (tmp := .cells (rowL r).cells.toArray 48) hown5 hg5); have x0 := APP.out.1.cell; have x1 := APP.out.1.frozen; clear hown5 hg5)
          | fail)
        go_roundw
        case rel => exact ⟨k + 1, by omega, by go_num, Lib.hid (YES.out rfl), Lib.hid ⟨_, by rw [HST.out]; exact APP.out.2.1⟩⟩
        case measure => simp [intOf]; omega
      · have e := NO.out rfl
        subst e
        go_wp2_with (first
          | ((with_reducible refine ldi (.tmp 12) ?_ ?_ wr.heap.size 1 r.id ?_ R1.out ?_); rfl; rfl; rfl)
          | fail)
        go_ret
        exact ⟨rfl, B5.out⟩
    · have hd : decide ((k : Int) < (n : Int)) = false := by simp; omega
      obtain rfl : k = n := by omega
      have etk : l.take k = l := List.take_of_length_le (by rw [hl.out]; exact Nat.le_refl _)
      obtain ⟨A5, c5, rfl⟩ := own_shape MD.out.own
      have own := MD.out.own
      rw [etk] at own
      have HC := Lib.hid (Check_any (own_sq own rw_sz (by omega)) (by omega))
      have HTR := Lib.hid (treeW_yes fun j hj => hg.out j (by rw [hl.out] at hj; exact hj) hj)
      have m0 := MD.out.bx.cell
      clear own
      go_wp2_with fail
      refine HC.out.mono ?_
      rintro e w9 ⟨rfl, hb9⟩
      have HB9 := Lib.hid (BB.out.trans (hb9.mono BB.out.size))
      have HQ := HTQ.out
      rw [HTR.out] at HQ
      have HQ9 := Lib.hid HQ
      clear hb9 HQ
      obtain ⟨rq, hrq⟩ : ∃ q, rightR (rowsL l) = q := ⟨_, rfl⟩
      rw [hrq] at HQ9
      rw [hrq]
      clear hrq
      cases rq
      · simp only [Bool.false_eq_true, if_false]
        go_wp2_with fail
        go_ret
        exact ⟨by rw [← HQ9.out]; rfl, HB9.out⟩
      · simp only [if_true]
        go_wp2_with fail
        go_ret
        exact ⟨by rw [← HQ9.out]; rfl, HB9.out⟩
end Go.Proofs.YtcofkhmgmemkmaaGreatDoor
