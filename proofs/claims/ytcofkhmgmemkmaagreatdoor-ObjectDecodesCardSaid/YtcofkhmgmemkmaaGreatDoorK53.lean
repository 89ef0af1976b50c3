/-
  STAGE 6's STATEMENTS: spoil writes over an object's lists, and over nothing else.
  STAGE 6's LAW ObjectDecodes: the walk.
-/
import Derived.Test.YtcofkhmgmemkmaaGreatDoorK52
import Derived.Test.YtcofkhmgmemkmaaGreatDoorK43
import Derived.Test.YtcofkhmgmemkmaaGreatDoorK51
import Derived.Test.YtcofkhmgmemkmaaGreatDoorK37
import Derived.Deep.CutBlock
namespace Go.Proofs.YtcofkhmgmemkmaaGreatDoor
set_option linter.unusedVariables false
set_option linter.unusedSimpArgs false
open Go.RowKit Go.WideShapes Go.ChangeShapes Go.Deep Go.Shelf
attribute [local irreducible] wpQuiet

theorem cells_lies2 {W : World} {g : Nat} {cur : Array Value} {e : TypeId} (h : W.heap[g]? = some (.cells cur e (0, 0))) : Lies W g cur.size cur.toList := by
  refine ⟨fun j u hu => ?_, fun j hj => ?_, (Array.getElem?_eq_some_iff.1 h).1, by simp⟩
  · rw [Nat.zero_add]
    simp only [World.cell?, h]
    simpa using hu
  · rw [Nat.zero_add]
    simp [World.cell?, World.frozen?, h, hj]
theorem Lies.part_there2 {W : World} {b k : Nat} {l : List Value} (h : Lies W b k l) (o n : Nat) (hle : o + n ≤ k) : W.there b o n := fun j hj => by
  have := h.th (o + j) (by omega)
  rwa [Nat.zero_add] at this
theorem szd_setCell {w : World} {b o : Nat} {v : Value} {cs : Array Value} {t : TypeId} {f : Nat × Nat} (h : w.heap[b]? = some (.cells cs t f)) : ∃ cs', (w.setCell ⟨b, o, none⟩ v).heap[b]? = some (.cells cs' t f) ∧ cs'.size = cs.size := by
  simp [World.setCell, Array.getElem?_modify, h]
theorem szd_setCells {b : Nat} {t : TypeId} {f : Nat × Nat} : ∀ (vs : List Value) (o : Nat) (w : World) (cs : Array Value), w.heap[b]? = some (.cells cs t f) → ∃ cs', (w.setCells b o vs).heap[b]? = some (.cells cs' t f) ∧ cs'.size = cs.size
  | [], _, w, cs, h => ⟨cs, h, rfl⟩
  | v :: r, o, w, cs, h => by
    obtain ⟨cs', h', e⟩ := szd_setCell (o := o) (v := v) h
    obtain ⟨cs2, h2, e2⟩ := szd_setCells r (o + 1) _ cs' h'
    exact ⟨cs2, h2, e2.trans e⟩
/-- A row that may be written. -/
def Wk (W : World) (base X k : Nat) (e : TypeId) (A : Option Addr) (n : Nat) : Prop := 0 < n → ∃ g cur, A = some ⟨g, 0, none⟩ ∧ base ≤ g ∧ g < X ∧ W.heap[g]? = some (.cells cur e (0, 0)) ∧ n * k ≤ cur.size
theorem Wk.of {w : World} {base k n c : Nat} {e : TypeId} {A : Option Addr} {xs : List Value} (h : w.ownsRow base e k (.slice A n c) n xs) : Wk w base w.heap.size k e A n := fun hn => by
  obtain ⟨_, ⟨_, e⟩ | ⟨g, cap, cur, hv, hg, hh, h1, _, hc, _⟩⟩ := h
  · omega
  · injection hv with hv
    exact ⟨g, cur, hv, hg, (Array.getElem?_eq_some_iff.1 hh).1, hh, by rw [hc]; exact Nat.mul_le_mul_right k h1⟩
theorem Wk.below {W W' : World} {base X k n : Nat} {e : TypeId} {A : Option Addr} (h : Wk W base X k e A n) (hb : Below X W W') : Wk W' base X k e A n := fun hn => by
  obtain ⟨g, cur, e1, h1, h2, h3, h4⟩ := h hn
  exact ⟨g, cur, e1, h1, h2, (hb.block g h2).trans h3, h4⟩
theorem Wk.set {W : World} {base X k n : Nat} {e : TypeId} {A : Option Addr} (h : Wk W base X k e A n) (b o : Nat) (vs : List Value) : Wk (W.setCells b o vs) base X k e A n := fun hn => by
  obtain ⟨g, cur, e1, h1, h2, h3, h4⟩ := h hn
  by_cases hg : g = b
  · subst hg
    obtain ⟨c2, h5, h6⟩ := szd_setCells vs o W cur h3
    exact ⟨g, c2, e1, h1, h2, h5, by omega⟩
  · exact ⟨g, cur, e1, h1, h2, ((setCells_os b vs o W).2.2.2.2 g (by simpa using hg)).trans h3, h4⟩
structure Sp (w : World) (base X : Nat) (xo : Of) (AL : Option Addr) (nL : Nat) (AP : Option Addr) (nP : Nat) (AE : Option Addr) (nE : Nat) (W : World) : Prop where
  b : Below base w W
  t : Lies W X 73 xo.cells
  l : Wk W base X 33 68 AL nL
  p : Wk W base X 32 27 AP nP
  e : Wk W base X 3 71 AE nE
theorem Sp.set {w W : World} {base X nL nP nE : Nat} {xo : Of} {AL AP AE : Option Addr} (h : Sp w base X xo AL nL AP nP AE nE W) {g : Nat} (h1 : base ≤ g) (h2 : g < X) (o : Nat) (vs : List Value) : Sp w base X xo AL nL AP nP AE nE (W.setCells g o vs) :=
  ⟨below_setCells h.b h1 _ _, h.t.other (by omega) _ _, h.l.set _ _ _, h.p.set _ _ _, h.e.set _ _ _⟩
set_option maxRecDepth 100000 in
set_option maxHeartbeats 8000000 in
theorem spoil_any {w : World} {base : Nat} {x : Ov} {L P E : Sl} (h : OwnO w base x L P E) (hb : base ≤ w.heap.size) (hl : Lim L P E) :
    Calls Tryz.prog 9 #[ofV (x.at_ L P E)] w fun e w' => e = .returned (.tuple #[]) ∧ Below base w w' := by
  obtain ⟨AL, nL, cL⟩ := L
  obtain ⟨AP, nP, cP⟩ := P
  obtain ⟨AE, nE, cE⟩ := E
  have hnL : nL ≤ 100000 := hl.l
  have hnP : nP ≤ 100000 := hl.p
  have hnE : nE ≤ 100000 := hl.e
  have hL0 : (0 : Int) ≤ (nL : Int) := Int.natCast_nonneg _
  have hP0 : (0 : Int) ≤ (nP : Int) := Int.natCast_nonneg _
  have hE0 : (0 : Int) ≤ (nE : Int) := Int.natCast_nonneg _
  obtain ⟨xo, hxo⟩ : ∃ o, x.at_ ⟨AL, nL, cL⟩ ⟨AP, nP, cP⟩ ⟨AE, nE, cE⟩ = o := ⟨_, rfl⟩
  obtain ⟨X, hX⟩ : ∃ X, w.heap.size = X := ⟨_, rfl⟩
  obtain ⟨w1, hw1⟩ : ∃ w1, w.alloc (.cells xo.cells.toArray 34) = w1 := ⟨_, rfl⟩
  have S1 : Hid (Sp w base X xo AL nL AP nP AE nE w1) := Lib.hid (by
    have bb : Below X w w1 := by rw [← hw1, ← hX]; exact (Below.refl _ _).alloc (Nat.le_refl _) _
    have lX : Lies w1 X 73 xo.cells := by
      rw [← hw1, ← hX]
      have := Lies.new w xo.cells 34
      rwa [of_sz] at this
    have l1 := Wk.of h.l
    have l2 := Wk.of h.p
    have l3 := Wk.of h.e
    rw [hX] at l1 l2 l3
    exact ⟨bb.mono (by omega), lX, l1.below bb, l2.below bb, l3.below bb⟩)
  have CC : Hid (∀ W, Sp w base X xo AL nL AP nP AE nE W → W.cell? ⟨X, 2, none⟩ = some (.slice AL nL cL) ∧ W.cell? ⟨X, 68, none⟩ = some (.slice AP nP cP) ∧ W.cell? ⟨X, 69, none⟩ = some (.slice AE nE cE)) := Lib.hid fun W hW => by
    have := hW.t
    rw [← hxo] at this
    obtain ⟨_, _, c2, _, _, _, c6, c7, _⟩ := obj_lies this
    exact ⟨c2, c6, c7⟩
  have HW1 := Lib.hid hw1
  obtain ⟨zI, hzI⟩ : ∃ z, Idv.zero = z := ⟨_, rfl⟩
  have ZB : Hid (Tryz.prog.built 27 [] = some zI.cells.toArray) := Lib.hid (by rw [← hzI]; exact zb_id)
  rw [hxo]
  clear hw1 hxo h hl hzI hb
  go_enter Tryz.func9, Tryz.ntmps9
  go_upto_region 1 with fail
  rw [HW1.out]
  (try rw [hX])
  clear HW1 hX
  have c2 := (CC.out _ S1.out).1
  go_wp2_with fail
  go_loopw [8] (fun i wr => ∃ j : Nat, j ≤ nL ∧ i = .int .i64 (j : Int) ∧ Hid (Sp w base X xo AL nL AP nP AE nE wr)) (fun i _ => nL - (intOf i).toNat)
  case atStart => exact ⟨0, Nat.zero_le _, rfl, S1⟩
  case round =>
    obtain ⟨j, hj, rfl, hsp⟩ := hrel
    by_cases hlt : j < nL
    · have hd : decide ((j : Int) < (nL : Int)) = true := by simp; omega
      have hj0 : (0 : Int) ≤ (j : Int) := Int.natCast_nonneg _
      have hj1 : (j : Int) < (nL : Int) := by omega
      have cc := (CC.out _ hsp.out).1
      obtain ⟨g, cur, rfl, h1, h2, h3, h4⟩ := hsp.out.l (by omega)
      have CL := cells_lies2 h3
      have cj := CL.cell (j := j * 33) (v := cur.toList[j * 33]'(by simp; omega)) (List.getElem?_eq_getElem _)
      have fj := CL.frozen (j := j * 33) (by omega)
      clear CL h3
      have DS := Lib.hid (hsp.out.set h1 h2 (j * 33) [.string ⟨#[63]⟩])
      go_wp2_with fail
      go_roundw
      case rel => exact ⟨j + 1, by omega, by go_num, DS⟩
      case measure => simp [intOf]; omega
    · have hd : decide ((j : Int) < (nL : Int)) = false := by simp; omega
      obtain ⟨w2, h2⟩ : ∃ wo : World, wo = wr := ⟨_, rfl⟩
      rw [← h2] at hsp ⊢
      clear h2 hd
      have c3 := (CC.out _ hsp.out).2.1
      go_wp2_with fail
      go_loopw [20] (fun i wr => ∃ j : Nat, j ≤ nP ∧ i = .int .i64 (j : Int) ∧ Hid (Sp w base X xo AL nL AP nP AE nE wr)) (fun i _ => nP - (intOf i).toNat)
      case atStart => exact ⟨0, Nat.zero_le _, rfl, hsp⟩
      case round =>
        obtain ⟨j, hj, rfl, hsp⟩ := hrel
        by_cases hlt : j < nP
        · have hd : decide ((j : Int) < (nP : Int)) = true := by simp; omega
          have hj0 : (0 : Int) ≤ (j : Int) := Int.natCast_nonneg _
          have hj1 : (j : Int) < (nP : Int) := by omega
          have cc := (CC.out _ hsp.out).2.1
          obtain ⟨g, cur, rfl, h1, h2, h3, h4⟩ := hsp.out.p (by omega)
          have CL := cells_lies2 h3
          have TH : Hid (wr.there g (0 + j * 32) 32) := Lib.hid (CL.part_there2 _ _ (by omega))
          clear CL h3
          have DS := Lib.hid (hsp.out.set h1 h2 (j * 32) zI.cells)
          go_wp2_with (first
            | ((with_reducible refine bdt 27 [] ?_ ?_ zI.cells.toArray ?_ ?_); rfl; (first | rfl | go_simp); exact ZB.out)
            | ((with_reducible refine sti (.tmp 27) (.tmp 26) ?_ ?_ g (0 + j * 32) zI ?_ ?_ TH.out ?_); rfl; rfl; (first | rfl | go_simp); (first | rfl | go_simp))
            | fail)
          go_roundw
          case rel => exact ⟨j + 1, by omega, by go_num, DS⟩
          case measure => simp [intOf]; omega
        · have hd : decide ((j : Int) < (nP : Int)) = false := by simp; omega
          obtain ⟨w3, h3⟩ : ∃ wo : World, wo = wr := ⟨_, rfl⟩
          rw [← h3] at hsp ⊢
          clear h3 hd
          have c4 := (CC.out _ hsp.out).2.2
          go_wp2_with fail
          go_loopw [33] (fun i wr => ∃ j : Nat, j ≤ nE ∧ i = .int .i64 (j : Int) ∧ Hid (Sp w base X xo AL nL AP nP AE nE wr)) (fun i _ => nE - (intOf i).toNat)
          case atStart => exact ⟨0, Nat.zero_le _, rfl, hsp⟩
          case round =>
            obtain ⟨j, hj, rfl, hsp⟩ := hrel
            by_cases hlt : j < nE
            · have hd : decide ((j : Int) < (nE : Int)) = true := by simp; omega
              have hj0 : (0 : Int) ≤ (j : Int) := Int.natCast_nonneg _
              have hj1 : (j : Int) < (nE : Int) := by omega
              have cc := (CC.out _ hsp.out).2.2
              obtain ⟨g, cur, rfl, h1, h2, h3, h4⟩ := hsp.out.e (by omega)
              have CL := cells_lies2 h3
              have cj := CL.cell (j := j * 3) (v := cur.toList[j * 3]'(by simp; omega)) (List.getElem?_eq_getElem _)
              have fj := CL.frozen (j := j * 3) (by omega)
              clear CL h3
              have DS := Lib.hid (hsp.out.set h1 h2 (j * 3) [.string ⟨#[63]⟩])
              go_wp2_with fail
              go_roundw
              case rel => exact ⟨j + 1, by omega, by go_num, DS⟩
              case measure => simp [intOf]; omega
            · have hd : decide ((j : Int) < (nE : Int)) = false := by simp; omega
              obtain ⟨w4, h4⟩ : ∃ wo : World, wo = wr := ⟨_, rfl⟩
              rw [← h4] at hsp ⊢
              clear h4 hd
              go_wp2_with fail
              go_end0
              exact ⟨rfl, hsp.out.b⟩
end Go.Proofs.YtcofkhmgmemkmaaGreatDoor
namespace Go.Proofs.YtcofkhmgmemkmaaGreatDoor
set_option linter.unusedVariables false
set_option linter.unusedSimpArgs false
open Go.RowKit Go.WideShapes Go.ChangeShapes Go.Deep Go.Shelf
attribute [local irreducible] wpQuiet

/-- A row of rows of bytes that came in. -/
def InB (W : World) : Type := { v : Value // ∃ A n c l, v = .slice A n c ∧ S3.SlB W W.heap.size A n c l }
theorem cells_bs : Tryz.prog.cellsOf 24 = 1 := by kernel_rfl
theorem rows_arg6 {H : Type} {enc : TypeId × Value → H} {W : World} {fuel : Nat} {v : Value} {x : DataW H × List MemPlace} (hf : DataW.trod enc Tryz.prog W 0 (fun _ => true) true fuel 22 [v] = some x) :
    ∃ A n c l, v = .slice A n c ∧ Sq (fun o : InB W => [o.1]) 1 W W.heap.size A n c l :=
  slice_arg (fun o : InB W => [o.1]) 1 (by omega) (fun _ => rfl) Tryz.underlying22 cells_bs hf fun n cs y hcl h => by
    obtain ⟨v, rfl⟩ : ∃ v, cs = [v] := List.length_eq_one_iff.1 hcl
    rcases open_ints Tryz.underlying24 Tryz.underlying5 (by kernel_rfl) h with ⟨hcs, _⟩ | ⟨x, l, c, zs, hcs, _, hl, hm, hz, _, hcell, hwz⟩
    · injection hcs with hcs
      exact ⟨⟨v, none, 0, 0, [], hcs, S3.SlB.nil_⟩, rfl⟩
    · injection hcs with hcs
      obtain ⟨l', s⟩ := S3.sl_arg hl hm (by simpa using hz) hcell hwz
      exact ⟨⟨v, _, _, _, l', hcs, s⟩, rfl⟩
set_option maxRecDepth 100000 in
set_option maxHeartbeats 16000000 in
theorem dec_walk {w : World} {A : Option Addr} {n c : Nat} {l : List (InB w)} (h : Sq (fun o : InB w => [o.1]) 1 w w.heap.size A n c l) (hg : S3.GK w) :
    Calls Tryz.prog 3 #[.slice A n c] w fun e w' => e = .returned (.bool true) ∧ Below w.heap.size w w' := by
  have h00 := hg.lt
  have HG := Lib.hid hg
  have HLE := Lib.hid h.len
  have HS : Hid (∀ W, Below w.heap.size w W → Sq (fun o : InB w => [o.1]) 1 W w.heap.size A n c l) := Lib.hid fun W hW => h.below hW
  have HN : Hid (n ≤ maxLen) := Lib.hid (Nat.le_trans h.cap h.max)
  have hn63 : n ≤ 9223372036854775807 := by have := HN.out; unfold maxLen at this; omega
  obtain ⟨zz, hzz⟩ : ∃ z, zOf = z := ⟨_, rfl⟩
  have ZO : Hid (∀ w : World, (zeroValue 34).run Tryz.prog w = .ok (.agg zz.cells.toArray) w) := Lib.hid (by rw [← hzz]; exact zero_of)
  clear h hg hzz
  go_enter Tryz.func3, Tryz.ntmps3
  go_wp2_with fail
  refine (owakes_any HG.out).mono ?_
  rintro e w1 ⟨rfl, hb1⟩
  dsimp only
  have B1 := Lib.hid hb1
  clear hb1
  go_wp2_with fail
  go_loopw [16] (fun i wr => ∃ k : Nat, k ≤ n ∧ i = .int .i64 (k : Int) ∧ Hid (Below w.heap.size w wr)) (fun i _ => n - (intOf i).toNat)
  case atStart => exact ⟨0, Nat.zero_le _, rfl, B1⟩
  case round =>
    obtain ⟨k, hk, rfl, hlo⟩ := hrel
    by_cases hlt : k < n
    · have hd : decide ((k : Int) < (n : Int)) = true := by simp; omega
      have hk0 : (0 : Int) ≤ (k : Int) := Int.natCast_nonneg _
      have hk1 : (k : Int) < (n : Int) := by omega
      obtain ⟨b, o, rfl, hbl, hrg⟩ := (HS.out wr hlo.out).at_ hlt
      have hkl : k < l.length := by rw [HLE.out]; exact hlt
      obtain ⟨Ax, nx, cx, lx, hvx, hsx⟩ := l[k].2
      have cel : wr.cell? ⟨b, o + k, none⟩ = some (.slice Ax nx cx) := by
        have := hrg 0 (l[k]).1 rfl
        rw [hvx] at this
        simpa using this
      have SX : Hid (∀ W, Below w.heap.size w W → S3.SlB W W.heap.size Ax nx cx lx) := Lib.hid fun W hW => (hsx.below hW).more hW.size
      have hnc : nx ≤ cx := hsx.cap
      have hcm : cx ≤ 9223372036854775807 := by have := hsx.max; unfold maxLen at this; omega
      clear hrg hvx hsx
      obtain ⟨wR, hwR⟩ : ∃ v, wr = v := ⟨_, rfl⟩
      rw [hwR] at hlo cel ⊢
      clear hwR
      go_upto_region 6 with fail
      by_cases h16 : k = 16
      · subst h16
        go_wp2_with fail
        go_ret
        exact ⟨rfl, hlo.out⟩
      have d16 : ((k : Int) == 16) = false := by simp; omega
      obtain ⟨m, hm⟩ : ∃ m : Nat, min nx 1000 = m := ⟨_, rfl⟩
      have hmi : min (nx : Int) 1000 = (m : Int) := by omega
      have hm0 : (0 : Int) ≤ (m : Int) := Int.natCast_nonneg _
      have hmx : m ≤ nx := by omega
      have hm1 : m ≤ 1000 := by omega
      have hmc : m ≤ cx := by omega
      have hmc' : (m : Int) ≤ (cx : Int) := by omega
      obtain ⟨i0, hi, hz, hz1, hz2⟩ := info_parts S3.info_u8
      obtain ⟨wL, hwL⟩ : ∃ v, wR.alloc (.cells #[] 5) = v := ⟨_, rfl⟩
      have own0 : wL.ownsRow wR.heap.size 5 1 (.slice (some ⟨wR.heap.size, 0, none⟩) 0 0) 0 (S3.bvs []) := by
        rw [← hwL]
        exact World.ownsRow_made (base := wR.heap.size) (e := 5) (size := 1) wR #[] 0 (Nat.le_refl _) (Nat.zero_le _) rfl
      have b2L : Below wR.heap.size wR wL := by rw [← hwL]; exact (Below.refl _ _).alloc (Nat.le_refl _) _
      have BL := Lib.hid (hlo.out.trans (b2L.mono hlo.out.size))
      have TL := Lib.hid ((SX.out wL BL.out).take hmx)
      have OL := Lib.hid own0
      have zL := b2L.size
      have HWL := Lib.hid hwL
      have HLO := Lib.hid hlo.out.size
      clear own0 b2L hwL hm
      go_upto_region 8 with (first
        | (at_builtin; rw [HWL.out]; refine S3.wpList_append_sl rfl (.tmp 23) (.tmp 28) 24 rfl wR.heap.size 5 i0 Tryz.underlying24 hi hz hz1 hz2 _ 0 [] rfl OL.out rfl TL.out (by omega) zL ?_; intro va wa howna hga; rw [Nat.zero_add, List.nil_append] at howna; obtain ⟨Aa, ca, rfl⟩ := S3.own_form howna; have Ba := Lib.hid (BL.out.grown hga (by have := HLO.out; omega) (fun g e => by have := (OL.out.lt g e).1; have := HLO.out; omega)); have OA := Lib.hid howna; clear howna hga)
        | fail)
      obtain ⟨lb, hlb⟩ : ∃ v, lx.take m = v := ⟨_, rfl⟩
      rw [hlb] at OA
      have SA : Hid (S3.SlB wa wa.heap.size Aa m ca lb) := Lib.hid (OwnB.sl OA.out)
      clear hlb TL OL HWL zL SX OA cel
      obtain ⟨wM, hwM⟩ : ∃ v, wa.alloc (.cells #[] 5) = v := ⟨_, rfl⟩
      have own1 : wM.ownsRow wa.heap.size 5 1 (.slice (some ⟨wa.heap.size, 0, none⟩) 0 0) 0 (S3.bvs []) := by
        rw [← hwM]
        exact World.ownsRow_made (base := wa.heap.size) (e := 5) (size := 1) wa #[] 0 (Nat.le_refl _) (Nat.zero_le _) rfl
      have baM : Below wa.heap.size wa wM := by rw [← hwM]; exact (Below.refl _ _).alloc (Nat.le_refl _) _
      have BM := Lib.hid baM
      have TM := Lib.hid ((SA.out.below baM).more baM.size)
      have OM := Lib.hid own1
      have zM := baM.size
      have HWM := Lib.hid hwM
      clear own1 baM hwM
      go_upto_region 9 with (first
        | (at_builtin; rw [HWM.out]; refine S3.wpList_append_sl rfl (.tmp 30) (.tmp 31) 24 rfl wa.heap.size 5 i0 Tryz.underlying24 hi hz hz1 hz2 _ 0 [] rfl OM.out rfl TM.out (by omega) zM ?_; intro vb wb hownb hgb; rw [Nat.zero_add, List.nil_append] at hownb; obtain ⟨Ab, cb, rfl⟩ := S3.own_form hownb; have Bab := Lib.hid (BM.out.grown hgb zM (fun g e => (OM.out.lt g e).1)); have SB2 := Lib.hid (OwnB.sl hownb); clear hownb hgb)
        | fail)
      have SB1 := Lib.hid ((SA.out.below Bab.out).more Bab.out.size)
      have Bb := Lib.hid (Ba.out.trans (Bab.out.mono Ba.out.size))
      clear SA TM OM HWM zM BM Bab Ba BL
      obtain ⟨D, hD⟩ : ∃ v, (decW lb).1 = v := ⟨_, rfl⟩
      obtain ⟨er, her⟩ : ∃ v, (decW lb).2 = v := ⟨_, rfl⟩
      have CD : Hid (∀ W, Below wb.heap.size wb W → Calls Tryz.prog 5 #[.slice Aa m ca] W fun x w' => (∃ v, x = .returned (.tuple #[v, .int .i64 er]) ∧ ObjRes2 v D W.heap.size w') ∧ Below W.heap.size W w') := Lib.hid fun W hW => by
        rw [← hD, ← her]
        exact Decode_own ((SB1.out.below hW).more hW.size) (by omega)
      have CR : Hid (∀ W, Below wb.heap.size wb W → Calls Tryz.prog 6 #[.slice Ab m cb] W fun x w' => (∃ v, x = .returned (.tuple #[v, .int .i64 er]) ∧ ObjRes v D w') ∧ Below W.heap.size W w') := Lib.hid fun W hW => by
        have := rdec_any ((SB2.out.below hW).more hW.size) (by omega)
        rw [decT_is, hD, her] at this
        exact this
      clear hD her hmi hmc hmc' hmx hnc hcm
      go_wp2_with fail
      go_loopw [7] (fun i wr => ∃ j : Nat, j ≤ 2 ∧ i = .int .i64 (j : Int) ∧ Hid (Below wb.heap.size wb wr)) (fun i _ => 2 - (intOf i).toNat)
      case atStart => exact ⟨0, Nat.zero_le _, rfl, Lib.hid (Below.refl _ _)⟩
      case round =>
        obtain ⟨j, hj, rfl, hlo2⟩ := hrel
        by_cases hlt2 : j < 2
        · have hd2 : decide ((j : Int) < 2) = true := by simp; omega
          have hj0 : (0 : Int) ≤ (j : Int) := Int.natCast_nonneg _
          obtain ⟨wQ, hwQ⟩ : ∃ v, wr = v := ⟨_, rfl⟩
          rw [hwQ] at hlo2 ⊢
          clear hwQ
          go_upto_region 13 with (first
            | (go_at_call 5; refine (CD.out _ hlo2.out).mono ?_; rintro e w5 ⟨⟨v, rfl, hv1⟩, hb_w5⟩; obtain ⟨L1, P1, E1, rfl, ho5, hl5, hw5⟩ := hv1.ob; obtain ⟨od, hod⟩ : ∃ o, D.at_ L1 P1 E1 = o := ⟨_, rfl⟩; (try dsimp only); rw [hod]; obtain ⟨wA, hwA⟩ : ∃ v, w5.alloc (.cells zz.cells.toArray 34) = v := ⟨_, rfl⟩; have XA : Hid (Lies wA w5.heap.size 73 zz.cells) := Lib.hid (by rw [← hwA]; have := Lies.new w5 zz.cells 34; rwa [of_sz] at this); have TA := Lib.hid XA.out.th; have ONE : Hid (od.lv.oneCell' = true ∧ od.pv.oneCell' = true ∧ od.ev.oneCell' = true) := Lib.hid (by rw [← hod]; exact ⟨rfl, rfl, rfl⟩); have HWA := Lib.hid hwA; clear hwA)
            | ((with_reducible refine alt 34 ?_ ?_ zz.cells ZO.out ?_); rfl; rfl; rw [HWA.out]; (try simp only [Act.put, List.setIfInBounds_toArray, List.set_cons_succ, List.set_cons_zero]))
            | ((with_reducible refine sto (.tmp 8) (.tmp 40) ?_ ?_ w5.heap.size 0 od ?_ ?_ TA.out ONE.out.1 ONE.out.2.1 ONE.out.2.2 ?_); rfl; rfl; rfl; rfl; (try simp only [Act.put, List.setIfInBounds_toArray, List.set_cons_succ, List.set_cons_zero]))
            | fail)
          obtain ⟨wB, hwB⟩ : ∃ v, wA.setCells w5.heap.size 0 od.cells = v := ⟨_, rfl⟩
          have b5B : Below w5.heap.size w5 wB := by rw [← hwB, ← HWA.out]; exact below_setCells ((Below.refl _ _).alloc (Nat.le_refl _) _) (Nat.le_refl _) _ _
          have BB : Hid (Below wb.heap.size wb wB) := Lib.hid (hlo2.out.trans ((hb_w5.trans (b5B.mono hb_w5.size)).mono hlo2.out.size))
          have BQ : Hid (wQ.heap.size ≤ wB.heap.size ∧ wb.heap.size ≤ wQ.heap.size) := Lib.hid ⟨Nat.le_trans hb_w5.size b5B.size, hlo2.out.size⟩
          have X6 : Hid (Lies wB w5.heap.size 73 od.cells) := Lib.hid (by rw [← hwB]; exact XA.out.set_ (of_sz _))
          have J6 : Hid (Obj3 wB wB.heap.size D L1 P1 E1) := Lib.hid ((ho5.below b5B).more b5B.size)
          have O6 : Hid (OwnO wB wQ.heap.size D L1 P1 E1) := Lib.hid (hw5.below b5B)
          have LM1 := Lib.hid hl5
          obtain ⟨Bd, hBd⟩ : ∃ b, w5.heap.size = b := ⟨_, rfl⟩
          rw [hwB]
          rw [hBd] at X6 ⊢
          have HOD := Lib.hid hod
          clear hwB b5B hb_w5 ho5 hw5 hl5 hv1 XA TA HWA hBd hod ONE
          go_upto_region 14 with (first
            | (go_at_call 6; refine (CR.out _ BB.out).mono ?_; rintro e w7 ⟨⟨v, rfl, hv2⟩, hb_w7⟩; obtain ⟨L2, P2, E2, rfl, ho7, hl7⟩ := hv2.ob; obtain ⟨oe, hoe⟩ : ∃ o, D.at_ L2 P2 E2 = o := ⟨_, rfl⟩; (try dsimp only); rw [hoe]; obtain ⟨wC, hwC⟩ : ∃ v, w7.alloc (.cells zz.cells.toArray 34) = v := ⟨_, rfl⟩; have XC : Hid (Lies wC w7.heap.size 73 zz.cells) := Lib.hid (by rw [← hwC]; have := Lies.new w7 zz.cells 34; rwa [of_sz] at this); have TC := Lib.hid XC.out.th; have ONE2 : Hid (oe.lv.oneCell' = true ∧ oe.pv.oneCell' = true ∧ oe.ev.oneCell' = true) := Lib.hid (by rw [← hoe]; exact ⟨rfl, rfl, rfl⟩); have HWC := Lib.hid hwC; clear hwC)
            | ((with_reducible refine alt 34 ?_ ?_ zz.cells ZO.out ?_); rfl; rfl; rw [HWC.out]; (try simp only [Act.put, List.setIfInBounds_toArray, List.set_cons_succ, List.set_cons_zero]))
            | ((with_reducible refine sto (.tmp 10) (.tmp 45) ?_ ?_ w7.heap.size 0 oe ?_ ?_ TC.out ONE2.out.1 ONE2.out.2.1 ONE2.out.2.2 ?_); rfl; rfl; rfl; rfl; (try simp only [Act.put, List.setIfInBounds_toArray, List.set_cons_succ, List.set_cons_zero]))
            | fail)
          obtain ⟨wE, hwE⟩ : ∃ v, wC.setCells w7.heap.size 0 oe.cells = v := ⟨_, rfl⟩
          have b7E : Below w7.heap.size w7 wE := by rw [← hwE, ← HWC.out]; exact below_setCells ((Below.refl _ _).alloc (Nat.le_refl _) _) (Nat.le_refl _) _ _
          have bBE : Below wB.heap.size wB wE := hb_w7.trans (b7E.mono hb_w7.size)
          have BE := Lib.hid (BB.out.trans (bBE.mono BB.out.size))
          have QE : Hid (wQ.heap.size ≤ wE.heap.size) := Lib.hid (Nat.le_trans BQ.out.1 bBE.size)
          have X8 := Lib.hid (X6.out.below bBE X6.out.lt)
          have J8 : Hid (Obj3 wE wE.heap.size D L1 P1 E1) := Lib.hid ((J6.out.below bBE).more bBE.size)
          have O8 : Hid (OwnO wE wQ.heap.size D L1 P1 E1) := Lib.hid (O6.out.below bBE)
          have X9 : Hid (Lies wE w7.heap.size 73 oe.cells) := Lib.hid (by rw [← hwE]; exact XC.out.set_ (of_sz _))
          have J9 : Hid (Obj3 wE wE.heap.size D L2 P2 E2) := Lib.hid ((ho7.below b7E).more b7E.size)
          obtain ⟨Be, hBe⟩ : ∃ b, w7.heap.size = b := ⟨_, rfl⟩
          rw [hwE]
          rw [hBe] at X9 ⊢
          have CS : Hid (Calls Tryz.prog 7 #[ofV od, ofV oe] wE fun e w' => e = .returned (.bool true) ∧ Below wE.heap.size wE w') := Lib.hid (by
            have := refO_any J8.out J9.out (by have := LM1.out.l; omega) (by have := LM1.out.p; omega) (by have := LM1.out.e; omega)
            rwa [sameO_refl, HOD.out, hoe] at this)
          have SPO : Hid (∀ W, Below wE.heap.size wE W → Calls Tryz.prog 9 #[ofV od] W fun e w' => e = .returned (.tuple #[]) ∧ Below wQ.heap.size W w') := Lib.hid fun W hW => by
            have := spoil_any (O8.out.below hW) (Nat.le_trans QE.out hW.size) LM1.out
            rwa [HOD.out] at this
          have Q8 := Lib.hid X8.out.rg
          have Q9 := Lib.hid X9.out.rg
          clear hwE b7E bBE hb_w7 ho7 hl7 hv2 XC TC HWC hBe hoe X6 J6 O6 ONE2 J8 J9
          go_wp2_with (first
            | ((with_reducible refine ldo (.tmp 8) ?_ ?_ Bd 0 od ?_ P8.out ?_); rfl; (first | rfl | (go_simp <;> fail)); rfl)
            | ((with_reducible refine ldo (.tmp 8) ?_ ?_ Bd 0 od ?_ Q8.out ?_); rfl; (first | rfl | (go_simp <;> fail)); rfl)
            | ((with_reducible refine ldo (.tmp 10) ?_ ?_ Be 0 oe ?_ Q9.out ?_); rfl; (first | rfl | (go_simp <;> fail)); rfl)
            | (go_at_call 7; refine CS.out.mono ?_; rintro e wx ⟨rfl, hbx⟩; have Bx := Lib.hid hbx; have P8 := Lib.hid (X8.out.below hbx X8.out.lt).rg; have BX := Lib.hid (BE.out.trans (hbx.mono BE.out.size)); clear hbx)
            | (go_at_call 8; refine (S3.bytesEqual_is (SB1.out.below BX.out) (SB2.out.below BX.out) true (by simp)).mono ?_; rintro e _ ⟨rfl, rfl⟩)
            | (go_at_call 9; refine (SPO.out _ Bx.out).mono ?_; rintro e wz ⟨rfl, hbz⟩; have BZ := Lib.hid (BX.out.trans (hbz.mono BQ.out.2)); clear hbz)
            | fail)
          go_roundw
          case rel => exact ⟨j + 1, by omega, by go_num, BZ⟩
          case measure => simp [intOf]; omega
        · have hd2 : decide ((j : Int) < 2) = false := by simp; omega
          obtain ⟨wo, hwo⟩ : ∃ wo : World, wo = wr := ⟨_, rfl⟩
          have BF : Hid (Below w.heap.size w wo) := Lib.hid (by rw [hwo]; exact Bb.out.trans (hlo2.out.mono Bb.out.size))
          rw [← hwo]
          clear hwo hlo2
          go_wp2_with fail
          go_roundw
          case rel => exact ⟨k + 1, by omega, by go_num, BF⟩
          case measure => simp [intOf]; omega
    · have hd : decide ((k : Int) < (n : Int)) = false := by simp; omega
      obtain ⟨wo, hwo⟩ : ∃ wo : World, wo = wr := ⟨_, rfl⟩
      have DO : Hid (Below w.heap.size w wo) := Lib.hid (by rw [hwo]; exact hlo.out)
      rw [← hwo]
      clear hwo hlo
      go_wp2_with fail
      go_ret
      exact ⟨rfl, DO.out⟩
end Go.Proofs.YtcofkhmgmemkmaaGreatDoor
