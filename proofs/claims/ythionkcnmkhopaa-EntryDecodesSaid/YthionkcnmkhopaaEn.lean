/-
  COMMANDS: the laws' wakes.
-/
import Derived.Test.YthionkcnmkhopaaEl
import Derived.Test.YthionkcnmkhopaaEm
namespace Go.Proofs.Ythionkcnmkhopaa
set_option linter.unusedVariables false
set_option linter.unusedSimpArgs false
open Go.RowKit Go.WideShapes Go.ChangeShapes Go.Deep
attribute [local irreducible] wpQuiet

theorem Enc_any {w : World} {x : Cv} {D : Sl} (h : Cmd w w.heap.size x D) (hn : D.n ≤ 1000000) : Calls Try.prog 9 #[cfV (x.at_ D)] w fun e w' =>
    (∃ A' m c', e = .returned (.tuple #[.slice A' m c', .int .i64 (if okC x then 0 else 210)]) ∧ OwnB w' w.heap.size A' m c' (if okC x then bytesC x else [])) ∧ Below w.heap.size w w' := by
  have e := Encode_any w (x.at_ D) D.a D.n D.c x.data rfl h.d h.kb h.sb (by omega)
  rw [okC_at x D h.d.len.symm] at e
  exact e
theorem Chk_any {w : World} {x : Cv} {D : Sl} (h : Cmd w w.heap.size x D) (hn : D.n ≤ 1000000) : Calls Try.prog 11 #[cfV (x.at_ D)] w fun e w' => e = .returned (.int .i64 (if okC x then 0 else 210)) ∧ Below w.heap.size w w' := by
  have e := Check_any w (x.at_ D) D.a D.n D.c rfl (by omega) h.kb
  rw [okC_at x D h.d.len.symm] at e
  exact e
noncomputable def sameC (x y : Cv) : Bool := sameF (x.at_ ⟨none, 0, 0⟩) (y.at_ ⟨none, 0, 0⟩) x.data y.data
theorem ba_eq {a b : ByteArray} : (a.toList == b.toList) = true ↔ a = b := by
  rw [beq_iff_eq, ByteArray.toList_eq, ByteArray.toList_eq]
  constructor
  · intro h
    have := Array.toList_inj.1 h
    cases a; cases b; cases this; rfl
  · intro h; rw [h]
theorem sameC_iff (x y : Cv) : sameC x y = true ↔ x = y := by
  unfold sameC sameF Cv.at_
  simp only [Bool.and_eq_true, ba_eq]
  constructor
  · rintro ⟨⟨⟨⟨⟨⟨h1, h2⟩, h3⟩, h4⟩, h5⟩, h6⟩, h7⟩
    cases x; cases y
    simp only [beq_iff_eq] at h1 h2 h3 h4 h5 h6 h7
    have h5' := Idv.ext_ h5
    have h6' := Idv.ext_ h6
    subst h1 h2 h4 h5' h6' h7
    have h3' := Int.ofNat.inj h3
    subst h3'
    rfl
  · rintro rfl
    simp
theorem sameC_self (x : Cv) : sameC x x = true := (sameC_iff x x).2 rfl
theorem Sm_any {w : World} {x y : Cv} {D D' : Sl} (h : Cmd w w.heap.size x D) (h' : Cmd w w.heap.size y D') : Calls Try.prog 8 #[cfV (x.at_ D), cfV (y.at_ D')] w fun e w' => e = .returned (.bool (sameC x y)) ∧ Below w.heap.size w w' :=
  Same_any rfl rfl h.d h'.d
theorem rSm_any {w : World} {x y : Cv} {D D' : Sl} (h : Cmd w w.heap.size x D) (h' : Cmd w w.heap.size y D') : Calls Try.prog 16 #[cfV (x.at_ D), cfV (y.at_ D')] w fun e w' => e = .returned (.bool (sameC x y)) ∧ Below w.heap.size w w' :=
  refSame_any rfl rfl h.d h'.d
def xW : Cv := ⟨1, 1, 2, ⟨#[109]⟩, Idv.zero, Idv.zero, []⟩
theorem xW_ok : okC xW = true := by decide +kernel
theorem xW_len : (bytesC xW).length = 74 := by decide +kernel
theorem xW_at : (bytesC xW)[7]? = some 109 := by decide +kernel
theorem xW_dec : decW (bytesC xW) = (xW, 0) := dec_bytes xW_ok (by decide)
theorem built_xW : Try.prog.built 27 [(0, .int .i64 1), (1, .int .i64 1), (2, .int .u32 2), (3, .string ⟨#[109]⟩)] = some (xW.at_ ⟨none, 0, 0⟩).cells.toArray := by kernel_rfl
set_option maxRecDepth 100000 in
set_option maxHeartbeats 8000000 in
theorem wakes_any (w : World) : Calls Try.prog 7 #[] w fun e w' => e = .returned (.bool true) ∧ Below w.heap.size w w' := by
  obtain ⟨zz, hzz⟩ : ∃ z, zCf = z := ⟨_, rfl⟩
  have ZO : Hid (∀ w : World, (zeroValue 27).run Try.prog w = .ok (.agg zz.cells.toArray) w) := Lib.hid (by rw [← hzz]; exact zero_cf)
  clear hzz
  obtain ⟨cw, hcw⟩ : ∃ c, xW.at_ ⟨none, 0, 0⟩ = c := ⟨_, rfl⟩
  have BW : Hid (Try.prog.built 27 [(0, .int .i64 1), (1, .int .i64 1), (2, .int .u32 2), (3, .string ⟨#[109]⟩)] = some cw.cells.toArray) := Lib.hid (by rw [← hcw]; exact built_xW)
  obtain ⟨lb, hlb⟩ : ∃ l, bytesC xW = l := ⟨_, rfl⟩
  have LN : lb.length = 74 := by rw [← hlb]; exact xW_len
  have LA : lb[7]? = some 109 := by rw [← hlb]; exact xW_at
  have LD : decW lb = (xW, 0) := by rw [← hlb]; exact xW_dec
  have CE : Hid (Calls Try.prog 9 #[cfV cw] w fun e w' => (∃ A' m c', e = .returned (.tuple #[.slice A' m c', .int .i64 0]) ∧ OwnB w' w.heap.size A' m c' lb) ∧ Below w.heap.size w w') := Lib.hid (by
    have := Enc_any (w := w) (x := xW) (D := ⟨none, 0, 0⟩) ⟨SlB.nil_.more (Nat.zero_le _), by decide, by decide, by decide⟩ (by decide)
    rw [if_pos xW_ok, if_pos xW_ok, hcw, hlb] at this
    exact this)
  clear hcw hlb
  go_enter Try.func7, Try.ntmps7
  go_upto_region 2 with (first
    | ((with_reducible refine bdt 27 [(0, .const (.int .i64 1)), (1, .const (.int .i64 1)), (2, .const (.int .u32 2)), (3, .const (.string ⟨#[109]⟩))] ?_ ?_ cw.cells.toArray ?_ ?_); rfl; rfl; exact BW.out)
    | (go_at_call 9; refine CE.out.mono ?_; rintro e w1 ⟨⟨A1, m1, c1, rfl, ho⟩, hb1⟩)
    | fail)
  have hm : m1 = 74 := by have := ho.sl.len; omega
  subst hm
  obtain ⟨b7, o7, rfl, hb7, hc7⟩ := ho.sl.pos (by omega)
  have e7 : w1.cell? ⟨b7, o7 + 7, none⟩ = some (.int .u8 109) := by
    have h7 : 7 < lb.length := by omega
    rw [hc7 7 h7]
    rw [List.getElem?_eq_getElem h7] at LA
    injection LA with LA
    rw [LA]
    rfl
  have CD := Lib.hid (Decode_any ho.sl (by omega))
  rw [LD] at CD
  have HB1 := Lib.hid hb1
  have E7 := Lib.hid e7
  clear ho hc7 hb1 e7 LA
  obtain ⟨w2, hw2⟩ : ∃ v : World, v = w1 := ⟨_, rfl⟩
  clear w2 hw2
  go_upto_region 3 with (first
    | (go_at_call 14; refine CD.out.mono ?_; rintro e w2 ⟨⟨v, rfl, hv⟩, hb2⟩; obtain ⟨D, rfl, hd⟩ := hv.c; obtain ⟨cd, hcd⟩ : ∃ c, xW.at_ D = c := ⟨_, rfl⟩; (try dsimp only); rw [hcd]; obtain ⟨wA, hwA⟩ : ∃ v, w2.alloc (.cells zz.cells.toArray 27) = v := ⟨_, rfl⟩; have XA : Hid (Lies wA w2.heap.size 69 zz.cells) := Lib.hid (by rw [← hwA]; have := Lies.new w2 zz.cells 27; rwa [cf_sz] at this); have TA := Lib.hid XA.out.th; have ONE : Hid (cd.dv.oneCell' = true) := Lib.hid (by rw [← hcd]; rfl); have HWA := Lib.hid hwA; clear hwA)
    | ((with_reducible refine alt 27 ?_ ?_ zz.cells ZO.out ?_); rfl; rfl; rw [HWA.out]; (try simp only [Act.put, List.setIfInBounds_toArray, List.set_cons_succ, List.set_cons_zero]))
    | ((with_reducible refine stc (.tmp 3) (.tmp 13) ?_ ?_ w2.heap.size 0 cd ?_ ?_ TA.out ONE.out ?_); rfl; rfl; rfl; rfl; (try simp only [Act.put, List.setIfInBounds_toArray, List.set_cons_succ, List.set_cons_zero]))
    | fail)
  obtain ⟨wB, hwB⟩ : ∃ v, wA.setCells w2.heap.size 0 cd.cells = v := ⟨_, rfl⟩
  have XB : Lies wB w2.heap.size 69 cd.cells := by rw [← hwB]; exact XA.out.set_ (cf_sz _)
  have b2B : Below w2.heap.size w2 wB := by rw [← hwB, ← HWA.out]; exact below_setCells ((Below.refl _ _).alloc (Nat.le_refl _) _) (Nat.le_refl _) _ _
  rw [hwB]
  clear hwB
  have q7 : wB.cell? ⟨b7, o7 + 7, none⟩ = some (.int .u8 109) := ((b2B.cell (p := ⟨b7, o7 + 7, none⟩) (by have := hb2.size; show b7 < w2.heap.size; omega)).trans (hb2.cell (p := ⟨b7, o7 + 7, none⟩) hb7)).trans E7.out
  have q2 := (cf_lies XB).2.2.1
  rw [← hcd] at q2
  have q2' : wB.cell? ⟨w2.heap.size, 2, none⟩ = some (.int .u32 2) := q2
  have HBB := Lib.hid ((HB1.out.trans (hb2.mono HB1.out.size)).trans (b2B.mono (by have := HB1.out.size; have := hb2.size; omega)))
  clear q2 XB b2B hb2 hv
  go_wp2_with fail
  go_ret
  exact ⟨rfl, HBB.out⟩
end Go.Proofs.Ythionkcnmkhopaa
