/-
  WHICH DIGEST IS THE LESSER ONE.
  THE TEXT OF A DIGEST.
  A TEXT'S SIGNS, AND THE DIGEST THAT THEY SAY (pure).
  WHERE A SIGN STANDS AMONG THE SIXTEEN.
  THE DIGEST THAT A TEXT SAYS.
  THE CONSTANTS, AS THEY ARE HANDED OUT.
-/
import Derived.Test.YtcofkhmgmemkmaaGreatDoorK06
import Derived.Deep.QuietTactic
import Derived.StillTailTactics
import Derived.Deep.AppendLies
import Derived.Deep.RegionLaw
import Derived.Laws.Runes
import Derived.Lib.OthersKept
import Derived.WalkMore
import Derived.Laws.RangeAny
import Derived.ScopeJumps
import Derived.Test.YtcofkhmgmemkmaaGreatDoorK03
namespace Go.Proofs.YtcofkhmgmemkmaaGreatDoor.S3
set_option maxRecDepth 100000
set_option linter.unusedVariables false
set_option linter.unusedSimpArgs false
open Go.RowKit Go.WideShapes Go.ChangeShapes

theorem results_cc {P : Program} {fn : Func} {p p' : Tmp} {ty ty' : TypeId} (h : fn.results = #[.cell p ty, .cell p' ty']) (tmps : Array Value) (w : World) (b b' : Nat) (cs cs' : List Value) (d d' : TypeDesc)
    (hp : tmps.getD p undef = .pointer (some ⟨b, 0, none⟩)) (hc : w.rangeAt b 0 cs) (hu : P.underlying ty = some d) (hd : d.isRow = true) (hi : (P.info? ty).map (·.size) = some cs.length)
    (hp' : tmps.getD p' undef = .pointer (some ⟨b', 0, none⟩)) (hc' : w.rangeAt b' 0 cs') (hu' : P.underlying ty' = some d') (hd' : d'.isRow = true) (hi' : (P.info? ty').map (·.size) = some cs'.length) :
    (results fn tmps).run P w = .ok (.tuple #[.agg cs.toArray, .agg cs'.toArray]) w := by
  have hq : tmps[p]?.getD undef = .pointer (some ⟨b, 0, none⟩) := by simpa using hp
  have hq' : tmps[p']?.getD undef = .pointer (some ⟨b', 0, none⟩) := by simpa using hp'
  simp [results, h, hq, hq', asAddr, run_loadVar_mid w b 0 ty cs d hc hu hd hi, run_loadVar_mid w b' 0 ty' cs' d' hc' hu' hd' hi']
def Ze : List UInt8 := List.replicate 16 0
theorem Ze_len : Ze.length = 16 := List.length_replicate
theorem run_equal_32 (a b : List UInt8) (ha : a.length = 32) (hb : b.length = 32) (w : World) : (Op.equal 27 (.agg (bvs a).toArray) (.agg (bvs b).toArray)).run Tryz.prog w = .ok (a == b) w :=
  run_equalIn_rows 9999 a b 32 _ Tryz.underlying27 ha hb (fun x y w => run_equalIn_int w 9998 _ _ _ x y Tryz.underlying5) w
theorem run_eql_32 (a b : List UInt8) (ha : a.length = 32) (hb : b.length = 32) (w : World) : (binOp .eql 27 (.agg (bvs a).toArray) (.agg (bvs b).toArray)).run Tryz.prog w = .ok (.bool (a == b)) w := by
  simp only [binOp, Sem.run_bind, run_equal_32 a b ha hb, Result.andThen_ok, Sem.run_pure]
theorem run_neq_32 (a b : List UInt8) (ha : a.length = 32) (hb : b.length = 32) (w : World) : (binOp .neq 27 (.agg (bvs a).toArray) (.agg (bvs b).toArray)).run Tryz.prog w = .ok (.bool (!(a == b))) w := by
  simp only [binOp, Sem.run_bind, run_equal_32 a b ha hb, Result.andThen_ok, Sem.run_pure]
theorem Lies.slb16 {W : World} {b : Nat} {l : List UInt8} (h : Lies W b 16 (bvs l)) (k : Nat) (hl : l.length = 16) : SlB (W.drewN k) (W.drewN k).heap.size (some ⟨b, 0, none⟩) 16 16 l :=
  ⟨hl, Nat.le_refl _, by unfold maxLen; omega, fun e => (by cases e), fun _ => ⟨b, 0, rfl, (h.drewN k).lt, fun j hj => by
    rw [Nat.zero_add]
    exact (h.drewN k).cell (by simp [bvs, List.getElem?_eq_getElem hj])⟩⟩
/-- Is the first one the lesser? -/
def lessB (a b : List UInt8) : Bool := if a.take 16 = b.take 16 then decide (Lib.compareBytes (a.drop 16) (b.drop 16) < 0) else decide (Lib.compareBytes (a.take 16) (b.take 16) < 0)

end Go.Proofs.YtcofkhmgmemkmaaGreatDoor.S3
namespace Go.Proofs.YtcofkhmgmemkmaaGreatDoor.S3
set_option maxRecDepth 100000
set_option linter.unusedVariables false
set_option linter.unusedSimpArgs false
open Go.RowKit Go.WideShapes Go.ChangeShapes

def signsL : List UInt8 := [48, 49, 50, 51, 52, 53, 54, 55, 56, 57, 97, 98, 99, 100, 101, 102]
def sgn16 (i : Nat) : UInt8 := signsL.getD i 0
theorem index_sign {i : Nat} (hi : i < 16) (k : IntKind) (w : World) : (Instr.index 9 (.string ⟨#[48, 49, 50, 51, 52, 53, 54, 55, 56, 57, 97, 98, 99, 100, 101, 102]⟩) (.int k (i : Int))).run Tryz.prog w = .ok (.int .u8 ((sgn16 i).toNat : Int)) w := by
  rcases (show i = 0 ∨ i = 1 ∨ i = 2 ∨ i = 3 ∨ i = 4 ∨ i = 5 ∨ i = 6 ∨ i = 7 ∨ i = 8 ∨ i = 9 ∨ i = 10 ∨ i = 11 ∨ i = 12 ∨ i = 13 ∨ i = 14 ∨ i = 15 by omega) with rfl | rfl | rfl | rfl | rfl | rfl | rfl | rfl | rfl | rfl | rfl | rfl | rfl | rfl | rfl | rfl <;> kernel_rfl
theorem sign_get (m : Nat) (hm : m < 16) (z : Int) (hz : z = (m : Int)) (h : z.toNat < (⟨#[48, 49, 50, 51, 52, 53, 54, 55, 56, 57, 97, 98, 99, 100, 101, 102]⟩ : ByteArray).size) : (⟨#[48, 49, 50, 51, 52, 53, 54, 55, 56, 57, 97, 98, 99, 100, 101, 102]⟩ : ByteArray)[z.toNat] = sgn16 m := by
  subst hz
  rcases (show m = 0 ∨ m = 1 ∨ m = 2 ∨ m = 3 ∨ m = 4 ∨ m = 5 ∨ m = 6 ∨ m = 7 ∨ m = 8 ∨ m = 9 ∨ m = 10 ∨ m = 11 ∨ m = 12 ∨ m = 13 ∨ m = 14 ∨ m = 15 by omega) with rfl | rfl | rfl | rfl | rfl | rfl | rfl | rfl | rfl | rfl | rfl | rfl | rfl | rfl | rfl | rfl <;> rfl
theorem u8_and15 (x : UInt8) : bits .and .u8 (x.toNat : Int) 15 = ((x.toNat % 16 : Nat) : Int) := by
  have : ∀ n : Fin 256, bits .and .u8 (n.val : Int) 15 = ((n.val % 16 : Nat) : Int) := by decide +kernel
  exact this ⟨x.toNat, x.toNat_lt⟩
def textW (l : List UInt8) : List UInt8 := l.flatMap fun x => [sgn16 (x.toNat / 16), sgn16 (x.toNat % 16)]
theorem textW_len (l : List UInt8) : (textW l).length = 2 * l.length := by
  induction l with
  | nil => rfl
  | cons x r ih =>
    have h : textW (x :: r) = [sgn16 (x.toNat / 16), sgn16 (x.toNat % 16)] ++ textW r := by simp [textW]
    rw [h, List.length_append, ih, List.length_cons]
    simp
    omega
theorem textW_take (l : List UInt8) {k : Nat} (hk : k < l.length) : textW (l.take (k + 1)) = textW (l.take k) ++ [sgn16 ((l.getD k 0).toNat / 16), sgn16 ((l.getD k 0).toNat % 16)] := by
  rw [List.take_succ_eq_append_getElem hk]
  have : l.getD k 0 = l[k] := by rw [List.getD_eq_getElem?_getD, List.getElem?_eq_getElem hk]; rfl
  rw [this]
  unfold textW
  rw [List.flatMap_append]
  simp

end Go.Proofs.YtcofkhmgmemkmaaGreatDoor.S3
namespace Go.Proofs.YtcofkhmgmemkmaaGreatDoor.S3
set_option maxRecDepth 100000
set_option linter.unusedVariables false
set_option linter.unusedSimpArgs false
open Go.RowKit Go.WideShapes Go.ChangeShapes

abbrev sgB : ByteArray := ⟨#[48, 49, 50, 51, 52, 53, 54, 55, 56, 57, 97, 98, 99, 100, 101, 102]⟩
/-- Which half a sign says; -1: none. -/
def hx (c : UInt8) : Int := firstIdx sgB c
theorem hx_bd (c : UInt8) : -1 ≤ hx c ∧ hx c < 16 := by
  have : ∀ n : Fin 256, -1 ≤ hx (UInt8.ofNat n.val) ∧ hx (UInt8.ofNat n.val) < 16 := by decide +kernel
  have h := this ⟨c.toNat, c.toNat_lt⟩
  simpa using h
theorem hx_low (c : UInt8) (h : 0 ≤ hx c) : c.toNat < 128 := by
  have : ∀ n : Fin 256, 0 ≤ hx (UInt8.ofNat n.val) → n.val < 128 := by decide +kernel
  have h2 := this ⟨c.toNat, c.toNat_lt⟩
  simp only [UInt8.ofNat_toNat] at h2
  exact h2 h
theorem hx_sgn (c : UInt8) (h : 0 ≤ hx c) : sgn16 (hx c).toNat = c := by
  have : ∀ n : Fin 256, 0 ≤ hx (UInt8.ofNat n.val) → sgn16 (hx (UInt8.ofNat n.val)).toNat = UInt8.ofNat n.val := by decide +kernel
  have h2 := this ⟨c.toNat, c.toNat_lt⟩
  simp only [UInt8.ofNat_toNat] at h2
  exact h2 h
theorem sgn_hx (n : Nat) (h : n < 16) : hx (sgn16 n) = (n : Int) := by
  have : ∀ n : Fin 16, hx (sgn16 n.val) = (n.val : Int) := by decide +kernel
  exact this ⟨n, h⟩
/-- The half, as a byte. -/
def hb (c : UInt8) : UInt8 := UInt8.ofNat (hx c).toNat
/-- A byte, with a half behind it. -/
def upd (x h : UInt8) : UInt8 := x <<< 4 ||| h
theorem upd_val (x h : UInt8) : bits .or .u8 (IntKind.u8.wrap ((x.toNat : Int) * 16)) (h.toNat : Int) = ((upd x h).toNat : Int) := by
  have : ∀ n : Fin 256, ∀ m : Fin 256, bits .or .u8 (IntKind.u8.wrap ((n.val : Int) * 16)) (m.val : Int) = ((upd (UInt8.ofNat n.val) (UInt8.ofNat m.val)).toNat : Int) := by decide +kernel
  have h2 := this ⟨x.toNat, x.toNat_lt⟩ ⟨h.toNat, h.toNat_lt⟩
  simpa using h2
theorem upd_zero (h : UInt8) : upd 0 h = h := by
  unfold upd
  simp
theorem hb_val (c : UInt8) (h : 0 ≤ hx c) : ((hb c).toNat : Int) = hx c := by
  have hh := (hx_bd c).2
  unfold hb
  have e : (UInt8.ofNat (hx c).toNat).toNat = (hx c).toNat := by
    rw [UInt8.toNat_ofNat']
    omega
  rw [e]
  omega
/-- What stands at a place behind the first k signs. -/
def idAt (l : List UInt8) (k i : Nat) : UInt8 := if 2 * i + 1 < k then upd (hb (l.getD (2 * i) 0)) (hb (l.getD (2 * i + 1) 0)) else if 2 * i < k then hb (l.getD (2 * i) 0) else 0
def rowP (l : List UInt8) (k : Nat) : List UInt8 := (List.range 32).map (idAt l k)
theorem rowP_len (l : List UInt8) (k : Nat) : (rowP l k).length = 32 := by simp [rowP]
theorem rowP_get (l : List UInt8) (k i : Nat) (h : i < 32) : (rowP l k).getD i 0 = idAt l k i := by
  rw [List.getD_eq_getElem?_getD]
  simp [rowP, h]
theorem rowP_zero (l : List UInt8) : rowP l 0 = List.replicate 32 0 := by
  apply List.ext_getElem
  · simp [rowP]
  · intro i h1 h2
    rw [List.getElem_replicate]
    simp only [rowP, List.getElem_map, idAt]
    rw [if_neg (by omega), if_neg (by omega)]
theorem rowP_set (l : List UInt8) (k : Nat) (hk : k < 64) : (rowP l k).set (k / 2) (upd ((rowP l k).getD (k / 2) 0) (hb (l.getD k 0))) = rowP l (k + 1) := by
  rw [rowP_get l k (k / 2) (by omega)]
  apply List.ext_getElem
  · simp [rowP]
  · intro i h1 h2
    rw [List.getElem_set]
    have hi : i < 32 := by simpa [rowP] using h2
    by_cases he : k / 2 = i
    · rw [if_pos he]
      simp only [rowP, List.getElem_map, List.getElem_range]
      subst he
      rcases Nat.mod_two_eq_zero_or_one k with hm | hm
      · have e1 : 2 * (k / 2) = k := by omega
        simp only [idAt, e1]
        rw [if_neg (by omega), if_neg (by omega), if_neg (by omega), if_pos (by omega)]
        exact upd_zero _
      · have e1 : 2 * (k / 2) + 1 = k := by omega
        have e2 : 2 * (k / 2) < k := by omega
        simp only [idAt, e1]
        rw [if_neg (by omega), if_pos e2, if_pos (by omega)]
    · rw [if_neg he]
      simp only [rowP, List.getElem_map, List.getElem_range, idAt]
      by_cases c1 : 2 * i + 1 < k
      · rw [if_pos c1, if_pos (by omega)]
      · by_cases c2 : 2 * i < k
        · exfalso; omega
        · rw [if_neg c1, if_neg c2, if_neg (by omega), if_neg (by omega)]
/-- Is it a digest's text? -/
def goodL (l : List UInt8) : Bool := l.length == 64 && l.all fun c => decide (0 ≤ hx c)
/-- Whose text it is; its error. -/
def parseW (l : List UInt8) : List UInt8 := if goodL l then rowP l 64 else List.replicate 32 0
def parseE (l : List UInt8) : Int := if goodL l then 0 else 130
theorem parseW_len (l : List UInt8) : (parseW l).length = 32 := by
  unfold parseW
  split
  · exact rowP_len _ _
  · simp
theorem goodL_of {l : List UInt8} (hl : l.length = 64) (h : ∀ i, i < 64 → 0 ≤ hx (l.getD i 0)) : goodL l = true := by
  simp only [goodL, hl, Bool.and_eq_true, List.all_eq_true, decide_eq_true_eq]
  refine ⟨by decide, fun c hc => ?_⟩
  obtain ⟨i, hi, rfl⟩ := List.getElem_of_mem hc
  have := h i (by omega)
  rwa [List.getD_eq_getElem?_getD, List.getElem?_eq_getElem hi] at this
theorem goodL_bad {l : List UInt8} {i : Nat} (hi : i < l.length) (h : hx (l.getD i 0) < 0) : goodL l = false := by
  rw [List.getD_eq_getElem?_getD, List.getElem?_eq_getElem hi] at h
  cases hg : goodL l
  · rfl
  · simp only [goodL, Bool.and_eq_true, List.all_eq_true, decide_eq_true_eq] at hg
    have h2 := hg.2 l[i] (List.getElem_mem hi)
    simp only [Option.getD_some] at h
    omega
theorem textW_at (l : List UInt8) : ∀ (i : Nat), i < l.length → (textW l).getD (2 * i) 0 = sgn16 ((l.getD i 0).toNat / 16) ∧ (textW l).getD (2 * i + 1) 0 = sgn16 ((l.getD i 0).toNat % 16) := by
  induction l with
  | nil => intro i hi; simp at hi
  | cons x r ih =>
    intro i hi
    have h : textW (x :: r) = sgn16 (x.toNat / 16) :: sgn16 (x.toNat % 16) :: textW r := by simp [textW]
    rw [h]
    cases i with
    | zero => simp
    | succ j =>
      have := ih j (by simpa using hi)
      simp only [Nat.mul_add, Nat.mul_one, List.getD_cons_succ]
      exact this
/-- The text of a digest says it. -/
theorem text_good (l : List UInt8) (hl : l.length = 32) : goodL (textW l) = true := by
  refine goodL_of (by rw [textW_len, hl]) fun i hi => ?_
  have h := textW_at l (i / 2) (by omega)
  rcases Nat.mod_two_eq_zero_or_one i with hm | hm
  · have e : 2 * (i / 2) = i := by omega
    rw [e] at h
    rw [h.1, sgn_hx _ (by have := (l.getD (i / 2) 0).toNat_lt; omega)]
    omega
  · have e : 2 * (i / 2) + 1 = i := by omega
    rw [e] at h
    rw [h.2, sgn_hx _ (by omega)]
    omega
theorem upd_back (x : UInt8) : upd (hb (sgn16 (x.toNat / 16))) (hb (sgn16 (x.toNat % 16))) = x := by
  have : ∀ n : Fin 256, upd (hb (sgn16 (n.val / 16))) (hb (sgn16 (n.val % 16))) = UInt8.ofNat n.val := by decide +kernel
  have h := this ⟨x.toNat, x.toNat_lt⟩
  simpa using h
theorem parse_text (l : List UInt8) (hl : l.length = 32) : parseW (textW l) = l := by
  unfold parseW
  rw [text_good l hl, if_pos rfl]
  apply List.ext_getElem
  · rw [rowP_len, hl]
  · intro i h1 h2
    have h := textW_at l i h2
    simp only [rowP, List.getElem_map, List.getElem_range, idAt]
    rw [if_pos (by omega), h.1, h.2, upd_back]
    rw [List.getD_eq_getElem?_getD, List.getElem?_eq_getElem h2]
    rfl
theorem upd_two (a b : UInt8) (ha : 0 ≤ hx a) (hb' : 0 ≤ hx b) : sgn16 ((upd (hb a) (hb b)).toNat / 16) = a ∧ sgn16 ((upd (hb a) (hb b)).toNat % 16) = b := by
  have h : ∀ n m : Fin 16, (upd (UInt8.ofNat n.val) (UInt8.ofNat m.val)).toNat / 16 = n.val ∧ (upd (UInt8.ofNat n.val) (UInt8.ofNat m.val)).toNat % 16 = m.val := by decide +kernel
  have h2 := h ⟨(hx a).toNat, by have := (hx_bd a).2; omega⟩ ⟨(hx b).toNat, by have := (hx_bd b).2; omega⟩
  unfold hb
  rw [h2.1, h2.2]
  exact ⟨hx_sgn a ha, hx_sgn b hb'⟩
theorem text_parse (l : List UInt8) (hg : goodL l = true) : textW (parseW l) = l := by
  have hg0 := hg
  unfold parseW
  rw [hg, if_pos rfl]
  simp only [goodL, Bool.and_eq_true, List.all_eq_true, decide_eq_true_eq, beq_iff_eq] at hg
  obtain ⟨hl, ha⟩ := hg
  have hA : ∀ i, i < 64 → 0 ≤ hx (l.getD i 0) := fun i hi => by
    rw [List.getD_eq_getElem?_getD, List.getElem?_eq_getElem (show i < l.length by omega)]
    exact ha _ (List.getElem_mem _)
  have hlen : (textW (rowP l 64)).length = 64 := by rw [textW_len, rowP_len]
  apply List.ext_getElem
  · rw [hlen, hl]
  · intro i h1 h2
    have h := textW_at (rowP l 64) (i / 2) (by rw [rowP_len]; omega)
    rw [rowP_get _ _ _ (by omega)] at h
    have e : idAt l 64 (i / 2) = upd (hb (l.getD (2 * (i / 2)) 0)) (hb (l.getD (2 * (i / 2) + 1) 0)) := by unfold idAt; rw [if_pos (by omega)]
    rw [e] at h
    have hu := upd_two (l.getD (2 * (i / 2)) 0) (l.getD (2 * (i / 2) + 1) 0) (hA _ (by omega)) (hA _ (by omega))
    have g1 : (textW (rowP l 64))[i] = (textW (rowP l 64)).getD i 0 := by rw [List.getD_eq_getElem?_getD, List.getElem?_eq_getElem h1]; rfl
    have g2 : l[i] = l.getD i 0 := by rw [List.getD_eq_getElem?_getD, List.getElem?_eq_getElem h2]; rfl
    rw [g1, g2]
    rcases Nat.mod_two_eq_zero_or_one i with hm | hm
    · have e : 2 * (i / 2) = i := by omega
      rw [e] at h hu
      rw [h.1, hu.1]
    · have e : 2 * (i / 2) + 1 = i := by omega
      rw [e] at h hu
      rw [h.2, hu.2]
end Go.Proofs.YtcofkhmgmemkmaaGreatDoor.S3
namespace Go.Proofs.YtcofkhmgmemkmaaGreatDoor.S3
set_option maxRecDepth 100000
set_option linter.unusedVariables false
set_option linter.unusedSimpArgs false
open Go.RowKit Go.WideShapes Go.ChangeShapes

theorem sgB_ascii (k : Nat) (h : k < sgB.size) : (sgB[k]'h).toNat < 128 := by
  have : ∀ b ∈ sgB.data.toList, b.toNat < 128 := by decide +kernel
  exact this _ (by simp [ByteArray.getElem_eq_getElem_data])
end Go.Proofs.YtcofkhmgmemkmaaGreatDoor.S3
namespace Go.Proofs.YtcofkhmgmemkmaaGreatDoor.S3
set_option maxRecDepth 100000
set_option linter.unusedVariables false
set_option linter.unusedSimpArgs false
open Go.RowKit Go.WideShapes Go.ChangeShapes

theorem results_cell_tmp {P : Program} {fn : Func} {p t : Tmp} {ty : TypeId} (h : fn.results = #[.cell p ty, .tmp t]) (tmps : Array Value) (w : World) (b o : Nat) (cs : List Value) (d : TypeDesc)
    (hp : tmps.getD p undef = .pointer (some ⟨b, o, none⟩)) (hc : w.rangeAt b o cs) (hu : P.underlying ty = some d) (hd : d.isRow = true) (hi : (P.info? ty).map (·.size) = some cs.length) :
    (results fn tmps).run P w = .ok (.tuple #[.agg cs.toArray, tmps.getD t undef]) w := by
  have hp' : tmps[p]?.getD undef = .pointer (some ⟨b, o, none⟩) := by simpa using hp
  simp [results, h, hp', asAddr, run_loadVar_mid w b o ty cs d hc hu hd hi]
theorem Lies.keep {W W' : World} {b k : Nat} {l : List Value} (h : Lies W b k l) (hk : W'.heap[b]? = W.heap[b]?) (hz : W.heap.size ≤ W'.heap.size) : Lies W' b k l :=
  ⟨rangeAt_keep h.rg hk, there_keep h.th hk, Nat.lt_of_lt_of_le h.lt hz, h.len⟩

theorem wrap8 (n : Int) : IntKind.u8.wrap n = n % 256 := by
  simp [IntKind.wrap, IntKind.min, IntKind.max, IntKind.signed, IntKind.bits]
/-- At the label. -/
def ParseJ (s : ByteArray) (w : World) (a' : Act) (w' : World) : Prop :=
  ∃ u4 u5 u6 u7 u8 u9 u10 u11 u12 u13 u14 u15 u16 u17 u18 u19 u20 u21 u22 u23 u24 u25 u26 u27 u28 u29 u30 u31 u32 u33 : Value, a' = { tmps := #[.string s, undef, .pointer (some ⟨w.heap.size, 0, none⟩), .int .i64 0, u4, u5, u6, u7, u8, u9, u10, u11, u12, u13, u14, u15, u16, u17, u18, u19, u20, u21, u22, u23, u24, u25, u26, u27, u28, u29, u30, u31, u32, u33], defers := [] } ∧ Hid (goodL s.data.toList = false) ∧ Hid (Lies w' w.heap.size 32 (bvs Zi)) ∧ Hid (Below w.heap.size w w')
/-- Behind the first signs. -/
structure ParseR (s : ByteArray) (w wr : World) (pos : Nat) : Prop where
  it : wr.heap[w.heap.size + 1 + 1]? = some (.stringIter s pos)
  ok : ∀ i, i < pos → 0 ≤ hx (s.data.toList.getD i 0)
  row : Lies wr (w.heap.size + 1) 32 (bvs (rowP s.data.toList pos))
  res : Lies wr w.heap.size 32 (bvs Zi)
  bel : Below w.heap.size w wr
theorem ParseR.next {s : ByteArray} {w wr : World} {pos : Nat} (h : ParseR s w wr pos) (p' : Nat) :
    (wr.iterAt (w.heap.size + 1 + 1) s p').heap[w.heap.size + 1 + 1]? = some (.stringIter s p') ∧ Lies (wr.iterAt (w.heap.size + 1 + 1) s p') (w.heap.size + 1) 32 (bvs (rowP s.data.toList pos)) ∧
      Lies (wr.iterAt (w.heap.size + 1 + 1) s p') w.heap.size 32 (bvs Zi) ∧ Below w.heap.size w (wr.iterAt (w.heap.size + 1 + 1) s p') :=
  ⟨Lib.iterAt_heap _ _ _ _ _ h.it, h.row.keep (Lib.iterAt_other _ _ _ _ _ (by omega)) (Nat.le_of_eq (Lib.iterAt_size _ _ _ _).symm),
    h.res.keep (Lib.iterAt_other _ _ _ _ _ (by omega)) (Nat.le_of_eq (Lib.iterAt_size _ _ _ _).symm), Lib.below_iterAt h.bel (by omega) _ _⟩
theorem data_at (s : ByteArray) {i : Nat} (h : i < s.size) : s.data.toList.getD i 0 = s[i]'h := by
  rw [List.getD_eq_getElem?_getD, List.getElem?_eq_getElem (by simpa using h)]
  rfl
theorem size_list (s : ByteArray) : s.data.toList.length = s.size := by simp

end Go.Proofs.YtcofkhmgmemkmaaGreatDoor.S3
namespace Go.Proofs.YtcofkhmgmemkmaaGreatDoor.S3
set_option maxRecDepth 100000
set_option linter.unusedVariables false
set_option linter.unusedSimpArgs false
open Go.RowKit Go.WideShapes Go.ChangeShapes

end Go.Proofs.YtcofkhmgmemkmaaGreatDoor.S3
