/-
  STAGE 6's REFERENCE: whose fields are right is what the program asks (pure).
  STAGE 6's REFERENCE: the bytes, what is right, the Id.
  STAGE 6's REFERENCE: the taker.
  STAGE 6's REFERENCE: the taker's numbers and texts.
-/
import Derived.Test.YtcofkhmgmemkmaaGreatDoorK47
import Derived.Test.YtcofkhmgmemkmaaGreatDoorK34
import Derived.Test.YtcofkhmgmemkmaaGreatDoorK21
import Derived.Test.YtcofkhmgmemkmaaGreatDoorK41
import Derived.Test.YtcofkhmgmemkmaaGreatDoorK28
import Derived.Test.YtcofkhmgmemkmaaGreatDoorK33
namespace Go.Proofs.YtcofkhmgmemkmaaGreatDoor
set_option linter.unusedVariables false
set_option linter.unusedSimpArgs false
open Go.RowKit Go.WideShapes Go.ChangeShapes Go.Deep Go.Shelf

theorem len0 {α : Type} (l : List α) : (l.length == 0) = true ↔ l = [] := by rw [beq_iff_eq]; exact List.length_eq_zero_iff
theorem sameLs_nil (l : List Lf) : sameLs l [] = (l.length == 0) := by
  rw [Bool.eq_iff_iff, len0]
  constructor
  · intro h
    unfold sameLs at h
    exact List.length_eq_zero_iff.1 (of_decide_eq_true h).1
  · rintro rfl
    exact sameLs_refl []
theorem sameI_nil (l : List Idv) : sameI l [] = (l.length == 0) := by
  rw [Bool.eq_iff_iff, len0]
  constructor
  · intro h
    unfold sameI at h
    have := of_decide_eq_true h
    simpa using this
  · rintro rfl
    exact sameI_refl []
theorem sameE_nil (l : List Ch) : sameE l [] = (l.length == 0) := by
  rw [Bool.eq_iff_iff, len0]
  constructor
  · intro h
    unfold sameE at h
    exact List.length_eq_zero_iff.1 (of_decide_eq_true h).1
  · rintro rfl
    exact sameE_refl []
theorem none_list : (⟨#[]⟩ : ByteArray).toList = [] := by rw [ByteArray.toList_eq]

theorem treeW_leaves (l : List Lf) : treeW l = (leavesR l && decide ((l.length : Int) ≤ 32)) := by
  rw [Bool.eq_iff_iff]
  unfold treeW
  rw [Bool.and_eq_true, Bool.and_eq_true, rightR_iff, List.all_eq_true, decide_eq_true_iff]
  have hrl : (rowsL l).length = l.length := by unfold rowsL; simp
  have hg : ∀ j (hj : j < l.length) (hj' : j < (rowsL l).length), (rowsL l)[j] = rowL l[j] := fun j hj hj' => List.getElem_map (l := l) (i := j) (h := hj') rowL
  have hfit : ∀ x : Lf, fitP (rowL x).p (rowL x).t = pathW x.p := fun x => by rw [fitP_path]; exact Bool.and_true _
  rw [show (leavesR l = true) ↔ LvOk l l.length from by unfold leavesR; classical exact decide_eq_true_iff]
  constructor
  · rintro ⟨h1, h2, h3, h4⟩
    refine ⟨⟨fun j hj _ => ⟨?_, ?_⟩, fun j hj _ => ?_⟩, by omega⟩
    · have := h3 j (by omega)
      rw [hg j hj, hfit] at this
      exact this
    · have := h1 _ (List.getElem_mem hj)
      simpa using this
    · have := h4 j (by omega)
      rw [hg j (by omega), hg (j + 1) hj] at this
      exact this
  · rintro ⟨⟨h1, h2⟩, h3⟩
    refine ⟨fun x hx => ?_, by omega, fun j hj => ?_, fun j hj => ?_⟩
    · obtain ⟨j, hj, rfl⟩ := List.getElem_of_mem hx
      rw [(h1 j hj hj).2]
      rfl
    · rw [hg j (by omega), hfit]
      exact (h1 j (by omega) (by omega)).1
    · rw [hg j (by omega), hg (j + 1) (by omega)]
      exact h2 j (by omega) (by omega)

theorem fieldsR_is (x : Ov) : fieldsR x = (bareO x && soundW x) := by
  unfold fieldsR bareO soundW
  by_cases K1 : x.kind = 1
  · rw [if_pos K1, if_pos K1]
    unfold cntO sameO noneR
    rw [if_pos K1]
    simp only [kOv, zOv, sameLs_nil, sameI_nil, sameE_nil, none_list, beq_self_eq_true, Bool.true_and]
    ac_rfl
  rw [if_neg K1, if_neg K1]
  by_cases K2 : x.kind = 2
  · rw [if_pos K2, if_pos K2, treeW_leaves]
    unfold cntO sameO noneR
    rw [if_neg K1, if_pos K2]
    simp only [kOv, zOv, sameLs_refl, sameI_nil, sameE_nil, none_list, beq_self_eq_true, Bool.true_and, Bool.and_true]
    ac_rfl
  rw [if_neg K2, if_neg K2]
  by_cases K3 : x.kind = 3
  · rw [if_pos K3, if_pos K3]
    unfold cntO sameO comW style6R
    rw [if_neg K1, if_neg K2, if_pos K3]
    have hn : (!decide (200 < (x.note.size : Int))) = decide ((x.note.size : Int) ≤ 200) := by
      rw [Bool.eq_iff_iff]
      simp
    simp only [hn, kOv, zOv, sameLs_nil, sameI_refl, sameE_refl, none_list, beq_self_eq_true, Bool.true_and, Bool.and_true]
    ac_rfl
  · rw [if_neg K3, if_neg K3, Bool.and_false]
end Go.Proofs.YtcofkhmgmemkmaaGreatDoor
namespace Go.Proofs.YtcofkhmgmemkmaaGreatDoor
set_option linter.unusedVariables false
set_option linter.unusedSimpArgs false
open Go.RowKit Go.WideShapes Go.ChangeShapes Go.Deep Go.Shelf
attribute [local irreducible] wpQuiet

theorem bytes6_any {w : World} {x : Ov} {L P E : Sl} (h : Obj3 w w.heap.size x L P E) (hs : layW x) :
    Calls Tryz.prog 21 #[ofV (x.at_ L P E)] w fun e w' => (∃ A n c, e = .returned (.slice A n c) ∧ OwnB w' w.heap.size A n c (bytesW x)) ∧ Below w.heap.size w w' := by
  rcases hs with ⟨k, hs⟩ | ⟨k, hs⟩ | ⟨k, hs⟩
  · exact bytes6_blob h k hs
  · exact bytes6_tree h k hs
  · exact bytes6_com h k (com_ok hs h.p.len h.e.len)
set_option maxRecDepth 100000 in
set_option maxHeartbeats 4000000 in
theorem right6_any {w : World} {x : Ov} {L P E : Sl} (h : Obj3 w w.heap.size x L P E) (hm : Lim L P E) (hlp : ∀ l ∈ x.lv, l.p.size ≤ 1000000) (hep : ∀ r ∈ x.es, r.p.size ≤ 1000000) :
    Calls Tryz.prog 20 #[ofV (x.at_ L P E)] w fun e w' => e = .returned (.bool (okW x)) ∧ Below w.heap.size w w' := by
  obtain ⟨ox, w1, hb⟩ := Bxo.mk_ w x L P E
  have HB := Lib.hid hb
  rw [hb.eq]
  have HL : Hid (∀ W, Below w.heap.size w W → Obj3 W W.heap.size x L P E) := Lib.hid fun W hW => (h.below hW).more hW.size
  have C1 : Hid (∀ W, Below w.heap.size w W → Calls Tryz.prog 40 #[ofV ox] W fun e w' => e = .returned (.bool (fieldsR x)) ∧ Below W.heap.size W w') := Lib.hid fun W hW => by
    rw [← hb.eq]; exact fields6_any (HL.out W hW) hm hlp hep
  have C2 : Hid (∀ W, Below w.heap.size w W → fieldsR x = true → Calls Tryz.prog 21 #[ofV ox] W fun e w' => (∃ A n c, e = .returned (.slice A n c) ∧ OwnB w' W.heap.size A n c (bytesW x)) ∧ Below W.heap.size W w') := Lib.hid fun W hW hs => by
    rw [← hb.eq]; exact bytes6_any (HL.out W hW) (layW_of (by rw [fieldsR_is, Bool.and_eq_true] at hs; exact hs.2))
  obtain ⟨q0, h0⟩ : ∃ q, fieldsR x = q := ⟨_, rfl⟩
  obtain ⟨q2, h2⟩ : ∃ q, decide (((bytesW x).length : Int) ≤ 800) = q := ⟨_, rfl⟩
  obtain ⟨cq, hcq⟩ : ∃ q, okW x = q := ⟨_, rfl⟩
  have HF : Hid (cq = (q0 && q2)) := Lib.hid (by
    rw [← hcq, ← h0, ← h2, fieldsR_is]
    unfold okW
    congr 1
    rw [Bool.eq_iff_iff]
    simp)
  rw [h0] at C1 C2
  rw [hcq]
  have H2 := Lib.hid h2
  clear h hb h0 h2 hcq hlp hep
  go_enter Tryz.func20, Tryz.ntmps20
  go_upto_region 1 with fail
  rw [HB.out.al]
  have B1 := Lib.hid HB.out.bl
  have RG : Hid (∀ W, Below w1.heap.size w1 W → W.rangeAt w.heap.size 0 ox.cells) := Lib.hid fun W hW => HB.out.rg hW
  go_wp2_with (first
    | ((with_reducible refine ldo (.tmp 1) ?_ ?_ w.heap.size 0 ox ?_ (RG.out w1 (Below.refl _ _)) ?_); rfl; (first | rfl | go_simp); (first | rfl | go_simp))
    | fail)
  refine (C1.out w1 B1.out).mono ?_
  rintro e w2 ⟨rfl, hb⟩
  dsimp only
  have Y2 : Hid (Below w1.heap.size w1 w2) := Lib.hid hb
  have B2 := Lib.hid (B1.out.trans (hb.mono B1.out.size))
  clear hb
  cases q0
  · go_wp2_with fail
    go_ret
    exact ⟨by rw [HF.out]; rfl, B2.out⟩
  go_wp2_with (first
    | ((with_reducible refine ldo (.tmp 1) ?_ ?_ w.heap.size 0 ox ?_ (RG.out w2 Y2.out) ?_); rfl; (first | rfl | go_simp); (first | rfl | go_simp))
    | fail)
  refine (C2.out w2 B2.out (by first | rfl | trivial)).mono ?_
  rintro e w4 ⟨⟨A, n, c, rfl, own⟩, hb⟩
  dsimp only
  have B4 := Lib.hid (B2.out.trans (hb.mono B2.out.size))
  have hn : (bytesW x).length = n := own.sl.len
  have h2 := H2.out
  rw [hn] at h2
  clear hb own hn
  cases q2
  · go_wp2_with fail
    go_ret
    exact ⟨by rw [HF.out]; rfl, B4.out⟩
  · go_wp2_with fail
    go_ret
    exact ⟨by rw [HF.out]; rfl, B4.out⟩
end Go.Proofs.YtcofkhmgmemkmaaGreatDoor
namespace Go.Proofs.YtcofkhmgmemkmaaGreatDoor
set_option linter.unusedVariables false
set_option linter.unusedSimpArgs false
open Go.RowKit Go.WideShapes Go.ChangeShapes Go.Deep Go.Shelf
attribute [local irreducible] wpQuiet

theorem slb_rest {w : World} {B n c : Nat} {A : Option Addr} {l : List UInt8} (h : S3.SlB w B A n c l) {k : Nat} (hk : k ≤ n) : S3.SlB w B (A.map fun x => x.add k) (n - k) (c - k) (l.drop k) := by
  refine ⟨by have := h.len; simp; omega, by have := h.cap; omega, by have := h.max; omega, fun e => by have := h.non (by simpa using e); omega, fun h0 => ?_⟩
  obtain ⟨b, o, rfl, hb, hc⟩ := h.pos (by omega)
  refine ⟨b, o + k, by simp [S3.addr_add], hb, fun j hj => ?_⟩
  rw [List.length_drop] at hj
  rw [List.getElem_drop, Nat.add_assoc]
  exact hc (k + j) (by omega)
/-- What is left, and whether the bytes ended. -/
abbrev Ts := List UInt8 × Bool
def Ts.b (s : Ts) (n : Nat) : Bool := s.2 || decide (s.1.length < n)
def Ts.t (s : Ts) (n : Nat) : List UInt8 := if s.b n then [] else s.1.take n
def Ts.s (s : Ts) (n : Nat) : Ts := if s.b n then (s.1, true) else (s.1.drop n, false)
structure Tk (w : World) (g : Nat) (s : Ts) : Prop where
  ex : ∃ A n c, Lies w g 2 [.slice A n c, .bool s.2] ∧ S3.SlB w g A n c s.1
set_option maxRecDepth 100000 in
set_option maxHeartbeats 4000000 in
theorem raw6_any {w : World} {g : Nat} {s : Ts} (h : Tk w g s) (k : Nat) (K : Int) (hK : K = (k : Int)) (hk : k ≤ 1000000) :
    Calls Tryz.prog 39 #[.pointer (some ⟨g, 0, none⟩), .int .i64 K] w fun e w' => (∃ A n c, e = .returned (.slice A n c) ∧ S3.SlB w' g A n c (s.t k)) ∧ Tk w' g (s.s k) ∧ w.grownBy w' (some g) := by
  subst hK
  obtain ⟨l, bad⟩ := s
  obtain ⟨A, n, c, hl, hs⟩ := h.ex
  have HL := Lib.hid hl
  have HS := Lib.hid hs
  have c0 := hl.cell (j := 0) rfl
  have c1 := hl.cell (j := 1) rfl
  have f0 := hl.frozen (j := 0) (by omega)
  have f1 := hl.frozen (j := 1) (by omega)
  have hn0 : (0 : Int) ≤ (n : Int) := Int.natCast_nonneg _
  have hk0 : (0 : Int) ≤ (k : Int) := Int.natCast_nonneg _
  have hlen : l.length = n := hs.len
  have hcap := hs.cap
  have hnc : (n : Int) ≤ (c : Int) := by omega
  have hc0 : (0 : Int) ≤ (c : Int) := Int.natCast_nonneg _
  clear h hl hs
  go_enter Tryz.func39, Tryz.ntmps39
  have GR : ∀ j u, w.grownBy (w.setCell ⟨g, j, none⟩ u) (some g) := fun j u => S3.only_set (S3.only_refl w _) rfl u
  have KP : Hid (∀ j u A n c l, S3.SlB w g A n c l → S3.SlB (w.setCell ⟨g, j, none⟩ u) g A n c l) := Lib.hid fun j u A n c l h9 => h9.grown (GR j u) (Nat.le_of_lt HL.out.lt) (fun g' e => by injection e with e; omega)
  have HGR := Lib.hid GR
  clear GR
  have BAD : Hid (Ts.b (l, bad) k = true → (∃ A n c, (Ending.returned (.slice none 0 0)) = .returned (.slice A n c) ∧ S3.SlB (w.setCell ⟨g, 1, none⟩ (.bool true)) g A n c (Ts.t (l, bad) k)) ∧ Tk (w.setCell ⟨g, 1, none⟩ (.bool true)) g (Ts.s (l, bad) k) ∧ w.grownBy (w.setCell ⟨g, 1, none⟩ (.bool true)) (some g)) := Lib.hid fun hb => by
    unfold Ts.t Ts.s
    rw [if_pos hb, if_pos hb]
    exact ⟨⟨none, 0, 0, rfl, S3.SlB.nil_⟩, ⟨A, n, c, HL.out.set1 1 _, KP.out _ _ _ _ _ _ HS.out⟩, HGR.out _ _⟩
  have GOOD : Hid (∀ A' n' c', Ts.b (l, bad) k = false → S3.SlB w g A' n' c' (l.drop k) → k ≤ n → (∃ A1 n1 c1, (Ending.returned (.slice A k c)) = .returned (.slice A1 n1 c1) ∧ S3.SlB (w.setCell ⟨g, 0, none⟩ (.slice A' n' c')) g A1 n1 c1 (Ts.t (l, bad) k)) ∧ Tk (w.setCell ⟨g, 0, none⟩ (.slice A' n' c')) g (Ts.s (l, bad) k) ∧ w.grownBy (w.setCell ⟨g, 0, none⟩ (.slice A' n' c')) (some g)) := Lib.hid fun A' n' c' hb hr hkn => by
    have hbd : bad = false := by unfold Ts.b at hb; dsimp only at hb; rw [Bool.or_eq_false_iff] at hb; exact hb.1
    subst hbd
    unfold Ts.t Ts.s
    rw [if_neg (by rw [hb]; decide), if_neg (by rw [hb]; decide)]
    exact ⟨⟨A, k, c, rfl, KP.out _ _ _ _ _ _ (HS.out.take hkn)⟩, ⟨A', n', c', HL.out.set1 0 _, KP.out _ _ _ _ _ _ hr⟩, HGR.out _ _⟩
  cases bad
  · by_cases hkn : n < k
    · have d1 : decide ((k : Int) > (n : Int)) = true := by simp; omega
      go_wp2_with fail
      go_ret
      exact BAD.out (by show (false || decide (l.length < k)) = true; simp; omega)
    · have d1 : decide ((k : Int) > (n : Int)) = false := by simp; omega
      have hk1 : (k : Int) ≤ (n : Int) := by omega
      have hk2 : (k : Int) ≤ (c : Int) := by omega
      have hk3 : (k : Int).toNat = k := by omega
      have NB : Hid (Ts.b (l, false) k = false) := Lib.hid (by show (false || decide (l.length < k)) = false; simp; omega)
      by_cases hck : c = k
      · have hn2 : n = k := by omega
        subst hck
        have R0 : Hid (S3.SlB w g A 0 0 (l.drop c)) := Lib.hid (by
          rw [List.drop_eq_nil_of_le (by omega)]
          exact S3.SlB.zero_)
        go_wp2_with fail
        go_ret
        exact GOOD.out _ _ _ NB.out R0.out (by omega)
      · have R0 := Lib.hid (slb_rest HS.out (show k ≤ n by omega))
        go_wp2_with fail
        go_ret
        exact GOOD.out _ _ _ NB.out R0.out (by omega)
  · go_wp2_with fail
    go_ret
    exact BAD.out (by unfold Ts.b; simp)
end Go.Proofs.YtcofkhmgmemkmaaGreatDoor
namespace Go.Proofs.YtcofkhmgmemkmaaGreatDoor
set_option linter.unusedVariables false
set_option linter.unusedSimpArgs false
open Go.RowKit Go.WideShapes Go.ChangeShapes Go.Deep Go.Shelf
attribute [local irreducible] wpQuiet

def Ts.num (s : Ts) (n : Nat) : Nat := S3.num (s.t n)
theorem ts_len (s : Ts) (n : Nat) : (s.t n).length ≤ n := by unfold Ts.t; split <;> simp <;> omega
theorem ts_num (s : Ts) (n : Nat) : s.num n < 256 ^ n := Nat.lt_of_lt_of_le (S3.num_lt _) (Nat.pow_le_pow_right (by omega) (ts_len s n))
def Ts.txt (s : Ts) (n : Nat) : ByteArray := ⟨((s.s n).t (s.num n)).toArray⟩
def Ts.ts (s : Ts) (n : Nat) : Ts := (s.s n).s (s.num n)
theorem Tk.lt {w : World} {g : Nat} {s : Ts} (h : Tk w g s) : g < w.heap.size := by
  obtain ⟨A, n, c, h1, _⟩ := h.ex
  exact h1.lt
theorem w64_small {n : Nat} (h : n < 4294967296) : S3.w64 n = n := Nat.mod_eq_of_lt (Nat.lt_trans h (by decide))
theorem ts_num4 (s : Ts) {n : Nat} (h : n ≤ 4) : s.num n < 4294967296 := Nat.lt_of_lt_of_le (ts_num s n) (Nat.le_trans (Nat.pow_le_pow_right (by omega) h) (by decide))
theorem ts_num2 (s : Ts) {n : Nat} (h : n ≤ 2) : s.num n ≤ 65536 := Nat.le_of_lt (Nat.lt_of_lt_of_le (ts_num s n) (Nat.le_trans (Nat.pow_le_pow_right (by omega) h) (by decide)))
set_option maxRecDepth 100000 in
set_option maxHeartbeats 800000 in
theorem num6_any {w : World} {g : Nat} {s : Ts} (h : Tk w g s) (k : Nat) (K : Int) (hK : K = (k : Int)) (hk : k ≤ 4) :
    Calls Tryz.prog 17 #[.pointer (some ⟨g, 0, none⟩), .int .i64 K] w fun e w' => e = .returned (.int .u64 (s.num k : Nat)) ∧ Tk w' g (s.s k) ∧ w.grownBy w' (some g) := by
  have HT := Lib.hid h
  subst hK
  obtain ⟨m, hm⟩ : ∃ m, s.num k = m := ⟨_, rfl⟩
  have H64 : Hid (S3.w64 (S3.num (s.t k)) = m) := Lib.hid (by rw [← hm]; exact w64_small (ts_num4 s hk))
  rw [hm]
  clear h hm
  go_enter Tryz.func17, Tryz.ntmps17
  go_wp2_with fail
  refine (raw6_any HT.out k _ rfl (by omega)).mono ?_
  rintro e w2 ⟨⟨A, n, c, rfl, hs⟩, hT, hg⟩
  dsimp only
  have H2 := Lib.hid hT
  have G2 := Lib.hid hg
  have S2 := Lib.hid hs
  clear hT hg hs
  go_wp2_with fail
  refine (S3.number_any S2.out).mono ?_
  rintro e _ ⟨rfl, rfl⟩
  rw [H64.out]
  dsimp only
  go_wp2_with fail
  go_ret
  exact ⟨rfl, H2.out, G2.out⟩
set_option maxRecDepth 100000 in
set_option maxHeartbeats 800000 in
theorem text6_any {w : World} {g : Nat} {s : Ts} (h : Tk w g s) (k : Nat) (K : Int) (hK : K = (k : Int)) (hk : k ≤ 2) :
    Calls Tryz.prog 18 #[.pointer (some ⟨g, 0, none⟩), .int .i64 K] w fun e w' => e = .returned (.string (s.txt k)) ∧ Tk w' g (s.ts k) ∧ w.grownBy w' (some g) := by
  have HT := Lib.hid h
  obtain ⟨m, hm⟩ : ∃ m, s.num k = m := ⟨_, rfl⟩
  have hm2 : m ≤ 65536 := by rw [← hm]; exact ts_num2 s hk
  subst hK
  have hm0 : (0 : Int) ≤ (m : Int) := Int.natCast_nonneg _
  have hwr : IntKind.i64.wrap (m : Int) = (m : Int) := IntWalk.i64_in _ (by omega)
  have HM := Lib.hid hm
  clear h hm
  go_enter Tryz.func18, Tryz.ntmps18
  go_wp2_with fail
  refine (num6_any HT.out k _ rfl (by omega)).mono ?_
  rintro e w2 ⟨rfl, hT, hg⟩
  rw [HM.out]
  dsimp only
  have H2 := Lib.hid hT
  have G2 := Lib.hid hg
  clear hT hg
  go_wp2_with fail
  refine (raw6_any H2.out m _ rfl (by omega)).mono ?_
  rintro e w3 ⟨⟨A, n, c, rfl, hs⟩, hT, hg⟩
  dsimp only
  have H3 := Lib.hid hT
  have G3 := Lib.hid (S3.only_trans G2.out hg)
  have S3x := Lib.hid hs
  clear hT hg hs
  go_wp2_with (first
    | ((with_reducible refine wpList_plain rfl fun KK hKK => wp_val (run_str (.tmp 10) ?_ ?_ S3x.out) (hKK _ _ ?_)); rfl; rfl)
    | fail)
  go_ret
  exact ⟨by unfold Ts.txt; rw [HM.out]; rfl, by unfold Ts.ts; rw [HM.out]; exact H3.out, G3.out⟩
end Go.Proofs.YtcofkhmgmemkmaaGreatDoor
