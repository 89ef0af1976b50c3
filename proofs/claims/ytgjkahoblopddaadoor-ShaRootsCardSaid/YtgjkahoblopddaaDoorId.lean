/-
  THE WORDS AS BYTES: a digest's id.
-/
import Derived.Test.YtgjkahoblopddaaDoorBlock
import Derived.Laws.Cover3
namespace Go.Proofs.YtgjkahoblopddaaDoor
set_option linter.unusedVariables false
set_option linter.unusedSimpArgs false
open Go.RowKit

/-- The bytes of words, the highest first. -/
def wbytes (l : List UInt32) : List UInt8 := l.flatMap fun x => be 4 x.toNat
theorem wbytes_len (l : List UInt32) : (wbytes l).length = 4 * l.length := by
  induction l with
  | nil => rfl
  | cons x r ih =>
    have h : wbytes (x :: r) = be 4 x.toNat ++ wbytes r := by simp [wbytes]
    rw [h, List.length_append, be_len, ih, List.length_cons]
    omega
theorem wbytes_take (l : List UInt32) {k : Nat} (hk : k < l.length) : wbytes (l.take (k + 1)) = wbytes (l.take k) ++ be 4 (l.getD k 0).toNat := by
  rw [List.take_succ_eq_append_getElem hk]
  have : l.getD k 0 = l[k] := by rw [List.getD_eq_getElem?_getD, List.getElem?_eq_getElem hk]; rfl
  rw [this]
  unfold wbytes
  rw [List.flatMap_append]
  simp
def idW (s : W8) : List UInt8 := wbytes s.list
theorem idW_len (s : W8) : (idW s).length = 32 := wbytes_len s.list
def Zi : List UInt8 := List.replicate 32 0
theorem Zi_len : Zi.length = 32 := List.length_replicate
theorem zero_id (w : World) : (zeroValue 26).run Tryd.prog w = .ok (.agg (bvs Zi).toArray) w := by kernel_rfl
theorem al_id {ops : Array Oper} {rest : List Oper} {op : Oper} {a : Act} {w : World} {Q : Exit → Act → World → Prop} (hgd : op.guard = none) (ho : op.op = .alloc 26)
    (h : wpList Tryd.prog ops Q rest (a.put op.dst (.pointer (some ⟨w.heap.size, 0, none⟩))) (w.alloc (.cells (bvs Zi).toArray 26))) : wpList Tryd.prog ops Q (op :: rest) a w :=
  wpList_alloc_as hgd _ ho _ zero_id h
theorem Zi_new (w : World) : Lies (w.alloc (.cells (bvs Zi).toArray 26)) w.heap.size 32 (bvs Zi) := by
  have := Lies.new w (bvs Zi) 26
  rwa [bvs_len, Zi_len] at this

set_option maxRecDepth 100000 in
set_option maxHeartbeats 1600000 in
theorem id_any (s : W8) (w : World) :
    Calls Tryd.prog 37 #[s.val] w fun e w' => e = .returned (.agg (bvs (idW s)).toArray) ∧ Below w.heap.size w w' := by
  have H8 := Lib.hid (show s.list.length = 8 from rfl)
  obtain ⟨w1, hw1⟩ : ∃ w1, w1 = w.alloc (.cells #[wv s.a, wv s.b, wv s.c, wv s.d, wv s.e, wv s.f, wv s.g, wv s.h] 61) := ⟨_, rfl⟩
  have hz1 : w1.heap.size = w.heap.size + 1 := by rw [hw1]; simp
  have hb1 : Below w.heap.size w w1 := by rw [hw1]; exact (Below.refl _ _).alloc (Nat.le_refl _) _
  have l1 : Lies w1 w.heap.size 8 (wvs s.list) := by rw [hw1]; exact Lies.new w (wvs s.list) 61
  obtain ⟨w2, hw2⟩ : ∃ w2, w2 = w1.alloc (.cells (bvs Zi).toArray 26) := ⟨_, rfl⟩
  have hz2 : w2.heap.size = w.heap.size + 1 + 1 := by rw [hw2]; simp [hz1]
  have hb2 : Below w.heap.size w w2 := by rw [hw2]; exact hb1.alloc hb1.size _
  have l12 : Lies w2 w.heap.size 8 (wvs s.list) := by rw [hw2]; exact l1.alloc _
  have l2 : Lies w2 (w.heap.size + 1) 32 (bvs Zi) := by
    have := Zi_new w1
    rw [← hw2, hz1] at this
    exact this
  have HW2 := Lib.hid (hw2.trans (by rw [hw1]))
  have L1 := Lib.hid l12
  have L2 := Lib.hid l2
  have B2 := Lib.hid hb2
  have Z2 := Lib.hid hz2
  clear hw1 hz1 hb1 l1 hw2 hz2 hb2 l12 l2
  go_enter Tryd.func37, Tryd.ntmps37
  go_wp2_with (first
    | (with_reducible refine al_id rfl rfl ?_)
    | fail)
  rw [← HW2.out]
  go_loopw [3, 8] (fun row i wr => ∃ (k m c : Nat) (A : Option Addr), k ≤ 8 ∧ i = .int .i64 (k : Int) ∧ row = .slice A m c ∧ Hid (m = 4 * k) ∧ Hid (SlB wr wr.heap.size A m c (wbytes (s.list.take k))) ∧ Hid (Below w.heap.size w wr) ∧ Hid (Lies wr (w.heap.size + 1) 32 (bvs Zi))) (fun _ i _ => 8 - (intOf i).toNat)
  case atStart => exact ⟨0, 0, 0, none, by omega, rfl, rfl, Lib.hid rfl, Lib.hid SlB.nil_, B2, L2⟩
  case round =>
    obtain ⟨k, m, c, A, hk, rfl, rfl, hm, hs, hB, hL⟩ := hrel
    by_cases hlt : k < 8
    · have hd : decide ((k : Int) < 8) = true := by simp; omega
      have hk0 : (0 : Int) ≤ (k : Int) := Int.natCast_nonneg _
      have hk1 : (k : Int) < 8 := by omega
      have hkl : k < s.list.length := hlt
      have hix : ∀ w, (Instr.index 31 s.val (.int .i64 (k : Int))).run Tryd.prog w = .ok (wv s.list[k]) w := index_words Tryd.underlying31 (show s.list.length = 8 from rfl) hkl
      have hta : s.list[k] = s.list.getD k 0 := by rw [List.getD_eq_getElem?_getD, List.getElem?_eq_getElem hkl]; rfl
      have htk := wbytes_take s.list hkl
      rw [hta] at hix
      generalize s.list.getD k 0 = x at hix htk
      have HTK := Lib.hid htk
      have HX := Lib.hid x.toNat_lt
      clear hta htk
      go_wp2_with fail
      refine (put_u32 hs.out (Nat.le_refl _) x.toNat _ rfl HX.out (by have := hm.out; omega)).mono ?_
      rintro e w5 ⟨g, hg, rfl, hb5, hw5⟩
      have S5 : Hid (SlB w5 w5.heap.size (some ⟨g, 0, none⟩) (m + 4) (m + 4) (wbytes (s.list.take (k + 1)))) := Lib.hid (by
        rw [HTK.out]
        have hlen := hs.out.len
        have hl2 : (wbytes (s.list.take k) ++ be 4 x.toNat).length = m + 4 := by rw [List.length_append, be_len, hlen]
        have := hb5.sl (B := w5.heap.size) hb5.lt (by rw [hl2]; have := hm.out; unfold maxLen; omega)
        rwa [hl2] at this)
      have B5 := Lib.hid (hB.out.trans (hw5.mono hB.out.size))
      have L5 := Lib.hid (hL.out.below hw5 hL.out.lt)
      clear hg hb5 hw5
      go_wp2
      go_roundw
      case rel => exact ⟨k + 1, m + 4, m + 4, _, by omega, by go_num, rfl, Lib.hid (by have := hm.out; omega), S5, B5, L5⟩
      case measure => simp [intOf]; omega
    · have hd : decide ((k : Int) < 8) = false := by simp; omega
      obtain rfl : k = 8 := by omega
      obtain rfl : m = 32 := hm.out
      obtain ⟨b, o, rfl, hlt2, hcs⟩ := hs.out.pos (by omega)
      have HID := Lib.hid (idW_len s)
      have R := Lib.hid (show wr.rangeAt b o (bvs (idW s)) from fun j v hv => by
        obtain ⟨hj, rfl⟩ := bvs_at _ _ _ hv
        exact hcs j hj)
      have hc32 : 32 ≤ c := hs.out.cap
      have HBB := hB
      have HL := hL
      have har := fun w => run_arrayAt (P := Tryd.prog) w 26 5 32 (some ⟨b, o, none⟩) 32 c Tryd.underlying26 (Nat.le_refl _)
      clear hcs hB hL hm hs
      go_wp2_with (first
        | (with_reducible refine ld_id rfl _ rfl b o (idW s) HID rfl R.out ?_)
        | (with_reducible refine st_id rfl _ _ rfl (w.heap.size + 1) 0 (idW s) HID rfl rfl HL.out.th ?_))
      refine bodyPost_ret (res_id rfl _ _ (w.heap.size + 1) (idW s) HID.out rfl (HL.out.set_ (l' := bvs (idW s)) (by rw [bvs_len]; exact HID.out)).rg) rfl ⟨rfl, below_setCells HBB.out (by omega) _ _⟩
end Go.Proofs.YtgjkahoblopddaaDoor
