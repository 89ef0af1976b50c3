/-
  THE STEPS OF A BLOCK: 64 rounds on eight words.
-/
import Derived.Test.YtgjkahoblopddaaDoorRow
namespace Go.Proofs.YtgjkahoblopddaaDoor
set_option linter.unusedVariables false
set_option linter.unusedSimpArgs false
open Go.RowKit

def ksW : List UInt32 := [1116352408, 1899447441, 3049323471, 3921009573, 961987163, 1508970993, 2453635748, 2870763221, 3624381080, 310598401, 607225278, 1426881987, 1925078388, 2162078206, 2614888103, 3248222580, 3835390401, 4022224774, 264347078, 604807628, 770255983, 1249150122, 1555081692, 1996064986, 2554220882, 2821834349, 2952996808, 3210313671, 3336571891, 3584528711, 113926993, 338241895, 666307205, 773529912, 1294757372, 1396182291, 1695183700, 1986661051, 2177026350, 2456956037, 2730485921, 2820302411, 3259730800, 3345764771, 3516065817, 3600352804, 4094571909, 275423344, 430227734, 506948616, 659060556, 883997877, 958139571, 1322822218, 1537002063, 1747873779, 1955562222, 2024104815, 2227730452, 2361852424, 2428436474, 2756734187, 3204031479, 3329325298]
theorem ksW_len : ksW.length = 64 := rfl
/-- The constants stand where the program lays them. -/
structure GK (w : World) : Prop where
  lt : 0 < w.heap.size
  rg : w.rangeAt 0 0 (wvs ksW)
theorem GK.below {w w' : World} (h : GK w) (hb : Below w.heap.size w w') : GK w' :=
  ⟨Nat.lt_of_lt_of_le h.lt hb.size, fun j v hv => (World.cell?_of_block (a := ⟨0, 0 + j, none⟩) (hb.block 0 h.lt)).trans (h.rg j v hv)⟩
theorem GK.drewN {w : World} (h : GK w) (n : Nat) : GK (w.drewN n) := ⟨h.lt, h.rg⟩
theorem GK.cell {w : World} (h : GK w) {j : Nat} (hj : j < 64) : w.cell? ⟨0, j, none⟩ = some (wv (ksW.getD j 0)) := by
  have := h.rg j _ (wvs_at ksW (show j < ksW.length from hj))
  rw [Nat.zero_add] at this
  rw [this, List.getD_eq_getElem?_getD, List.getElem?_eq_getElem (show j < ksW.length from hj)]
  rfl

/-- The eight words that go through the rounds. -/
structure W8 where
  a : UInt32
  b : UInt32
  c : UInt32
  d : UInt32
  e : UInt32
  f : UInt32
  g : UInt32
  h : UInt32
abbrev W8.val (s : W8) : Value := .agg #[wv s.a, wv s.b, wv s.c, wv s.d, wv s.e, wv s.f, wv s.g, wv s.h]
abbrev W8.list (s : W8) : List UInt32 := [s.a, s.b, s.c, s.d, s.e, s.f, s.g, s.h]
def W8.x (s : W8) (k w : UInt32) : UInt32 := s.h + spreadW s.e 6 11 25 + chW s.e s.f s.g + k + w
def W8.y (s : W8) : UInt32 := spreadW s.a 2 13 22 + mjW s.a s.b s.c
def W8.step (s : W8) (k w : UInt32) : W8 := ⟨s.x k w + s.y, s.a, s.b, s.c, s.d + s.x k w, s.e, s.f, s.g⟩
/-- What k rounds come to. -/
def W8.run (s : W8) (ws : List UInt32) : Nat → W8
  | 0 => s
  | k + 1 => (s.run ws k).step (ksW.getD k 0) (ws.getD k 0)

theorem w_sum (x y : UInt32) : ((x + y).toNat : Int) = ((x.toNat : Int) + (y.toNat : Int)) % 4294967296 := by rw [UInt32.toNat_add]; omega
theorem w_x (s : W8) (k w : UInt32) : ((s.x k w).toNat : Int) = ((s.h.toNat : Int) + ((spreadW s.e 6 11 25).toNat : Int) + ((chW s.e s.f s.g).toNat : Int) + (k.toNat : Int) + (w.toNat : Int)) % 4294967296 := by
  unfold W8.x
  simp only [UInt32.toNat_add]
  omega
theorem w_y (s : W8) : ((s.y).toNat : Int) = (((spreadW s.a 2 13 22).toNat : Int) + ((mjW s.a s.b s.c).toNat : Int)) % 4294967296 := by
  unfold W8.y
  simp only [UInt32.toNat_add]
  omega
abbrev Z8 : Array Value := #[.int .u32 0, .int .u32 0, .int .u32 0, .int .u32 0, .int .u32 0, .int .u32 0, .int .u32 0, .int .u32 0]
theorem Z8_new (w : World) : Lies (w.alloc (.cells Z8 31)) w.heap.size 8 Z8.toList := Lies.new w Z8.toList 31
set_option maxRecDepth 100000 in
set_option maxHeartbeats 1600000 in
theorem stepped_any (s : W8) (ws : List UInt32) (hw : ws.length = 64) {w : World} (hg : GK w) :
    Calls Tryd.prog 40 #[s.val, .agg (wvs ws).toArray] w fun e w' => e = .returned (s.run ws 64).val ∧ Below w.heap.size w w' := by
  have HW := Lib.hid hw
  have HG := Lib.hid hg
  have hb1 := Bl.new w 31 [wv s.a, wv s.b, wv s.c, wv s.d, wv s.e, wv s.f, wv s.g, wv s.h]
  obtain ⟨w1, hw1⟩ : ∃ w1, w1 = w.alloc (.cells #[wv s.a, wv s.b, wv s.c, wv s.d, wv s.e, wv s.f, wv s.g, wv s.h] 31) := ⟨_, rfl⟩
  rw [← hw1] at hb1
  have hz1 : w1.heap.size = w.heap.size + 1 := by rw [hw1]; simp
  obtain ⟨w2, hw2⟩ : ∃ w2, w2 = w1.alloc (.cells (wvs ws).toArray 39) := ⟨_, rfl⟩
  have hz2 : w2.heap.size = w.heap.size + 2 := by rw [hw2]; simp [hz1]
  have hr2 : w2.rangeAt (w.heap.size + 1) 0 (wvs ws) := by rw [hw2, ← hz1]; exact bl_range _ _
  have hb2 : Bl w2 w.heap.size 31 [wv s.a, wv s.b, wv s.c, wv s.d, wv s.e, wv s.f, wv s.g, wv s.h] := by rw [hw2]; exact hb1.alloc _
  obtain ⟨w3, hw3⟩ : ∃ w3, w3 = w2.alloc (.cells #[.int .u32 0, .int .u32 0, .int .u32 0, .int .u32 0, .int .u32 0, .int .u32 0, .int .u32 0, .int .u32 0] 31) := ⟨_, rfl⟩
  have hb3 : Bl w3 w.heap.size 31 [wv s.a, wv s.b, wv s.c, wv s.d, wv s.e, wv s.f, wv s.g, wv s.h] := by rw [hw3]; exact hb2.alloc _
  have hbel : Below w.heap.size w w3 := by rw [hw3, hw2, hw1]; exact (((Below.refl _ _).alloc (Nat.le_refl _) _).alloc (by simp) _).alloc (by simp; omega) _
  have hl3 : Lies w3 (w.heap.size + 2) 8 Z8.toList := by rw [hw3, ← hz2]; exact Z8_new w2
  have HL := Lib.hid hl3
  have HB := Lib.hid hbel
  have HG3 := Lib.hid (HG.out.below hbel)
  have HR3 : Hid (w3.rangeAt (w.heap.size + 1) 0 (wvs ws)) := Lib.hid (by rw [hw3]; exact fun j v hv => (World.cell?_of_block (a := ⟨w.heap.size + 1, 0 + j, none⟩) (Below.heap_alloc _ _ _ (by show w.heap.size + 1 < _; omega))).trans (hr2 j v hv))
  have e0 := hb3.cell 0
  have e1 := hb3.cell 1
  have e2 := hb3.cell 2
  have e3 := hb3.cell 3
  have e4 := hb3.cell 4
  have e5 := hb3.cell 5
  have e6 := hb3.cell 6
  have e7 := hb3.cell 7
  simp only [List.getElem?_cons_zero, List.getElem?_cons_succ] at e0 e1 e2 e3 e4 e5 e6 e7
  have HW3 := Lib.hid (hw3.trans (by rw [hw2, hw1]))
  clear hl3 hw hg hb1 hw1 hz1 hw2 hz2 hr2 hb2 hw3 hb3 hbel
  go_enter Tryd.func40, Tryd.ntmps40
  go_wp2
  rw [← HW3.out]
  go_quiet (fail)
  have HR4 := Lib.hid (show (w3.drewN nq).rangeAt (w.heap.size + 1) 0 (wvs ws) from HR3.out)
  go_wp2_with (first | (with_reducible refine ld_w64 rfl _ rfl (w.heap.size + 1) 0 ws HW rfl HR4.out ?_))
  go_loopw [5, 6, 7, 8, 9, 10, 11, 12, 34] (fun va vb vc vd ve vf vg vh i wr => ∃ k : Nat, k ≤ 64 ∧ i = .int .i64 (k : Int) ∧ va = wv (s.run ws k).a ∧ vb = wv (s.run ws k).b ∧ vc = wv (s.run ws k).c ∧ vd = wv (s.run ws k).d ∧ ve = wv (s.run ws k).e ∧ vf = wv (s.run ws k).f ∧ vg = wv (s.run ws k).g ∧ vh = wv (s.run ws k).h ∧ Hid (∃ n, wr = w3.drewN n)) (fun _ _ _ _ _ _ _ _ i _ => 64 - (intOf i).toNat)
  case atStart => exact ⟨0, by omega, rfl, rfl, rfl, rfl, rfl, rfl, rfl, rfl, rfl, Lib.hid ⟨nq, rfl⟩⟩
  case round =>
    obtain ⟨k, hk, rfl, rfl, rfl, rfl, rfl, rfl, rfl, rfl, rfl, HD⟩ := hrel
    obtain ⟨t, ht⟩ : ∃ t, s.run ws k = t := ⟨_, rfl⟩
    have HST : Hid (s.run ws (k + 1) = t.step (ksW.getD k 0) (ws.getD k 0)) := Lib.hid (by rw [← ht]; rfl)
    rw [ht]
    have HRT := Lib.hid ht
    clear ht
    by_cases hlt : k < 64
    · have hd : decide ((k : Int) < 64) = true := by simp; omega
      have hk0 : (0 : Int) ≤ (k : Int) := Int.natCast_nonneg _
      have hk1 : (k : Int) < 64 := by omega
      have hgk : wr.cell? ⟨0, k, none⟩ = some (wv (ksW.getD k 0)) := by
        obtain ⟨n, h⟩ := HD.out
        rw [h]
        exact (HG3.out.drewN n).cell hlt
      have hws : k < ws.length := by rw [HW.out]; exact hlt
      have hix := index_words Tryd.underlying39 HW.out hws
      have hwg : ws.getD k 0 = ws[k] := by rw [List.getD_eq_getElem?_getD, List.getElem?_eq_getElem hws]; rfl
      have HWG := Lib.hid hwg
      clear hwg
      generalize ws[k] = x at hix HWG
      generalize ksW.getD k 0 = kc at hgk HST
      have C1 := Lib.hid (fun j => Calls.quiet_of (n := j) (spread_any t.e 6 11 25 6 11 25 rfl rfl rfl (by omega) (by omega) (by omega) (wr.drewN j)))
      have C2 := Lib.hid (fun j => quiet_eq (n := j) (chosen_any t.e t.f t.g (wr.drewN j)))
      go_wp2
      go_quiet ((first | (go_at_call 56; with_reducible exact C1.out _) | (go_at_call 57; with_reducible exact C2.out _)))
      have D1 := Lib.hid (fun w => spread_any t.a 2 13 22 2 13 22 rfl rfl rfl (by omega) (by omega) (by omega) w)
      have D2 := Lib.hid (fun w => most_any t.a t.b t.c w)
      go_wp2_with (first
        | (go_at_call 56; refine (D1.out _).mono ?_; rintro e w' ⟨rfl, m1, rfl⟩)
        | (go_at_call 58; refine (D2.out _).mono ?_; rintro e w' ⟨rfl, rfl⟩))
      go_roundw
      case rel =>
        have hs := HST.out
        rw [HWG.out] at hs
        refine ⟨k + 1, by omega, by go_num, ?_, ?_, ?_, ?_, ?_, ?_, ?_, ?_, Lib.hid ?_⟩
        · rw [hs, ← w_x, ← w_y, ← w_sum]; rfl
        · rw [hs]; rfl
        · rw [hs]; rfl
        · rw [hs]; rfl
        · rw [hs, ← w_x, ← w_sum]; rfl
        · rw [hs]; rfl
        · rw [hs]; rfl
        · rw [hs]; rfl
        · obtain ⟨n, h⟩ := HD.out
          exact ⟨n + (nq + m1), by rw [h, World.drewN_drewN]⟩
      case measure => simp [intOf]; omega
    · have hd : decide ((k : Int) < 64) = false := by simp; omega
      obtain rfl : k = 64 := by omega
      have HST2 := HST
      clear HST
      have HLr : Hid (Lies wr (w.heap.size + 1 + 1) 8 Z8.toList) := Lib.hid (by obtain ⟨n, h⟩ := HD.out; rw [h]; exact HL.out.drewN n)
      have H8 := Lib.hid (show t.list.length = 8 from rfl)
      go_wp2_with (with_reducible refine st_w8 rfl _ _ rfl (w.heap.size + 1 + 1) 0 t.list H8 rfl rfl HLr.out.th ?_)
      refine bodyPost_ret (res_w8 rfl _ _ (w.heap.size + 1 + 1) t.list rfl rfl (HLr.out.set_ (l' := wvs t.list) rfl).rg) rfl ⟨by rw [HRT.out]; rfl, ?_⟩
      obtain ⟨n, h⟩ := HD.out
      rw [h]
      exact below_setCells (below_drewN HB.out n) (by omega) _ _
end Go.Proofs.YtgjkahoblopddaaDoor
