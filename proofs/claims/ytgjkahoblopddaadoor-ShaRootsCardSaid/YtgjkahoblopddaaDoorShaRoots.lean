/-
  PROVED HERE: the law ShaRoots of layer 3 (sha): whatever number is looked at, that constant is the word by the cube root of that prime, and that word of the beginning the one by the square root; what is handed out is memory of its own. Conditions: the package variable sha.constants holds what the program's text lays (the card ties it).
-/
import Derived.Test.YtgjkahoblopddaaDoorRoot4
import Derived.Test.YtgjkahoblopddaaDoorFrame
import Derived.Test.YtgjkahoblopddaaDoorFrame
import Derived.Test.YtgjkahoblopddaaDoorCards
import Derived.Test.YtgjkahoblopddaaDoorTie
import Derived.SevenTiedAt
namespace Go.Proofs.YtgjkahoblopddaaDoor.shaRoots
open Go.ChangeShapes Go.WideShapes Go.ChangeAt Go.RowKit
set_option linter.unusedVariables false
set_option linter.unusedSimpArgs false

theorem own_word {w : World} {base g c n k : Nat} {l : List UInt32} (h : w.ownsRow base 30 1 (.slice (some ⟨g, 0, none⟩) n c) n (wvs (l.take n))) (hk : k < n) (hn : n ≤ l.length) : w.cell? ⟨g, k, none⟩ = some (wv (l.getD k 0)) ∧ g < w.heap.size := by
  have h1 := h.cellAt k (by omega)
  refine ⟨?_, (h.lt g rfl).2⟩
  rw [h1, List.getD_eq_getElem?_getD, List.getElem?_eq_getElem (show k < l.length by omega)]
  simp [wvs, List.getElem?_take, hk, List.getElem?_eq_getElem (show k < l.length by omega)]
theorem known_here (w : World) : Calls Tryd.prog 19 #[] w fun e w' => ∃ g, e = .returned (.slice (some ⟨g, 0, none⟩) 64 64) ∧ Lies w' g 64 (wvs ksW) ∧ Below w.heap.size w w' := by
  have L := Lib.hid (show Lies (w.alloc (.cells (wvs ksW).toArray 30)) w.heap.size 64 (wvs ksW) from Lies.new w (wvs ksW) 30)
  have B := Lib.hid (show Below w.heap.size w (w.alloc (.cells (wvs ksW).toArray 30)) from (Below.refl _ _).alloc (Nat.le_refl _) _)
  go_enter Tryd.func19, Tryd.ntmps19
  go_wp2
  go_ret
  exact ⟨w.heap.size, rfl, L.out, B.out⟩
set_option maxRecDepth 100000 in
set_option maxHeartbeats 1600000 in
theorem words_same {g g' : Nat} {l : List UInt32} {w : World} (hl : l.length = 64) (h : Lies w g 64 (wvs l)) (h' : Lies w g' 64 (wvs l)) :
    Calls Tryd.prog 23 #[.slice (some ⟨g, 0, none⟩) 64 64, .slice (some ⟨g', 0, none⟩) 64 64] w fun e w' => e = .returned (.bool true) ∧ ∃ m, w' = w.drewN m := by
  have HC := Lib.hid (fun j (hj : j < 64) => h.cell (wvs_at l (show j < l.length by omega)))
  have HC' := Lib.hid (fun j (hj : j < 64) => h'.cell (wvs_at l (show j < l.length by omega)))
  clear h h'
  go_enter Tryd.func23, Tryd.ntmps23
  go_wp2_with fail
  go_loopw [13] (fun i wr => ∃ j : Nat, j ≤ 64 ∧ i = .int .i64 (j : Int) ∧ Hid (∃ m, wr = w.drewN m)) (fun i _ => 64 - (intOf i).toNat)
  case atStart => exact ⟨0, Nat.zero_le _, rfl, Lib.hid ⟨0, rfl⟩⟩
  case round =>
    obtain ⟨j, hj, rfl, HD⟩ := hrel
    by_cases hlt : j < 64
    · have hd : decide ((j : Int) < 64) = true := by simp; omega
      have hj0 : (0 : Int) ≤ (j : Int) := Int.natCast_nonneg _
      have hj1 : (j : Int) < 64 := by omega
      obtain ⟨y, hy⟩ : ∃ y, l[j]'(by omega) = y := ⟨_, rfl⟩
      have c1 : wr.cell? ⟨g, j, none⟩ = some (wv y) := by
        obtain ⟨m, hm⟩ := HD.out
        rw [hm, ← hy]
        exact HC.out j hlt
      have c2 : wr.cell? ⟨g', j, none⟩ = some (wv y) := by
        obtain ⟨m, hm⟩ := HD.out
        rw [hm, ← hy]
        exact HC'.out j hlt
      clear hy
      go_wp2_with fail
      go_quiet (fail)
      go_wp2_with fail
      go_roundw
      case rel => exact ⟨j + 1, by omega, by go_num, Lib.hid (by obtain ⟨m, hm⟩ := HD.out; exact ⟨m + nq, by rw [hm, World.drewN_drewN]⟩)⟩
      case measure => simp [intOf]; omega
    · obtain rfl : j = 64 := by omega
      go_wp2_with fail
      go_ret
      exact ⟨rfl, HD.out⟩

set_option maxRecDepth 100000 in
set_option maxHeartbeats 3200000 in
theorem walk (a : Int) {w : World} (hg : GK w) :
    Calls Tryd.prog 5 #[.int .i64 a] w fun e w' => e = .returned (.bool true) ∧ Below w.heap.size w w' := by
  obtain ⟨k, hk⟩ : ∃ k : Nat, a % 18446744073709551616 % 64 = (k : Int) := ⟨(a % 18446744073709551616 % 64).toNat, by omega⟩
  have hk64 : k < 64 := by omega
  have hkv : wrap64 ((IntKind.u64.wrap a).tmod 64) = (k : Int) := by
    rw [IntKind.wrap_u64, Int.tmod_eq_emod_of_nonneg (by omega), hk]
    unfold wrap64
    omega
  have HKV := Lib.hid hkv
  obtain ⟨l, hl⟩ : ∃ l, ksW = l := ⟨_, rfl⟩
  obtain ⟨s, hs⟩ : ∃ s, startW = s := ⟨_, rfl⟩
  have C1 := Lib.hid (fun w' (h : GK w') => constants_any h)
  have C2 := Lib.hid (fun w' => start_any w')
  have C3 := Lib.hid (fun w' => known_here w')
  have R3 := Lib.hid ro_cubes
  have R2 := Lib.hid ro_squares
  rw [hl] at C1 C3 R3
  rw [hs] at C2 R2
  have HL := Lib.hid (show l.length = 64 by rw [← hl]; rfl)
  have HS := Lib.hid (show s.list.length = 8 from rfl)
  have HG := Lib.hid hg
  clear hg hkv hk hl hs
  obtain ⟨m, hm⟩ : ∃ m, k % 8 = m := ⟨_, rfl⟩
  have hm8 : m < 8 := by omega
  have hmi : (k : Int) % 8 = (m : Int) := by omega
  have hk0 : (0 : Int) ≤ (k : Int) := Int.natCast_nonneg _
  have hkI : (k : Int) < 64 := by omega
  have hm0 : (0 : Int) ≤ (m : Int) := Int.natCast_nonneg _
  have hmI : (m : Int) < 8 := by omega
  have hmt : (k : Int).tmod 8 = (m : Int) := by rw [Int.tmod_eq_emod_of_nonneg hk0]; exact hmi
  have HMT := Lib.hid (And.intro hmi hmt)
  clear hm hmi hmt
  go_enter Tryd.func5, Tryd.ntmps5
  go_wp2_with fail
  refine (wakes_any HG.out).mono ?_
  rintro e w1 ⟨rfl, hb1⟩
  have B1 := Lib.hid hb1
  clear hb1
  go_wp2_with fail
  rw [HKV.out]
  refine (C1.out _ (HG.out.below B1.out)).mono ?_
  rintro e w2 ⟨rfl, hb2⟩
  have B2 := Lib.hid (B1.out.trans (hb2.mono B1.out.size))
  clear hb2
  go_wp2_with fail
  refine (C2.out _).mono ?_
  rintro e w3 ⟨rfl, hb3⟩
  have B3 := Lib.hid (B2.out.trans (hb3.mono B2.out.size))
  clear hb3
  have LA : Hid (Lies ((w3.alloc (.cells (wvs Zw).toArray 39)).alloc (.cells Z8 31)) w3.heap.size 64 (wvs Zw)) := Lib.hid (by
    have := Lies.new w3 (wvs Zw) 39
    rw [wvs_len, Zw_len] at this
    exact this.alloc _)
  have LB : Hid (Lies ((w3.alloc (.cells (wvs Zw).toArray 39)).alloc (.cells Z8 31)) (w3.heap.size + 1) 8 Z8.toList) := Lib.hid (by
    have := Z8_new (w3.alloc (.cells (wvs Zw).toArray 39))
    rwa [World.size_alloc] at this)
  have LA1 := Lib.hid (LA.out.set_ (l' := wvs l) (by rw [wvs_len, HL.out]))
  have LB1 := Lib.hid (LB.out.other (b' := w3.heap.size) (by omega) 0 (wvs l))
  have LA2 := Lib.hid (LA1.out.other (b' := w3.heap.size + 1) (by omega) 0 (wvs s.list))
  have LB2 := Lib.hid (LB1.out.set_ (l' := wvs s.list) rfl)
  have B4 := Lib.hid (below_setCells (below_setCells ((B3.out.alloc B3.out.size (.cells (wvs Zw).toArray 39)).alloc (by have := B3.out.size; simp; omega) (.cells Z8 31)) B3.out.size 0 (wvs l)) (Nat.le_succ_of_le B3.out.size) 0 (wvs s.list))
  have BC := Lib.hid B3.out.size
  have HLB := Lib.hid (And.intro LA.out.th LB1.out.th)
  go_wp2_with (first | (with_reducible refine al_w64 rfl rfl ?_) | (with_reducible refine st_w64 rfl _ _ rfl w3.heap.size 0 l HL rfl rfl HLB.out.1 ?_) | (with_reducible refine st_w8 rfl _ _ rfl (w3.heap.size + 1) 0 s.list HS rfl rfl HLB.out.2 ?_))
  clear HLB LA LB LA1 LB1 B1 B2 B3
  obtain ⟨bc, hbc⟩ : ∃ bc, w3.heap.size = bc := ⟨_, rfl⟩
  generalize (((w3.alloc (.cells (wvs Zw).toArray 39)).alloc (.cells Z8 31)).setCells w3.heap.size 0 (wvs l)).setCells (w3.heap.size + 1) 0 (wvs s.list) = w4 at LA2 LB2 B4 ⊢
  rw [hbc] at LA2 LB2 BC ⊢
  clear hbc
  refine (words_any R3.out (by omega) (k + 1) (by omega) _ _ rfl rfl _).mono ?_
  rintro e w5 ⟨v5, rfl, ho5, hb5⟩
  obtain ⟨g5, c5, rfl, hg5⟩ := ho5.form (by omega)
  have NE5 := Lib.hid (show g5 ≠ bc ∧ g5 ≠ bc + 1 by have h1 := (ho5.lt g5 rfl).1; have h2 := LB2.out.lt; omega)
  have O5 := Lib.hid (own_word (k := k) ho5 (by omega) (by rw [HL.out]; omega))
  have B5 := Lib.hid (B4.out.trans (hb5.mono B4.out.size))
  have LC5 := Lib.hid (LA2.out.below hb5 LA2.out.lt)
  have LS5 := Lib.hid (LB2.out.below hb5 LB2.out.lt)
  have hc5 : k + 1 ≤ c5 := by
    rcases ho5.2 with ⟨h1, _⟩ | ⟨q, cap', cur, h1, _, _, h2, _⟩
    · cases h1
    · cases h1; exact h2
  clear hb5 ho5 LA2 LB2 B4
  have hmt := HMT.out.2
  have hmi := HMT.out.1
  go_wp2_with fail
  refine (words_any R2.out (by omega) (m + 1) (by omega) _ _ rfl rfl _).mono ?_
  rintro e w6 ⟨v6, rfl, ho6, hb6⟩
  obtain ⟨g6, c6, rfl, hg6⟩ := ho6.form (by omega)
  have NE6 := Lib.hid (show g6 ≠ bc ∧ g6 ≠ bc + 1 by have h1 := (ho6.lt g6 rfl).1; have h2 := LS5.out.lt; omega)
  have O6 := Lib.hid (own_word (k := m) ho6 (by omega) (by rw [HS.out]; omega))
  have B6 := Lib.hid (B5.out.trans (hb6.mono B5.out.size))
  have LC6 := Lib.hid (LC5.out.below hb6 LC5.out.lt)
  have LS6 := Lib.hid (LS5.out.below hb6 LS5.out.lt)
  have O56 := Lib.hid ((hb6.cell (p := ⟨g5, k, none⟩) O5.out.2).trans O5.out.1)
  have G5 := Lib.hid (Nat.lt_of_lt_of_le O5.out.2 hb6.size)
  clear hb6 ho6 LC5 LS5 B5
  obtain ⟨x, hx⟩ : ∃ x, l.getD k 0 = x := ⟨_, rfl⟩
  obtain ⟨y, hy⟩ : ∃ y, s.list.getD m 0 = y := ⟨_, rfl⟩
  rw [hx] at O56
  rw [hy] at O6
  have CC : Hid (w6.cell? ⟨bc, k, none⟩ = some (wv x)) := Lib.hid (by
    have hkl : k < l.length := by rw [HL.out]; exact hk64
    rw [LC6.out.cell (wvs_at l hkl), ← hx, List.getD_eq_getElem?_getD, List.getElem?_eq_getElem hkl]
    rfl)
  have CS : Hid (w6.cell? ⟨bc + 1, m, none⟩ = some (wv y)) := Lib.hid (by
    have hkl : m < s.list.length := hm8
    rw [LS6.out.cell (wvs_at s.list hkl), ← hy, List.getD_eq_getElem?_getD, List.getElem?_eq_getElem hkl]
    rfl)
  have HXY := Lib.hid (And.intro hx hy)
  have HK := Lib.hid (fun w' (hb : Below w6.heap.size w6 w') => show w'.cell? ⟨bc, k, none⟩ = some (wv x) ∧ w'.cell? ⟨g5, k, none⟩ = some (wv x) ∧ w'.cell? ⟨bc + 1, m, none⟩ = some (wv y) ∧ w'.cell? ⟨g6, m, none⟩ = some (wv y) from
    ⟨(hb.cell (p := ⟨_, _, none⟩) LC6.out.lt).trans CC.out, (hb.cell (p := ⟨_, _, none⟩) G5.out).trans O56.out, (hb.cell (p := ⟨_, _, none⟩) LS6.out.lt).trans CS.out, (hb.cell (p := ⟨_, _, none⟩) O6.out.2).trans O6.out.1⟩)
  have BD := Lib.hid (show Below w6.heap.size w6 w6.drew from (Below.refl _ _).drew)
  have HKD := Lib.hid (HK.out _ BD.out)
  have hk1 : (k : Int) < (k : Int) + 1 := by omega
  have hm1 : (m : Int) < (m : Int) + 1 := by omega
  clear hx hy
  go_wp2_with fail
  go_region_held3 (fun w' => w'.cell? ⟨bc, k, none⟩ = some (wv x) ∧ w'.cell? ⟨g5, k, none⟩ = some (wv x) ∧ w'.cell? ⟨bc + 1, m, none⟩ = some (wv y) ∧ w'.cell? ⟨g6, m, none⟩ = some (wv y))
    (first | with_reducible exact HKD.out | with_reducible exact HK7.out | with_reducible exact HK8.out)
    (first
      | (go_at_call 19; (with_reducible refine (C3.out _).mono ?_); rintro e w7 ⟨g7, rfl, hl7, hb7⟩; have B7 := Lib.hid (BD.out.trans (hb7.mono BD.out.size)); have HK7 := Lib.hid (HK.out _ B7.out); have L7 := Lib.hid hl7; clear hb7 hl7)
      | (go_at_call 23; refine (words_same HL.out (LC6.out.below B7.out LC6.out.lt) L7.out).mono ?_; rintro e w8 ⟨rfl, n8, hw8⟩; have B8 : Hid (Below w6.heap.size w6 w8) := Lib.hid (by rw [hw8]; exact below_drewN B7.out n8); have HK8 := Lib.hid (HK.out _ B8.out); clear hw8))
  obtain ⟨hc1, hc2, hc3, hc4⟩ := HK8.out
  have hf1 := (LC6.out.below B8.out LC6.out.lt).frozen hk64
  have hf2 := (LS6.out.below B8.out LS6.out.lt).frozen hm8
  have hne1 : bc + 1 ≠ bc := by omega
  have B9 : Hid (Below w.heap.size w ((w8.setCell ⟨bc, k, none⟩ (.int .u32 (((x.toNat : Int) + 1) % 4294967296))).setCell ⟨bc + 1, m, none⟩ (.int .u32 (((y.toNat : Int) + 1) % 4294967296)))) := Lib.hid (((B6.out.trans (B8.out.mono B6.out.size)).setCell (p := ⟨bc, k, none⟩) BC.out _).setCell (p := ⟨bc + 1, m, none⟩) (Nat.le_succ_of_le BC.out) _)
  have K9 : Hid (∀ g q u, g ≠ bc ∧ g ≠ bc + 1 → w8.cell? ⟨g, q, none⟩ = some u → ((w8.setCell ⟨bc, k, none⟩ (.int .u32 (((x.toNat : Int) + 1) % 4294967296))).setCell ⟨bc + 1, m, none⟩ (.int .u32 (((y.toNat : Int) + 1) % 4294967296))).cell? ⟨g, q, none⟩ = some u) := Lib.hid fun g q u hn h =>
    (World.cell?_of_block (a := ⟨g, q, none⟩) (Below.heap_setCell _ _ _ g hn.2)).trans ((World.cell?_of_block (a := ⟨g, q, none⟩) (Below.heap_setCell _ _ _ g hn.1)).trans h)
  have Z9 : Hid (w8.heap.size ≤ ((w8.setCell ⟨bc, k, none⟩ (.int .u32 (((x.toNat : Int) + 1) % 4294967296))).setCell ⟨bc + 1, m, none⟩ (.int .u32 (((y.toNat : Int) + 1) % 4294967296))).heap.size) := Lib.hid (by simp [World.setCell])
  have P8 := Lib.hid (And.intro hc2 hc4)
  go_wp2_with fail
  generalize (w8.setCell ⟨bc, k, none⟩ (.int .u32 (((x.toNat : Int) + 1) % 4294967296))).setCell ⟨bc + 1, m, none⟩ (.int .u32 (((y.toNat : Int) + 1) % 4294967296)) = w9 at B9 K9 Z9 ⊢
  have Q9 := Lib.hid (And.intro (K9.out g5 k _ NE5.out P8.out.1) (K9.out g6 m _ NE6.out P8.out.2))
  have GL := Lib.hid (show g5 < w9.heap.size ∧ g6 < w9.heap.size by
    have h1 := Z9.out
    have h2 := B8.out.size
    have h3 := G5.out
    have h4 := O6.out.2
    omega)
  have HM := Lib.hid (fun w' (hb : Below w9.heap.size w9 w') => show w'.cell? ⟨g5, k, none⟩ = some (wv x) ∧ w'.cell? ⟨g6, m, none⟩ = some (wv y) from
    ⟨(hb.cell (p := ⟨_, _, none⟩) GL.out.1).trans Q9.out.1, (hb.cell (p := ⟨_, _, none⟩) GL.out.2).trans Q9.out.2⟩)
  have D9 := Lib.hid (show Below w9.heap.size w9 w9.drew from (Below.refl _ _).drew)
  have MD := Lib.hid (HM.out _ D9.out)
  have hkl : k < l.length := by rw [HL.out]; exact hk64
  have hml : m < s.list.length := hm8
  have ex : l[k] = x := by rw [← HXY.out.1, List.getD_eq_getElem?_getD, List.getElem?_eq_getElem hkl]; rfl
  have ey : s.list[m] = y := by rw [← HXY.out.2, List.getD_eq_getElem?_getD, List.getElem?_eq_getElem hml]; rfl
  have hi1 : ∀ w', (Instr.index 39 (.agg (wvs l).toArray) (.int .i64 (k : Int))).run Tryd.prog w' = .ok (wv x) w' := fun w' => by
    rw [← ex]; exact index_words Tryd.underlying39 HL.out hkl w'
  have hi2 : ∀ w', (Instr.index 31 s.val (.int .i64 (m : Int))).run Tryd.prog w' = .ok (wv y) w' := fun w' => by
    rw [← ey]; exact index_words Tryd.underlying31 rfl hml w'
  clear ex ey hc1 hc2 hc3 hc4 hf1 hf2 hkl hml
  go_region_held3 (fun w' => w'.cell? ⟨g5, k, none⟩ = some (wv x) ∧ w'.cell? ⟨g6, m, none⟩ = some (wv y))
    (first | with_reducible exact MD.out | with_reducible exact MA.out | with_reducible exact MB.out)
    (first
      | (go_at_call 20; (with_reducible refine (C1.out _ (HG.out.below (B9.out.trans (D9.out.mono B9.out.size)))).mono ?_); rintro e wa ⟨rfl, hba⟩; have BA := Lib.hid (D9.out.trans (hba.mono D9.out.size)); have MA := Lib.hid (HM.out _ BA.out); clear hba)
      | (go_at_call 21; (with_reducible refine (C2.out _).mono ?_); rintro e wb ⟨rfl, hbb⟩; have BB : Hid (Below w9.heap.size w9 wb) := Lib.hid (BA.out.trans (hbb.mono BA.out.size)); have MB := Lib.hid (HM.out _ BB.out); clear hbb))
  go_wp2
  go_ret
  exact ⟨rfl, B9.out.trans (BB.out.mono B9.out.size)⟩

set_option maxRecDepth 100000 in
theorem lifted (os : Os) (started : os.Started) (H : Type) (enc : TypeId × Value → H) :
    ReturnsInHanded {} Tryd.checked os 5 .any (fun w args => (Rows.shaRootsSpec.pre enc Tryd.prog Tryd.f5 [] false w args ∧ laidMetH Tryd.prog laidL w) ∧ sizedMet enc Tryd.prog Tryd.f5 (OpenSpec.ofChange Rows.shaRootsSpec) false w args)
      (Rows.shaRootsSpec.post enc Tryd.prog Tryd.f5 false true false false) := by
  refine returnsInHanded_of_change_and (C := Tryd.checked) (X := fun w _ => laidMetH Tryd.prog laidL w) (fun _ _ _ hh h => h.of_heap hh) own started (by kernel_rfl) Tryd.func5
    (ChangeSpec.witness_shaped (enc := enc) (C := Tryd.checked) (os := os) (X := fun w _ => laidMetH Tryd.prog laidL w) false (World.doorLaid Tryd.prog 14 os) #[.int .i64 0] 8 rfl (World.shaped_of_RefB (by kernel_rfl) (by kernel_rfl)) (by kernel_rfl) (by kernel_rfl) (by kernel_rfl) (door_met os _)) ?_
  intro W base args ds gs before hval0 hW _ _ hL _
  have hval : ∀ (j : Nat) t v, Tryd.f5.params[j]? = some t → args[j]? = some v → Value.okWide Tryd.prog W .any base t v := hval0
  have hW' := hW
  obtain ⟨p, q, hA0, hV, rfl, hfz, hnd⟩ := hW
  have hA : DataW.TrodAll enc Tryd.prog W 0 (fun _ => true) true Tryd.f5.params.toList args.toList ds p := hA0
  rw [Tryd.params5] at hA hval
  obtain ⟨v0, vs0, d0, ds0, p0, q0, hargs, rfl, rfl, h0, r0⟩ := trodAll_cons hA
  obtain ⟨rfl, rfl, rfl⟩ := trodAll_nil r0
  obtain rfl : args = #[v0] := by cases args; simp_all
  obtain ⟨rfl, rfl⟩ := trodVars_none hV
  have hGK := gk_of_laid hL
  have k0 := h0
  have lt0 : ∀ x ∈ p0, x.block < W.heap.size := by obtain ⟨m, hm⟩ := k0; exact DataW.trod_lt m _ _ _ hm
  obtain ⟨a0, rfl, e0, f0, w0⟩ := open_int Tryd.underlying3 (hval 0 3 v0 rfl rfl) h0
  have b0 := bounds_i64 w0
  clear hA0 hval0
  refine (walk a0 hGK).mono fun e W' ⟨he, bel⟩ => ?_
  subst he
  exact ⟨_, rfl, _, _, _, [], _, [], hW', trodAll_mk1 (shut_bool Tryd.underlying4 _), (trodAll_cons_mk (Below.trod laidOut (by kernel_rfl) (of_decide_eq_true (by kernel_rfl)) k0 bel lt0) trodAll_mk0), rfl, bel.frame _, fun h => by cases h⟩

theorem over : Rows.shaRootsRow.holds Tryd.pinned (OpenSpec.ofChange Rows.shaRootsSpec) :=
  OpenClaim.holds_of_wide 5 Tryd.f5 rfl rfl rfl rfl rfl rfl rfl ⟨rfl, rfl, rfl, rfl, rfl⟩ rfl rfl rfl rfl rfl (by kernel_rfl) Tryd.func5 (by kernel_rfl)
    (of_decide_eq_true (by kernel_rfl)) (by unfold Func.isWrapper; first | (rw [if_pos (by decide +kernel)]; kernel_rfl) | (rw [if_neg (by decide +kernel)]; exact ⟨rfl, rfl⟩))
    (fun os started H enc _ => lifted os started H enc)

theorem proved : Rows.ShaRootsCardSaid :=
  Claim7.holds_tied_plain_at .later [] [.data] true Rows.shaRootsCard.stood.harness false
    over (fun _ h => by cases h) (by kernel_rfl) (fun _ h => by cases h) shaRoots_row_tie rfl ⟨rfl, rfl⟩ (by kernel_rfl) rfl
    (fun f fn hf hfn => by
      obtain rfl : f = 5 := Option.some.inj ((show Tryd.prog.funcNamed "confluence/confluencelaw03.ShaRoots" = some 5 by kernel_rfl).symm.trans hf) |>.symm
      obtain rfl : fn = Tryd.f5 := (Option.some.inj (Tryd.func5.symm.trans hfn)).symm
      exact ⟨by kernel_rfl, fun j t ht => by
        have hall : (Tryd.f5.params.all fun u => !Tryd.prog.wantsStandIn u) = true := by kernel_rfl
        have := Array.all_eq_true_iff_forall_mem.1 hall t (Array.mem_of_getElem? ht)
        exact (by simpa using this : Tryd.prog.wantsStandIn t = false)⟩)
    (by kernel_rfl)
#print axioms proved
end Go.Proofs.YtgjkahoblopddaaDoor.shaRoots
