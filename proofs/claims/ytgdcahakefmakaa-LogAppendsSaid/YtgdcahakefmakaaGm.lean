/-
  LOGS: lists of entries in memory of their own, one behind the other; a log of such.
-/
import Derived.Test.YtgdcahakefmakaaGl
namespace Go.Proofs.Ytgdcahakefmakaa
set_option linter.unusedVariables false
set_option linter.unusedSimpArgs false
open Go.RowKit Go.WideShapes Go.ChangeShapes Go.Deep Go.Shelf
attribute [local irreducible] wpQuiet

set_option maxRecDepth 100000 in
set_option maxHeartbeats 2000000 in
theorem joined_any {w : World} {A : Option Addr} {m c : Nat} {ls : List Ls} (h : SqL w w.heap.size A m c ls) (hm : m ≤ 100) (hN : (catL ls).length ≤ 10000) (hb : ∀ x ∈ catL ls, EnB x) :
    Calls Try.prog 53 #[.slice A m c] w fun e w' => (∃ A' c' l', e = .returned (.slice A' (catL ls).length c') ∧ OwnL w' w.heap.size A' (catL ls).length c' l' ∧ vsE l' = vsE (catL ls)) ∧ Below w.heap.size w w' := by
  have HD : Hid (∀ x ∈ catL ls, SlB w w.heap.size x.D.a x.D.n x.D.c x.d) := Lib.hid fun x hx => by
    obtain ⟨y, hy, hxy⟩ := List.mem_flatMap.1 hx
    exact ((h.e y hy).e x hxy).d
  have CC := Lib.hid (Concat_any h hm hN)
  obtain ⟨L, hL⟩ : ∃ L, catL ls = L := ⟨_, rfl⟩
  rw [hL] at HD CC hN hb ⊢
  have HB := Lib.hid hb
  have HN := Lib.hid hN
  clear h hL hb hN
  go_enter Try.func53, Try.ntmps53
  go_wp2_with (first | (go_at_call 58; refine CC.out.mono ?_; rintro e w1 ⟨A1, c1, rfl, ho1, hb1⟩; have HO1 := Lib.hid ho1; have HB1 := Lib.hid hb1; clear ho1 hb1) | fail)
  by_cases h0 : L.length = 0
  · obtain rfl : L = [] := List.eq_nil_of_length_eq_zero h0
    simp only [List.length_nil] at *
    go_loopw [10] (fun i wr => i = .int .i64 0 ∧ wr = w1) (fun _ _ => 0)
    case atStart => exact ⟨rfl, rfl⟩
    case round =>
      obtain ⟨rfl, rfl⟩ := hrel
      go_wp2_with fail
      go_ret
      exact ⟨⟨A1, c1, [], rfl, ⟨HO1.out, (fun x hx => by cases hx), (fun x hx => by cases hx)⟩, rfl⟩, HB1.out⟩
  obtain ⟨g, hg⟩ : ∃ g, A1 = some ⟨g, 0, none⟩ := by
    rcases HO1.out.2 with ⟨_, e⟩ | ⟨g, cap, cur, e, _⟩
    · exact absurd e h0
    · injection e with e
      exact ⟨g, e⟩
  subst hg
  have J0 : Jn w w.heap.size g c1 L.length L 0 w1 := ⟨⟨L, rfl, rfl, HO1.out, (fun j _ hj => absurd hj (by omega)), (fun _ _ => rfl), HB.out⟩, HB1.out, HB1.out.size⟩
  have HJ0 := Lib.hid J0
  clear J0
  go_loopw [10] (fun i wr => ∃ k : Nat, k ≤ L.length ∧ i = .int .i64 (k : Int) ∧ Hid (Jn w w.heap.size g c1 L.length L k wr)) (fun i _ => L.length - (intOf i).toNat)
  case atStart => exact ⟨0, Nat.zero_le _, rfl, HJ0⟩
  case round =>
    obtain ⟨k, hk, rfl, hj⟩ := hrel
    have hk0 : (0 : Int) ≤ (k : Int) := Int.natCast_nonneg _
    by_cases hlt : k < L.length
    · have hd : decide ((k : Int) < (L.length : Int)) = true := by simp; omega
      have hk1 : (k : Int) < (L.length : Int) := by omega
      obtain ⟨l', h1, h2, h3, h4, h5, h6⟩ := hj.out.ex
      obtain ⟨x, hx⟩ : ∃ x, L[k] = x := ⟨_, rfl⟩
      have hLx : L[k]? = some x := by rw [List.getElem?_eq_getElem hlt, hx]
      have hlk : l'[k]? = some x := by rw [h5 k (Nat.le_refl _), hLx]
      obtain ⟨hkl, hlk'⟩ := List.getElem?_eq_some_iff.1 hlk
      have hsq := own_sq h3 en_sz (by omega)
      obtain ⟨b, o, hbo, hbl, hrg⟩ := hsq.at_ hlt
      injection hbo with hbo
      injection hbo with hb1 hb2
      subst hb1 hb2
      have e3 : (l'[k]'hkl) = x := hlk'
      rw [e3, Nat.zero_add] at hrg
      have hgl := h3.lt g rfl
      have hf2 := h3.frozenAt (k * 3 + 2)
      have hgn : wr.there g (k * 3 + 2) 1 := fun j hj => by
        obtain rfl : j = 0 := by omega
        exact ⟨by rw [show k * 3 + 2 + 0 = k * 3 + 2 by omega, h3.cellAt (k * 3 + 2) (by omega)]; rw [show (l'.flatMap En.cells)[k * 3 + 2]? = some (.slice x.D.a x.D.n x.D.c) from by
          have := hrg 2 _ rfl
          rw [h3.cellAt (k * 3 + 2) (by omega)] at this
          exact this]; rfl, hf2⟩
      have hxm : x ∈ L := by rw [← hx]; exact List.getElem_mem hlt
      have hsl := HD.out x hxm
      have hxb := HB.out x hxm
      have HRG := Lib.hid hrg
      obtain ⟨wA, hwA⟩ : ∃ wA, wr.alloc (.cells zEn.cells.toArray 44) = wA := ⟨_, rfl⟩
      have YA : Lies wA wr.heap.size 3 zEn.cells := by rw [← hwA]; exact Lies.new wr zEn.cells 44
      obtain ⟨wB, hwB⟩ : ∃ wB, wA.setCells wr.heap.size 0 x.cells = wB := ⟨_, rfl⟩
      have YB : Lies wB wr.heap.size 3 x.cells := by rw [← hwB]; exact YA.set_ rfl
      have BB : Below wr.heap.size wr wB := by rw [← hwB, ← hwA]; exact below_setCells ((Below.refl _ _).alloc (Nat.le_refl _) _) (Nat.le_refl _) _ _
      have TA := Lib.hid YA.th
      have HWA := Lib.hid hwA
      have HWB := Lib.hid hwB
      have HBB := Lib.hid BB
      have HYB := Lib.hid YB
      have hslB : SlB wB wB.heap.size x.D.a x.D.n x.D.c x.d := (hsl.below (hj.out.bel.trans (BB.mono hj.out.sz))).more (Nat.le_trans hj.out.sz BB.size)
      have CP := Lib.hid (copied_any hslB (Nat.le_refl _) (by have := hsl.len; have := hxb.2.2; omega))
      have HXL := Lib.hid hsl.len
      have HLX := Lib.hid hLx
      have HGL := Lib.hid hgl
      have HGN := Lib.hid hgn
      clear h1 h2 h3 h4 h5 h6 hx hLx hlk hlk' hsq hbl hrg e3 hgl hxm hsl hxb hwA YA hwB YB BB hslB hgn hf2 hkl
      go_upto_region 5 with (first
        | ((with_reducible refine lde (.tmp 13) ?_ ?_ g (k * 3) x ?_ HRG.out ?_); rfl; (first | rfl | (go_simp <;> fail)); (first | rfl | go_simp))
        | ((with_reducible refine alt 44 ?_ ?_ zEn.cells zero_en ?_); rfl; (first | rfl | (go_simp <;> fail)); rw [HWA.out]; (try simp only [Act.put, List.setIfInBounds_toArray, List.set_cons_succ, List.set_cons_zero]))
        | ((with_reducible refine ste (.tmp 5) (.tmp 14) ?_ ?_ wr.heap.size 0 x ?_ ?_ TA.out ?_); rfl; (first | rfl | (go_simp <;> fail)); rfl; rfl; rw [HWB.out])
        | fail)
      have p2 := HYB.out.cell (j := 2) rfl
      go_wp2_with (first | (go_at_call 55; refine CP.out.mono ?_; rintro e w5 ⟨rfl, hl5, hb5⟩; have HL5 := Lib.hid hl5; have HB5 := Lib.hid (HBB.out.trans (hb5.mono HBB.out.size)); have HZ5 := Lib.hid (show wr.heap.size ≤ wB.heap.size from HBB.out.size); have g5 : (w5.cell? ⟨g, k * 3 + 2, none⟩).isSome = true ∧ w5.frozen? ⟨g, k * 3 + 2, none⟩ = false := (there_keep HGN.out (HB5.out.block g HGL.out.2)) 0 (by omega); obtain ⟨g6, g7⟩ := g5; obtain ⟨gv, g8⟩ := Option.isSome_iff_exists.1 g6; clear hl5 hb5 p2 g6) | fail)
      have JS := hj.out.step (x := x) hlt HLX.out HB5.out HZ5.out HL5.out
      rw [HXL.out] at JS
      have hk10 := HN.out
      have hw1 : wrap64 ((k : Int) + 1) = (k : Int) + 1 := by unfold wrap64; omega
      rw [hw1]
      refine ⟨⟨k + 1, by omega, by go_num, Lib.hid JS⟩, ?_⟩
      show L.length - ((k : Int) + 1).toNat < L.length - (k : Int).toNat
      omega
    · have hd : decide ((k : Int) < (L.length : Int)) = false := by simp; omega
      obtain ⟨l', h1, h2, h3, h4, h5, h6⟩ := hj.out.ex
      have HO := Lib.hid (show OwnL wr w.heap.size (some ⟨g, 0, none⟩) L.length c1 l' from ⟨h3, fun x hx => by
        obtain ⟨j, hj', e⟩ := List.getElem_of_mem hx
        rw [← e]
        exact h4 j hj' (by omega), h6⟩)
      have H2 := Lib.hid h2
      clear h1 h2 h3 h4 h5 h6
      go_wp2_with fail
      go_ret
      exact ⟨⟨_, _, l', rfl, HO.out, H2.out⟩, hj.out.bel⟩
end Go.Proofs.Ytgdcahakefmakaa
