/-
  PROVED HERE: the law ShaBack of layer 3 (sha): parsed, the text of any digest is that digest, and it has 64 signs; what any text parses to has that text, or the text is refused, with the digest of noughts. Conditions: the package variable sha.constants holds what the program's text lays (the card ties it).
-/
import Derived.Test.YtgbpbbjglikheaaDoorWake
import Derived.Test.YtgbpbbjglikheaaDoorFrame
import Derived.Test.YtgbpbbjglikheaaDoorCards
import Derived.Test.YtgbpbbjglikheaaDoorTie
import Derived.SevenTiedAt
namespace Go.Proofs.YtgbpbbjglikheaaDoor.shaBack
open Go.ChangeShapes Go.WideShapes Go.ChangeAt Go.RowKit
set_option linter.unusedVariables false
set_option linter.unusedSimpArgs false

def smB (s : ByteArray) : ByteArray := s.extract 0 (min s.size 200)

set_option maxRecDepth 100000 in
set_option maxHeartbeats 1600000 in
theorem walk (x : List UInt8) (hx : x.length = 32) (s : ByteArray) {w : World} (hg : GK w) :
    Calls Tryd.prog 8 #[.agg (bvs x).toArray, .string s] w fun e w' => e = .returned (.bool true) ∧ Below w.heap.size w w' := by
  have HX := Lib.hid hx
  have l1 : Lies (w.alloc (.cells (bvs x).toArray 26)) w.heap.size 32 (bvs x) := by
    have := Lies.new w (bvs x) 26
    rwa [bvs_len, hx] at this
  have L1 := Lib.hid l1
  have B1 := Lib.hid (show Below w.heap.size w (w.alloc (.cells (bvs x).toArray 26)) from (Below.refl _ _).alloc (Nat.le_refl _) _)
  have G1 := Lib.hid (hg.alloc (.cells (bvs x).toArray 26))
  clear l1 hx hg
  go_enter Tryd.func8, Tryd.ntmps8
  go_wp2_with fail
  generalize w.alloc (.cells (bvs x).toArray 26) = w1 at L1 B1 G1 ⊢
  refine (wakes_any G1.out).mono ?_
  rintro e w2 ⟨rfl, hb2⟩
  have L2 := Lib.hid (L1.out.below hb2 L1.out.lt)
  have B2 := Lib.hid (B1.out.trans (hb2.mono B1.out.size))
  clear hb2
  go_wp2_with (first
    | (with_reducible refine ld_id rfl (.tmp 2) rfl w.heap.size 0 x HX rfl L2.out.rg ?_))
  generalize s.extract 0 (min (s.size : Int) 200).toNat = s2
  refine (text_any x HX.out _).mono ?_
  rintro e w3 ⟨rfl, hb3⟩
  have L3 := Lib.hid (L2.out.below hb3 L2.out.lt)
  have B3 := Lib.hid (B2.out.trans (hb3.mono B2.out.size))
  clear hb3
  have HT := Lib.hid (show (⟨(textW x).toArray⟩ : ByteArray).size = 64 by show (textW x).toArray.size = 64; rw [List.size_toArray, textW_len, HX.out])
  obtain ⟨tx, htx⟩ : ∃ tx : ByteArray, tx = ⟨(textW x).toArray⟩ := ⟨_, rfl⟩
  have HTX := Lib.hid htx
  rw [← htx] at HT ⊢
  clear htx
  go_wp2_with fail
  refine (parse_any _ _).mono ?_
  rintro e w4 ⟨rfl, hb4⟩
  have hp1 : parseW tx.data.toList = x := by rw [HTX.out]; exact parse_text x HX.out
  have hp2 : parseE tx.data.toList = 0 := by rw [HTX.out]; unfold parseE; rw [text_good x HX.out]; rfl
  rw [hp1, hp2]
  clear hp1 hp2
  have L4 := Lib.hid (L3.out.below hb4 L3.out.lt)
  have B4 := Lib.hid (B3.out.trans (hb4.mono B3.out.size))
  have N4 := Lib.hid (Zi_new w4)
  have D4 := Lib.hid (below_setCells ((Below.refl w4.heap.size w4).alloc (Nat.le_refl _) (.cells (bvs Zi).toArray 26)) (Nat.le_refl _) 0 (bvs x))
  have K4 := Lib.hid (N4.out.set_ (l' := bvs x) (by rw [bvs_len]; exact HX.out))
  clear hb4
  have M4 := Lib.hid (L4.out.below D4.out L4.out.lt)
  have E4 := Lib.hid (B4.out.trans (D4.out.mono B4.out.size))
  have hne := run_neq_32 x x HX.out HX.out
  simp only [beq_self_eq_true, Bool.not_true] at hne
  have htz : (tx.size : Int) = 64 := by rw [HT.out]; rfl
  go_wp2_with (first
    | ((with_reducible refine al_id rfl rfl ?_); (try simp only [Act.put, List.setIfInBounds_toArray, List.set_cons_succ, List.set_cons_zero, World.size_alloc]))
    | (with_reducible refine st_id rfl _ _ rfl w4.heap.size 0 x HX rfl rfl N4.out.th ?_)
    | (with_reducible refine ldw_id rfl (.tmp 5) rfl w4.heap.size 0 x HX rfl K4.out.rg ?_)
    | (with_reducible refine ldw_id rfl (.tmp 2) rfl w.heap.size 0 x HX rfl M4.out.rg ?_))
  generalize (w4.alloc (.cells (bvs Zi).toArray 26)).setCells w4.heap.size 0 (bvs x) = v4 at M4 K4 D4 E4 ⊢
  refine (text_any x HX.out _).mono ?_
  rintro e w5 ⟨rfl, hb5⟩
  rw [← HTX.out]
  have B5 := Lib.hid (E4.out.trans (hb5.mono E4.out.size))
  clear hb5
  go_wp2_with fail
  refine (parse_any _ _).mono ?_
  rintro e w6 ⟨rfl, hb6⟩
  have B6 := Lib.hid (B5.out.trans (hb6.mono B5.out.size))
  have N6 := Lib.hid (Zi_new w6)
  have hl6 := parseW_len s2.data.toList
  have PG := Lib.hid (text_parse s2.data.toList)
  obtain ⟨y, hy⟩ : ∃ y, parseW s2.data.toList = y := ⟨_, rfl⟩
  have HPY := Lib.hid hy
  rw [hy] at hl6 PG ⊢
  have HY := Lib.hid hl6
  have D6 := Lib.hid (below_setCells ((Below.refl w6.heap.size w6).alloc (Nat.le_refl _) (.cells (bvs Zi).toArray 26)) (Nat.le_refl _) 0 (bvs y))
  have K6 := Lib.hid (N6.out.set_ (l' := bvs y) (by rw [bvs_len]; exact HY.out))
  have B7 := Lib.hid (B6.out.trans (D6.out.mono B6.out.size))
  clear hb6 hl6 hy
  cases hgd : goodL s2.data.toList
  · have he : parseE s2.data.toList = 130 := by unfold parseE; rw [hgd]; rfl
    have hyz : y = Zi := by rw [← HPY.out]; unfold parseW; rw [hgd]; rfl
    rw [he]
    subst hyz
    have heq := run_eql_32 Zi Zi Zi_len Zi_len
    simp only [beq_self_eq_true] at heq
    clear he hgd
    go_wp2_with (first
      | ((with_reducible refine al_id rfl rfl ?_); (try simp only [Act.put, List.setIfInBounds_toArray, List.set_cons_succ, List.set_cons_zero, World.size_alloc]))
      | (with_reducible refine st_id rfl _ _ rfl w6.heap.size 0 Zi HY rfl rfl N6.out.th ?_)
      | (with_reducible refine ldw_id rfl (.tmp 7) rfl w6.heap.size 0 Zi HY rfl K6.out.rg ?_)
      | (with_reducible refine bz_id rfl rfl ?_))
    go_ret
    exact ⟨rfl, B7.out⟩
  · have he : parseE s2.data.toList = 0 := by unfold parseE; rw [hgd]; rfl
    have hback : (⟨(textW y).toArray⟩ : ByteArray) = s2 := by rw [PG.out hgd]
    rw [he]
    clear he hgd
    go_wp2_with (first
      | ((with_reducible refine al_id rfl rfl ?_); (try simp only [Act.put, List.setIfInBounds_toArray, List.set_cons_succ, List.set_cons_zero, World.size_alloc]))
      | (with_reducible refine st_id rfl _ _ rfl w6.heap.size 0 y HY rfl rfl N6.out.th ?_)
      | (with_reducible refine ld_id rfl (.tmp 7) rfl w6.heap.size 0 y HY rfl K6.out.rg ?_))
    refine (text_any y HY.out _).mono ?_
    rintro e w8 ⟨rfl, hb8⟩
    rw [hback]
    have B8 := Lib.hid (B7.out.trans (hb8.mono B7.out.size))
    clear hb8
    go_wp2_with fail
    go_ret
    exact ⟨by simp, B8.out⟩

set_option maxRecDepth 100000 in
theorem lifted (os : Os) (started : os.Started) (H : Type) (enc : TypeId × Value → H) :
    ReturnsInHanded {} Tryd.checked os 8 .any (fun w args => (Rows.shaBackSpec.pre enc Tryd.prog Tryd.f8 [] false w args ∧ laidMetH Tryd.prog laidL w) ∧ sizedMet enc Tryd.prog Tryd.f8 (OpenSpec.ofChange Rows.shaBackSpec) false w args)
      (Rows.shaBackSpec.post enc Tryd.prog Tryd.f8 false true false false) := by
  refine returnsInHanded_of_change_and (C := Tryd.checked) (X := fun w _ => laidMetH Tryd.prog laidL w) (fun _ _ _ hh h => h.of_heap hh) own started (by kernel_rfl) Tryd.func8
    (ChangeSpec.witness_shaped (enc := enc) (C := Tryd.checked) (os := os) (X := fun w _ => laidMetH Tryd.prog laidL w) false (World.doorLaid Tryd.prog 14 os) #[.agg (Array.replicate 32 (.int .u8 0)), .string ByteArray.empty] 8 rfl (World.shaped_of_RefB (by kernel_rfl) (by kernel_rfl)) (by kernel_rfl) (by kernel_rfl) (by kernel_rfl) (door_met os _)) ?_
  intro W base args ds gs before hval0 hW _ _ hL _
  have hval : ∀ (j : Nat) t v, Tryd.f8.params[j]? = some t → args[j]? = some v → Value.okWide Tryd.prog W .any base t v := hval0
  have hW' := hW
  obtain ⟨p, q, hA0, hV, rfl, hfz, hnd⟩ := hW
  have hA : DataW.TrodAll enc Tryd.prog W 0 (fun _ => true) true Tryd.f8.params.toList args.toList ds p := hA0
  rw [Tryd.params8] at hA hval
  obtain ⟨v0, vs0, d0, ds0, p0, q0, hargs, rfl, rfl, h0, r0⟩ := trodAll_cons hA
  obtain ⟨v1, vs1, d1, ds1, p1, q1, rfl, rfl, rfl, h1, r1⟩ := trodAll_cons r0
  obtain ⟨rfl, rfl, rfl⟩ := trodAll_nil r1
  obtain rfl : args = #[v0, v1] := by cases args; simp_all
  obtain ⟨rfl, rfl⟩ := trodVars_none hV
  have hGK := gk_of_laid hL
  have k0 := h0
  have lt0 : ∀ x ∈ p0, x.block < W.heap.size := by obtain ⟨m, hm⟩ := k0; exact DataW.trod_lt m _ _ _ hm
  obtain ⟨l0, n0, rfl⟩ := open_arr8 Tryd.underlying26 (by kernel_rfl) (hval 0 26 v0 rfl rfl) h0
  have k1 := h1
  have lt1 : ∀ x ∈ p1, x.block < W.heap.size := by obtain ⟨m, hm⟩ := k1; exact DataW.trod_lt m _ _ _ hm
  obtain ⟨a1, rfl⟩ := okWide_string Tryd.underlying9 (hval 1 9 v1 rfl rfl)
  clear hA0 hval0
  refine (walk l0 n0 a1 hGK).mono fun e W' ⟨he, bel⟩ => ?_
  subst he
  exact ⟨_, rfl, _, _, _, [], _, [], hW', trodAll_mk1 (shut_bool Tryd.underlying4 _), (trodAll_cons_mk (Below.trod laidOut (by kernel_rfl) (of_decide_eq_true (by kernel_rfl)) k0 bel lt0) (trodAll_cons_mk (Below.trod laidOut (by kernel_rfl) (of_decide_eq_true (by kernel_rfl)) k1 bel lt1) trodAll_mk0)), rfl, bel.frame _, fun h => by cases h⟩

theorem over : Rows.shaBackRow.holds Tryd.pinned (OpenSpec.ofChange Rows.shaBackSpec) :=
  OpenClaim.holds_of_wide 8 Tryd.f8 rfl rfl rfl rfl rfl rfl rfl ⟨rfl, rfl, rfl, rfl, rfl⟩ rfl rfl rfl rfl rfl (by kernel_rfl) Tryd.func8 (by kernel_rfl)
    (of_decide_eq_true (by kernel_rfl)) (by unfold Func.isWrapper; first | (rw [if_pos (by decide +kernel)]; kernel_rfl) | (rw [if_neg (by decide +kernel)]; exact ⟨rfl, rfl⟩))
    (fun os started H enc _ => lifted os started H enc)

theorem proved : Rows.ShaBackCardSaid :=
  Claim7.holds_tied_plain_at .later [] [.data] true Rows.shaBackCard.stood.harness false
    over (fun _ h => by cases h) (by kernel_rfl) (fun _ h => by cases h) shaBack_row_tie rfl ⟨rfl, rfl⟩ (by kernel_rfl) rfl
    (fun f fn hf hfn => by
      obtain rfl : f = 8 := Option.some.inj ((show Tryd.prog.funcNamed "confluence/confluencelaw03.ShaBack" = some 8 by kernel_rfl).symm.trans hf) |>.symm
      obtain rfl : fn = Tryd.f8 := (Option.some.inj (Tryd.func8.symm.trans hfn)).symm
      exact ⟨by kernel_rfl, fun j t ht => by
        have hall : (Tryd.f8.params.all fun u => !Tryd.prog.wantsStandIn u) = true := by kernel_rfl
        have := Array.all_eq_true_iff_forall_mem.1 hall t (Array.mem_of_getElem? ht)
        exact (by simpa using this : Tryd.prog.wantsStandIn t = false)⟩)
    (by kernel_rfl)
#print axioms proved
end Go.Proofs.YtgbpbbjglikheaaDoor.shaBack
