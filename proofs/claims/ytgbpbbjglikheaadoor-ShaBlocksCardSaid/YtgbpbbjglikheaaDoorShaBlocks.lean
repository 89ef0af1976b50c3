/-
  PROVED HERE: the law ShaBlocks of layer 3 (sha): what any eight words come to by any block of 64 bytes is what the document says. Conditions: the package variable sha.constants holds what the program's text lays (the card ties it).
-/
import Derived.Test.YtgbpbbjglikheaaDoorRound
import Derived.Test.YtgbpbbjglikheaaDoorFrame
import Derived.Test.YtgbpbbjglikheaaDoorCards
import Derived.Test.YtgbpbbjglikheaaDoorTie
import Derived.SevenTiedAt
namespace Go.Proofs.YtgbpbbjglikheaaDoor.shaBlocks
open Go.ChangeShapes Go.WideShapes Go.ChangeAt Go.RowKit
set_option linter.unusedVariables false
set_option linter.unusedSimpArgs false

def asU32 : Value → UInt32
  | .int _ k => UInt32.ofNat k.toNat
  | _ => 0
def eight (l : List UInt32) : W8 := ⟨l.getD 0 0, l.getD 1 0, l.getD 2 0, l.getD 3 0, l.getD 4 0, l.getD 5 0, l.getD 6 0, l.getD 7 0⟩
theorem eight_list (l : List UInt32) (h : l.length = 8) : l = (eight l).list := by
  match l, h with
  | [_, _, _, _, _, _, _, _], _ => rfl
/-- An argument that is an array of words. -/
theorem open_arr32 {H : Type} {enc : TypeId × Value → H} {W : World} {r : Reach} {b0 base n : Nat} {sp : Nat → Bool} {held : Bool} {t : TypeId} {v : Value} {d : DataW H} {ps : List MemPlace}
    (ht : Tryd.prog.underlying t = some (.array n 30)) (hc : Tryd.prog.cellsOf t = n) (hval : Value.okWide Tryd.prog W r b0 t v) (hd : DataW.Trod enc Tryd.prog W base sp held t v d ps) :
    ∃ l : List UInt32, l.length = n ∧ v = .agg (wvs l).toArray := by
  simp only [Value.okWide, ht] at hval
  obtain ⟨cs, rfl, hs, _⟩ := hval
  obtain ⟨fuel, hf⟩ := hd
  obtain ⟨xs, m, _, _, hlen, hn, hel⟩ := DataW.trod_array ht hf
  have c1 : Tryd.prog.cellsOf 30 = 1 := by kernel_rfl
  simp only [Value.cells] at hel hlen
  rw [c1] at hel
  rw [hc] at hlen
  have hall : ∀ j, j < n → ∃ x : UInt32, cs.toList[j]? = some (wv x) := fun j hj => by
    have h2 := hel j hj
    rw [Nat.mul_one] at h2
    obtain ⟨x, hx⟩ : ∃ x, xs[j]? = some x := ⟨_, List.getElem?_eq_getElem (by omega)⟩
    rw [hx] at h2
    obtain ⟨k, e1, _, hw⟩ := DataW.trod_int Tryd.underlying30 h2
    have h4 : cs.toList[j]? = some (.int .u32 k) := by
      have := congrArg (fun l => l[0]?) e1
      simp only [List.getElem?_take, List.getElem?_drop] at this
      simpa using this
    have hb := bounds_u32 hw
    refine ⟨UInt32.ofNat k.toNat, h4.trans ?_⟩
    have : ((UInt32.ofNat k.toNat).toNat : Int) = k := by
      rw [UInt32.toNat_ofNat']
      omega
    unfold wv
    rw [this]
  refine ⟨cs.toList.map asU32, by simpa using hlen, ?_⟩
  congr 1
  apply Array.ext'
  simp only [wvs]
  apply List.ext_getElem?
  intro j
  by_cases hj : j < n
  · obtain ⟨x, hx⟩ := hall j hj
    rw [hx, List.getElem?_map, List.getElem?_map, hx]
    simp [wv, asU32]
  · rw [List.getElem?_eq_none (by omega), List.getElem?_eq_none (by simp only [List.length_map]; omega)]
theorem run_part_wvs (l : List UInt32) (i : Nat) (h : i < l.length) (w : World) : (part 30 (wvs l).toArray (i * 1)).run Tryd.prog w = .ok (wv l[i]) w := by
  have e : (wvs l)[i]? = some (wv l[i]) := by simp [wvs, h]
  simp only [part, isAgg, Sem.run_bind, run_underlying Tryd.underlying30, Result.andThen_ok, Sem.run_pure, Bool.false_eq_true, if_false, Nat.mul_one, List.getElem?_toArray, e]
theorem run_equalIn_words (D : Nat) (a b : List UInt32) (n : Nat) (t : TypeId) (ht : Tryd.prog.underlying t = some (.array n 30)) (ha : a.length = n) (hb : b.length = n) (hel : ∀ (x y : Int) (w : World), (Op.equalIn D 30 (.int .u32 x) (.int .u32 y)).run Tryd.prog w = .ok (x == y) w) (w : World) :
    (Op.equalIn (D + 1) t (.agg (wvs a).toArray) (.agg (wvs b).toArray)).run Tryd.prog w = .ok (a == b) w := by
  have hsz : ∀ w : World, (sizeOf 30).run Tryd.prog w = .ok 1 w := fun w => by kernel_rfl
  simp only [Op.equalIn, Sem.run_bind, run_underlying ht, Result.andThen_ok, hsz]
  rw [Std.Legacy.Range.forIn_eq_forIn_range']
  simp only [Std.Legacy.Range.size, Nat.sub_zero, Nat.add_sub_cancel, Nat.div_one]
  have key : ∀ (m k : Nat) (w : World), k + m = n → ((forIn (List.range' k m 1) (none, ()) fun (i : Nat) (__s : Option Bool × Unit) => do
      let x ← part 30 (wvs a).toArray (i * 1)
      let y ← part 30 (wvs b).toArray (i * 1)
      let r ← Op.equalIn D 30 x y
      if (!r) = true then pure (ForInStep.done (some false, ())) else pure (ForInStep.yield (none, ()))) : Sem (Option Bool × Unit)).run Tryd.prog w = .ok (if a.drop k = b.drop k then (none, ()) else (some false, ())) w := by
    intro m
    induction m with
    | zero =>
      intro k w hk
      have e1 : a.drop k = [] := List.drop_eq_nil_of_le (by omega)
      have e2 : b.drop k = [] := List.drop_eq_nil_of_le (by omega)
      simp [e1, e2]
    | succ m ih =>
      intro k w hk
      have d1 : a.drop k = a[k]'(by omega) :: a.drop (k + 1) := List.drop_eq_getElem_cons (by omega)
      have d2 : b.drop k = b[k]'(by omega) :: b.drop (k + 1) := List.drop_eq_getElem_cons (by omega)
      rw [List.range'_succ, List.forIn_cons]
      simp only [Sem.run_bind, run_part_wvs a k (by omega), run_part_wvs b k (by omega), Result.andThen_ok, wv, hel]
      by_cases he : a[k]'(by omega) = b[k]'(by omega)
      · have hb : (((a[k]'(by omega)).toNat : Int) == ((b[k]'(by omega)).toNat : Int)) = true := by rw [he]; simp
        simp only [hb, Bool.not_true, Bool.false_eq_true, if_false, Sem.run_pure, Result.andThen_ok]
        rw [ih (k + 1) w (by omega)]
        have hiff : (a.drop k = b.drop k) = (a.drop (k + 1) = b.drop (k + 1)) := propext ⟨fun e => by rw [d1, d2] at e; injection e, fun e => by rw [d1, d2, he, e]⟩
        simp only [hiff]
      · have hb : (((a[k]'(by omega)).toNat : Int) == ((b[k]'(by omega)).toNat : Int)) = false := by
          rw [beq_eq_false_iff_ne]
          intro e
          exact he (UInt32.toNat_inj.1 (by omega))
        simp only [hb, Bool.not_false, if_true, Sem.run_pure, Result.andThen_ok]
        rw [if_neg (by rw [d1, d2]; intro e; injection e with e1 e2; exact he e1)]
  rw [key n 0 w (by omega)]
  simp only [List.drop_zero, Result.andThen_ok]
  by_cases he : a = b
  · simp [he]
  · have : (a == b) = false := by simpa using he
    simp [he]

theorem run_eql_8 (q : W8) (w : World) : (binOp .eql 31 q.val q.val).run Tryd.prog w = .ok (.bool true) w := by
  have h := run_equalIn_words 9999 q.list q.list 8 31 Tryd.underlying31 rfl rfl (fun x y w => run_equalIn_int w 9998 _ _ _ x y Tryd.underlying30) w
  simp only [beq_self_eq_true] at h
  have h2 : (Op.equal 31 q.val q.val).run Tryd.prog w = .ok true w := h
  simp only [binOp, Sem.run_bind, h2, Result.andThen_ok, Sem.run_pure]
theorem run_eqIn_8 (q : W8) (w : World) : (Op.equalIn 10000 31 q.val q.val).run Tryd.prog w = .ok true w := by
  have h := run_equalIn_words 9999 q.list q.list 8 31 Tryd.underlying31 rfl rfl (fun x y w => run_equalIn_int w 9998 _ _ _ x y Tryd.underlying30) w
  simp only [beq_self_eq_true] at h
  exact h
structure Tb (w : World) (g0 g1 : Nat) (h : W8) (b : List UInt8) : Prop where
  x : Lies w g0 8 (wvs h.list)
  y : Lies w g1 64 (bvs b)
section
variable {w w' : World} {g0 g1 : Nat} {h : W8} {b : List UInt8}
theorem Tb.below (H : Tb w g0 g1 h b) (hb : Below w.heap.size w w') : Tb w' g0 g1 h b := ⟨H.x.below hb H.x.lt, H.y.below hb H.y.lt⟩
end
theorem below_drew (w : World) : Below w.heap.size w w.drew := (Below.refl _ _).drew
theorem known_ref (w : World) : Calls Tryd.prog 19 #[] w fun e w' => ∃ g, e = .returned (.slice (some ⟨g, 0, none⟩) 64 64) ∧ Lies w' g 64 (wvs ksW) ∧ Below w.heap.size w w' := by
  have L := Lib.hid (show Lies (w.alloc (.cells (wvs ksW).toArray 30)) w.heap.size 64 (wvs ksW) from Lies.new w (wvs ksW) 30)
  have B := Lib.hid (show Below w.heap.size w (w.alloc (.cells (wvs ksW).toArray 30)) from (Below.refl _ _).alloc (Nat.le_refl _) _)
  go_enter Tryd.func19, Tryd.ntmps19
  go_wp2
  go_ret
  exact ⟨w.heap.size, rfl, L.out, B.out⟩

set_option maxRecDepth 100000 in
set_option maxHeartbeats 1600000 in
theorem walk (h : W8) (b : List UInt8) (hb : b.length = 64) {w : World} (hg : GK w) :
    Calls Tryd.prog 4 #[.agg (wvs h.list).toArray, .agg (bvs b).toArray] w fun e w' => e = .returned (.bool true) ∧ Below w.heap.size w w' := by
  have HB := Lib.hid hb
  obtain ⟨w1, hw1⟩ : ∃ w1, w1 = w.alloc (.cells (wvs h.list).toArray 31) := ⟨_, rfl⟩
  have l1 : Lies w1 w.heap.size 8 (wvs h.list) := by rw [hw1]; exact new8 w h
  have z1 : w1.heap.size = w.heap.size + 1 := by rw [hw1]; simp
  obtain ⟨w2, hw2⟩ : ∃ w2, w2 = w1.alloc (.cells (bvs b).toArray 32) := ⟨_, rfl⟩
  have l2 : Lies w2 (w.heap.size + 1) 64 (bvs b) := by
    rw [hw2, ← z1]
    have := Lies.new w1 (bvs b) 32
    rwa [bvs_len, hb] at this
  have T2 : Hid (Tb w2 w.heap.size (w.heap.size + 1) h b) := Lib.hid ⟨by rw [hw2]; exact l1.alloc _, l2⟩
  have B2 : Hid (Below w.heap.size w w2) := Lib.hid (by rw [hw2, hw1]; exact ((Below.refl _ _).alloc (Nat.le_refl _) _).alloc (by simp) _)
  have G2 : Hid (GK w2) := Lib.hid (by rw [hw2, hw1]; exact (hg.alloc _).alloc _)
  have HW2 := Lib.hid (hw2.trans (by rw [hw1]))
  have HG := Lib.hid hg
  clear hw1 l1 z1 hw2 l2 hb hg
  go_enter Tryd.func4, Tryd.ntmps4
  go_wp2_with fail
  rw [← HW2.out]
  refine (wakes_any G2.out).mono ?_
  rintro e w3 ⟨rfl, hb3⟩
  have KS0 := Lib.hid (T2.out.below hb3)
  have BS0 := Lib.hid (B2.out.trans (hb3.mono B2.out.size))
  clear hb3 T2 B2 G2 HW2
  go_wp2_with fail
  have BS := Lib.hid (BS0.out.trans ((below_drew w3).mono BS0.out.size))
  have KS := Lib.hid (KS0.out.below (below_drew w3))
  have H8 := Lib.hid (show (wvs h.list).length = 8 from rfl)
  clear KS0 BS0
  refine wp_region_noPanic ?_
  refine wp_region_held_drew (S := fun w' => Tb w' w.heap.size (w.heap.size + 1) h b) (by kernel_rfl) KS.out (fun _ => ?_)
  refine wpAnyH_take (i := 0)  rfl (by kernel_rfl) (by kernel_rfl) (by kernel_rfl) (fun _ _ _ h => h) (yieldsIf_load_mid rfl 31 _ rfl w.heap.size 0 rfl (wvs h.list) _ (fun w' hw' => hw'.x.rg) Tryd.underlying31 rfl (by rw [H8.out]; exact size_w8)) KS.out ?_
  simp only [List.getElem_toArray, List.getElem_cons_zero, List.getElem_cons_succ, Act.put, List.setIfInBounds_toArray, List.set_cons_succ, List.set_cons_zero]
  refine wpAnyH_take (i := 1)  rfl (by kernel_rfl) (by kernel_rfl) (by kernel_rfl) (fun _ _ _ h => h) (yieldsIf_load_mid rfl 32 _ rfl (w.heap.size + 1) 0 rfl (bvs b) _ (fun w' hw' => hw'.y.rg) Tryd.underlying32 rfl (by rw [bvs_len, HB.out]; exact size_b64)) KS.out ?_
  simp only [List.getElem_toArray, List.getElem_cons_zero, List.getElem_cons_succ, Act.put, List.setIfInBounds_toArray, List.set_cons_succ, List.set_cons_zero]
  refine wpAnyH_take (i := 3)  rfl (by kernel_rfl) (by kernel_rfl) (by kernel_rfl) (fun _ _ _ h => h) (yieldsIf_load_mid rfl 31 _ rfl w.heap.size 0 rfl (wvs h.list) _ (fun w' hw' => hw'.x.rg) Tryd.underlying31 rfl (by rw [H8.out]; exact size_w8)) KS.out ?_
  simp only [List.getElem_toArray, List.getElem_cons_zero, List.getElem_cons_succ, Act.put, List.setIfInBounds_toArray, List.set_cons_succ, List.set_cons_zero]
  refine wpAnyH_take (i := 4)  rfl (by kernel_rfl) (by kernel_rfl) (by kernel_rfl) (fun _ _ _ h => h) (.inl ⟨rfl, fun w' hw' => (by clear hw'; go_simp; rfl)⟩) KS.out ?_
  simp only [List.getElem_toArray, List.getElem_cons_zero, List.getElem_cons_succ, Act.put, List.setIfInBounds_toArray, List.set_cons_succ, List.set_cons_zero]
  refine wpAnyH_ready (rs := [2]) (by kernel_rfl) (by simp) (AllReadyH.cons rfl (fun K hK => ?_) AllReadyH.nil)
  rw [if_pos (by rfl)]
  refine wp_fn (f := 17) (xs := #[h.val, .agg (bvs b).toArray]) (by first | (go_simp; done) | (go_simp; rfl)) ((block_any h b HB.out (HG.out.below BS.out)).mono ?_)
  rintro e wm ⟨rfl, hbn⟩
  replace KS := Lib.hid (KS.out.below hbn)
  replace BS := Lib.hid (BS.out.trans (hbn.mono BS.out.size))
  clear hbn
  refine ⟨_, rfl, hK.out _ _ KS.out (fun _ => ?_)⟩
  simp only [List.getElem_toArray, List.getElem_cons_zero, List.getElem_cons_succ, Act.put, List.setIfInBounds_toArray, List.set_cons_succ, List.set_cons_zero]
  refine wpAnyH_ready (rs := [5]) (by kernel_rfl) (by simp) (AllReadyH.cons rfl (fun K hK => ?_) AllReadyH.nil)
  rw [if_pos (by rfl)]
  refine wp_fn (f := 19) (xs := #[]) (by first | (go_simp; done) | (go_simp; rfl)) ((known_ref _).mono ?_)
  rintro e wk ⟨gk, rfl, hlk, hbn⟩
  replace KS := Lib.hid (KS.out.below hbn)
  replace BS := Lib.hid (BS.out.trans (hbn.mono BS.out.size))
  have LK := Lib.hid hlk
  clear hbn hlk
  refine ⟨_, rfl, hK.out _ _ KS.out (fun _ => ?_)⟩
  simp only [List.getElem_toArray, List.getElem_cons_zero, List.getElem_cons_succ, Act.put, List.setIfInBounds_toArray, List.set_cons_succ, List.set_cons_zero]
  refine wpAnyH_ready (rs := [6]) (by kernel_rfl) (by simp) (AllReadyH.cons rfl (fun K hK => ?_) AllReadyH.nil)
  rw [if_pos (by rfl)]
  refine wp_fn (f := 18) (xs := #[h.val, .slice (some ⟨w.heap.size + 1, 0, none⟩) 64 64, .slice (some ⟨gk, 0, none⟩) 64 64]) (by first | (go_simp; done) | (go_simp; rfl)) ((into_ref h (w.heap.size + 1) 0 64 gk 0 64 b _ (by have := KS.out.y.slb HB.out (by omega); exact this) KS.out.y.lt LK.out.rg LK.out.lt (by omega) (by omega)).mono ?_)
  rintro e wz ⟨rfl, hbn⟩
  replace KS := Lib.hid (KS.out.below hbn)
  replace BS := Lib.hid (BS.out.trans (hbn.mono BS.out.size))
  clear hbn
  obtain ⟨q, hq⟩ : ∃ q, blockW h b = q := ⟨_, rfl⟩
  rw [hq]
  clear hq
  refine ⟨_, rfl, hK.out _ _ KS.out (fun _ => ?_)⟩
  simp only [List.getElem_toArray, List.getElem_cons_zero, List.getElem_cons_succ, Act.put, List.setIfInBounds_toArray, List.set_cons_succ, List.set_cons_zero]
  refine wpAnyH_take (i := 7) (v := .bool true) rfl (by kernel_rfl) (by kernel_rfl) (by kernel_rfl) (fun _ _ _ h => h) (.inl ⟨rfl, fun w' hw' => (by clear hw'; have h9 := run_eqIn_8 q w'; go_simp; first | done | (rw [h9]; done) | (rw [h9]; rfl) | simp [h9])⟩) KS.out ?_
  simp only [List.getElem_toArray, List.getElem_cons_zero, List.getElem_cons_succ, Act.put, List.setIfInBounds_toArray, List.set_cons_succ, List.set_cons_zero]
  refine wpAnyH_take (i := 8)  rfl (by kernel_rfl) (by kernel_rfl) (by kernel_rfl) (fun _ _ _ h => h) (.inl ⟨rfl, fun w' hw' => (by clear hw'; go_simp; rfl)⟩) KS.out ?_
  simp only [List.getElem_toArray, List.getElem_cons_zero, List.getElem_cons_succ, Act.put, List.setIfInBounds_toArray, List.set_cons_succ, List.set_cons_zero]
  refine wpAnyH_done (by kernel_rfl) ?_ _
  refine NoPanic.normal ?_
  go_wp2
  go_ret
  exact ⟨by simp, BS.out⟩

set_option maxRecDepth 100000 in
theorem lifted (os : Os) (started : os.Started) (H : Type) (enc : TypeId × Value → H) :
    ReturnsInHanded {} Tryd.checked os 4 .any (fun w args => (Rows.shaBlocksSpec.pre enc Tryd.prog Tryd.f4 [] false w args ∧ laidMetH Tryd.prog laidL w) ∧ sizedMet enc Tryd.prog Tryd.f4 (OpenSpec.ofChange Rows.shaBlocksSpec) false w args)
      (Rows.shaBlocksSpec.post enc Tryd.prog Tryd.f4 false true false false) := by
  refine returnsInHanded_of_change_and (C := Tryd.checked) (X := fun w _ => laidMetH Tryd.prog laidL w) (fun _ _ _ hh h => h.of_heap hh) own started (by kernel_rfl) Tryd.func4
    (ChangeSpec.witness_shaped (enc := enc) (C := Tryd.checked) (os := os) (X := fun w _ => laidMetH Tryd.prog laidL w) false (World.doorLaid Tryd.prog 14 os) #[.agg (Array.replicate 8 (.int .u32 0)), .agg (Array.replicate 64 (.int .u8 0))] 8 rfl (World.shaped_of_RefB (by kernel_rfl) (by kernel_rfl)) (by kernel_rfl) (by kernel_rfl) (by kernel_rfl) (door_met os _)) ?_
  intro W base args ds gs before hval0 hW _ _ hL _
  have hval : ∀ (j : Nat) t v, Tryd.f4.params[j]? = some t → args[j]? = some v → Value.okWide Tryd.prog W .any base t v := hval0
  have hW' := hW
  obtain ⟨p, q, hA0, hV, rfl, hfz, hnd⟩ := hW
  have hA : DataW.TrodAll enc Tryd.prog W 0 (fun _ => true) true Tryd.f4.params.toList args.toList ds p := hA0
  rw [Tryd.params4] at hA hval
  obtain ⟨v0, vs0, d0, ds0, p0, q0, hargs, rfl, rfl, h0, r0⟩ := trodAll_cons hA
  obtain ⟨v1, vs1, d1, ds1, p1, q1, rfl, rfl, rfl, h1, r1⟩ := trodAll_cons r0
  obtain ⟨rfl, rfl, rfl⟩ := trodAll_nil r1
  obtain rfl : args = #[v0, v1] := by cases args; simp_all
  obtain ⟨rfl, rfl⟩ := trodVars_none hV
  have hGK := gk_of_laid hL
  have k0 := h0
  have lt0 : ∀ x ∈ p0, x.block < W.heap.size := by obtain ⟨m, hm⟩ := k0; exact DataW.trod_lt m _ _ _ hm
  obtain ⟨l0, n0, rfl⟩ := open_arr32 Tryd.underlying31 (by kernel_rfl) (hval 0 31 v0 rfl rfl) h0
  have k1 := h1
  have lt1 : ∀ x ∈ p1, x.block < W.heap.size := by obtain ⟨m, hm⟩ := k1; exact DataW.trod_lt m _ _ _ hm
  obtain ⟨l1, n1, rfl⟩ := open_arr8 Tryd.underlying32 (by kernel_rfl) (hval 1 32 v1 rfl rfl) h1
  clear hA0 hval0
  have e8 : l0 = (eight l0).list := eight_list l0 n0
  have hW8 : Calls Tryd.prog 4 #[.agg (wvs l0).toArray, .agg (bvs l1).toArray] W fun e w' => e = .returned (.bool true) ∧ Below W.heap.size W w' := by
    have := walk (eight l0) l1 n1 hGK
    rwa [← e8] at this
  refine hW8.mono fun e W' ⟨he, bel⟩ => ?_
  subst he
  exact ⟨_, rfl, _, _, _, [], _, [], hW', trodAll_mk1 (shut_bool Tryd.underlying4 _), (trodAll_cons_mk (Below.trod laidOut (by kernel_rfl) (of_decide_eq_true (by kernel_rfl)) k0 bel lt0) (trodAll_cons_mk (Below.trod laidOut (by kernel_rfl) (of_decide_eq_true (by kernel_rfl)) k1 bel lt1) trodAll_mk0)), rfl, bel.frame _, fun h => by cases h⟩

theorem over : Rows.shaBlocksRow.holds Tryd.pinned (OpenSpec.ofChange Rows.shaBlocksSpec) :=
  OpenClaim.holds_of_wide 4 Tryd.f4 rfl rfl rfl rfl rfl rfl rfl ⟨rfl, rfl, rfl, rfl, rfl⟩ rfl rfl rfl rfl rfl (by kernel_rfl) Tryd.func4 (by kernel_rfl)
    (of_decide_eq_true (by kernel_rfl)) (by unfold Func.isWrapper; first | (rw [if_pos (by decide +kernel)]; kernel_rfl) | (rw [if_neg (by decide +kernel)]; exact ⟨rfl, rfl⟩))
    (fun os started H enc _ => lifted os started H enc)

theorem proved : Rows.ShaBlocksCardSaid :=
  Claim7.holds_tied_plain_at .later [] [.data] true Rows.shaBlocksCard.stood.harness false
    over (fun _ h => by cases h) (by kernel_rfl) (fun _ h => by cases h) shaBlocks_row_tie rfl ⟨rfl, rfl⟩ (by kernel_rfl) rfl
    (fun f fn hf hfn => by
      obtain rfl : f = 4 := Option.some.inj ((show Tryd.prog.funcNamed "confluence/confluencelaw03.ShaBlocks" = some 4 by kernel_rfl).symm.trans hf) |>.symm
      obtain rfl : fn = Tryd.f4 := (Option.some.inj (Tryd.func4.symm.trans hfn)).symm
      exact ⟨by kernel_rfl, fun j t ht => by
        have hall : (Tryd.f4.params.all fun u => !Tryd.prog.wantsStandIn u) = true := by kernel_rfl
        have := Array.all_eq_true_iff_forall_mem.1 hall t (Array.mem_of_getElem? ht)
        exact (by simpa using this : Tryd.prog.wantsStandIn t = false)⟩)
    (by kernel_rfl)
#print axioms proved
end Go.Proofs.YtgbpbbjglikheaaDoor.shaBlocks
