/-
  SIX SECTORS COMPARED; holds.
-/
import Derived.Test.YtionbjocfepkaaaLawd
namespace Go.Proofs.Ytionbjocfepkaaa
set_option linter.unusedVariables false
open Go.RowKit Go.WideShapes Go.ChangeShapes Go.Deep

set_option maxRecDepth 100000 in
theorem run_part_six (l : List UInt8) (i : Nat) (w : World) : (part 37 (bvs l).toArray (i * 64)).run Try.prog w = .ok (.agg (bvs ((l.drop (i * 64)).take 64)).toArray) w := by
  have hsz : (sizeOf 37).run Try.prog w = .ok 64 w := by kernel_rfl
  have e : (bvs l).toArray.extract (i * 64) (i * 64 + 64) = (bvs ((l.drop (i * 64)).take 64)).toArray := by
    rw [List.extract_toArray]
    congr 1
    rw [List.extract_eq_take_drop, show i * 64 + 64 - i * 64 = 64 by omega, bvs, bvs, List.map_take, List.map_drop]
  simp only [part, isAgg, Sem.run_bind, run_underlying Try.underlying37, Result.andThen_ok, Sem.run_pure, if_true, hsz, e]
theorem run_equal_six (a b : List UInt8) (ha : a.length = 384) (hb : b.length = 384) (w : World) : (Op.equal 50 (.agg (bvs a).toArray) (.agg (bvs b).toArray)).run Try.prog w = .ok (a == b) w := by
  have hel : ∀ (x y : List UInt8) (w : World), x.length = 64 → y.length = 64 → (Op.equalIn 9999 37 (.agg (bvs x).toArray) (.agg (bvs y).toArray)).run Try.prog w = .ok (x == y) w := fun x y w hx hy =>
    run_equalIn_rows 9998 x y 64 _ Try.underlying37 hx hy (fun p q w => run_equalIn_int w 9997 _ _ _ p q Try.underlying5) w
  have hsz : ∀ w : World, (sizeOf 37).run Try.prog w = .ok 64 w := fun w => by kernel_rfl
  show (Op.equalIn (9999 + 1) 50 (.agg (bvs a).toArray) (.agg (bvs b).toArray)).run Try.prog w = .ok (a == b) w
  generalize hD : 9999 = D at hel ⊢
  clear hD
  simp only [Op.equalIn, Sem.run_bind, run_underlying Try.underlying50, Result.andThen_ok, hsz]
  rw [Std.Legacy.Range.forIn_eq_forIn_range']
  simp only [Std.Legacy.Range.size, Nat.sub_zero, Nat.add_sub_cancel, Nat.div_one]
  have key : ∀ (m k : Nat) (w : World), k + m = 6 → ((forIn (List.range' k m 1) (none, ()) fun (i : Nat) (__s : Option Bool × Unit) => do
      let x ← part 37 (bvs a).toArray (i * 64)
      let y ← part 37 (bvs b).toArray (i * 64)
      let r ← Op.equalIn D 37 x y
      if (!r) = true then pure (ForInStep.done (some false, ())) else pure (ForInStep.yield (none, ()))) : Sem (Option Bool × Unit)).run Try.prog w = .ok (if a.drop (k * 64) = b.drop (k * 64) then (none, ()) else (some false, ())) w := by
    intro m
    induction m with
    | zero =>
      intro k w hk
      have e1 : a.drop (k * 64) = [] := List.drop_eq_nil_of_le (by omega)
      have e2 : b.drop (k * 64) = [] := List.drop_eq_nil_of_le (by omega)
      simp [e1, e2]
    | succ m ih =>
      intro k w hk
      have d1 : a.drop (k * 64) = (a.drop (k * 64)).take 64 ++ a.drop ((k + 1) * 64) := by
        rw [show (k + 1) * 64 = k * 64 + 64 by omega, ← List.drop_drop, List.take_append_drop]
      have d2 : b.drop (k * 64) = (b.drop (k * 64)).take 64 ++ b.drop ((k + 1) * 64) := by
        rw [show (k + 1) * 64 = k * 64 + 64 by omega, ← List.drop_drop, List.take_append_drop]
      have l1 : ((a.drop (k * 64)).take 64).length = 64 := by simp; omega
      have l2 : ((b.drop (k * 64)).take 64).length = 64 := by simp; omega
      rw [List.range'_succ, List.forIn_cons]
      simp only [Sem.run_bind, run_part_six, Result.andThen_ok, hel _ _ w l1 l2]
      by_cases he : (a.drop (k * 64)).take 64 = (b.drop (k * 64)).take 64
      · have hb : ((a.drop (k * 64)).take 64 == (b.drop (k * 64)).take 64) = true := by rw [he]; simp
        simp only [hb, Bool.not_true, Bool.false_eq_true, if_false, Sem.run_pure, Result.andThen_ok]
        rw [ih (k + 1) w (by omega)]
        have hiff : (a.drop (k * 64) = b.drop (k * 64)) = (a.drop ((k + 1) * 64) = b.drop ((k + 1) * 64)) := propext ⟨fun e => by
          rw [show (k + 1) * 64 = k * 64 + 64 by omega, ← List.drop_drop, ← List.drop_drop, e], fun e => by rw [d1, d2, he, e]⟩
        simp only [hiff]
      · have hb : ((a.drop (k * 64)).take 64 == (b.drop (k * 64)).take 64) = false := by rw [beq_eq_false_iff_ne]; exact he
        simp only [hb, Bool.not_false, if_true, Sem.run_pure, Result.andThen_ok]
        rw [if_neg (fun e => he (by rw [e]))]
  rw [key 6 0 w (by omega)]
  simp only [Nat.zero_mul, List.drop_zero, Result.andThen_ok]
  by_cases he : a = b
  · simp [he]
  · have : (a == b) = false := by simpa using he
    simp [he]
theorem run_eql_six (a b : List UInt8) (ha : a.length = 384) (hb : b.length = 384) (w : World) : (binOp .eql 50 (.agg (bvs a).toArray) (.agg (bvs b).toArray)).run Try.prog w = .ok (.bool (a == b)) w := by
  simp only [binOp, Sem.run_bind, run_equal_six a b ha hb, Result.andThen_ok, Sem.run_pure]
theorem run_neq_six (a b : List UInt8) (ha : a.length = 384) (hb : b.length = 384) (w : World) : (binOp .neq 50 (.agg (bvs a).toArray) (.agg (bvs b).toArray)).run Try.prog w = .ok (.bool (!(a == b))) w := by
  simp only [binOp, Sem.run_bind, run_equal_six a b ha hb, Result.andThen_ok, Sem.run_pure]

theorem size_setCells (w : World) (b o : Nat) (vs : List Value) : (w.setCells b o vs).heap.size = w.heap.size := (setCells_os b vs o w).2.2.2.1
/-- While six sectors are read: block w.heap.size is the call's own. -/
def HoldR (w : World) (g : Nat) (S : Nat → Prop) (M : Mo) (wr : World) : Prop := ∃ Sk, Dk wr g Sk M ∧ Mv S w wr ∧ ∀ b, Sk b → S b ∨ w.heap.size + 1 ≤ b
/-- What sector i holds; noughts where there is none. -/
def Mo.hld (M : Mo) (i : Nat) : List UInt8 := if i < M.safe.length then M.hold i else Zb
theorem hld_len {M : Mo} (h : M.Ok) (i : Nat) : (M.hld i).length = 64 := by
  unfold Mo.hld
  split
  · unfold Mo.hold holdsOf
    cases hla : (waitsOf M.wt i).getLast? with
    | none =>
      show (M.safe.getD i []).length = 64
      rw [getD_of_lt (by assumption)]
      exact h.len _ (List.getElem_mem _)
    | some y =>
      obtain ⟨p, hp, rfl⟩ := waitsOf_mem (List.mem_of_getLast? hla)
      exact (h.wt p hp).2
  · exact Zb_len

/-- What an act of kind 0 to 3 does to a disk with power, no fuse and no fault. -/
theorem act_read {M : Mo} (h : M.Plain) {kind n : Int} (b : UInt8) (ks : List Bool) (hk : whichI kind = 0) :
    (M.act kind n b ks).1.Plain ∧ (M.act kind n b ks).1.safe = M.safe ∧ (M.act kind n b ks).1.wt = M.wt ∧ (M.act kind n b ks).1.ops ≤ M.ops + 1 := by
  have e : M.act kind n b ks = M.read n := by unfold Mo.act; rw [if_pos hk]
  rw [e, h.read]
  split
  · exact ⟨⟨h.dead, h.fu, by rw [passed_off h.fa]; exact h.fa⟩, rfl, rfl, Int.le_refl _⟩
  · exact ⟨h, rfl, rfl, by show M.ops ≤ _; omega⟩
theorem act_write {M : Mo} (h : M.Plain) {kind n : Int} (b : UInt8) (ks : List Bool) (hk : whichI kind = 1 ∨ whichI kind = 2) (hn : hasB M.safe.length n = true) :
    (M.act kind n b ks).1.Plain ∧ (M.act kind n b ks).1.safe = M.safe ∧ (M.act kind n b ks).1.wt = M.wt ++ [(n.toNat, actB b)] ∧ (M.act kind n b ks).1.ops ≤ M.ops + 1 := by
  have e : M.act kind n b ks = ((M.write n (actB b)).1, Zb, (M.write n (actB b)).2) := by unfold Mo.act; rw [if_neg (by omega), if_pos hk]
  rw [e]
  unfold Mo.write
  rw [h.alter, if_pos hn]
  exact ⟨⟨rfl, by rw [passed_off h.fu]; exact h.fu, by rw [passed_off h.fa]; exact h.fa⟩, rfl, rfl, Int.le_refl _⟩
theorem act_miss {M : Mo} (h : M.Plain) {kind n : Int} (b : UInt8) (ks : List Bool) (hk : whichI kind = 1 ∨ whichI kind = 2) (hn : hasB M.safe.length n = false) :
    (M.act kind n b ks).1 = M := by
  have e : M.act kind n b ks = ((M.write n (actB b)).1, Zb, (M.write n (actB b)).2) := by unfold Mo.act; rw [if_neg (by omega), if_pos hk]
  rw [e]
  unfold Mo.write
  rw [h.alter, if_neg (by simp [hn])]
theorem act_sync {M : Mo} (h : M.Plain) (hok : M.Ok) {kind n : Int} (b : UInt8) (ks : List Bool) (hk : whichI kind = 3) :
    (M.act kind n b ks).1.Plain ∧ (M.act kind n b ks).1.safe.length = M.safe.length ∧ (M.act kind n b ks).1.wt = [] ∧ (M.act kind n b ks).1.ops ≤ M.ops + 1 ∧ ∀ i, (M.act kind n b ks).1.hld i = M.hld i := by
  have e : M.act kind n b ks = (M.sync.1, Zb, M.sync.2) := by unfold Mo.act; rw [if_neg (by omega), if_neg (by omega), if_pos hk]
  rw [e]
  unfold Mo.sync
  rw [h.alter, if_pos rfl]
  refine ⟨⟨rfl, by rw [passed_off h.fu]; exact h.fu, by rw [passed_off h.fa]; exact h.fa⟩, settle_len _ _ _ _, rfl, Int.le_refl _, fun i => ?_⟩
  unfold Mo.hld
  show (if i < (settleL (fun _ => true) M.wt 0 M.safe).length then holdsOf (settleL (fun _ => true) M.wt 0 M.safe) [] i else Zb) = if i < M.safe.length then holdsOf M.safe M.wt i else Zb
  rw [settle_len]
  split
  · rw [hold_nil, settle_all _ _ _ _ _ (fun p hp => (hok.wt p hp).1) (fun _ _ => rfl)]
  · rfl
theorem hld_same {M M' : Mo} (hs : M'.safe = M.safe) (hw : M'.wt = M.wt) (i : Nat) : M'.hld i = M.hld i := by
  unfold Mo.hld Mo.hold
  rw [hs, hw]
theorem hld_snoc {M M' : Mo} {x : Nat} {y : List UInt8} (hs : M'.safe = M.safe) (hw : M'.wt = M.wt ++ [(x, y)]) (hx : x < M.safe.length) (i : Nat) : M'.hld i = if i = x then y else M.hld i := by
  unfold Mo.hld Mo.hold
  rw [hs, hw, hold_snoc]
  by_cases h : i = x
  · subst h
    rw [if_pos hx, if_pos rfl, if_pos rfl]
  · rw [if_neg h, if_neg h]

set_option maxRecDepth 100000 in
set_option maxHeartbeats 1600000 in
theorem holds_dk {w : World} {g : Nat} {S : Nat → Prop} {M : Mo} (h : Dk w g S M) (hp : M.Plain) (h6 : 6 ≤ M.safe.length) (hops : M.ops ≤ 1000000000) :
    Calls Try.prog 15 #[rp g] w fun e w' => e = .returned (.tuple #[.agg (bvs (sixB M.hld)).toArray, .bool true]) ∧ Stepped w g S { M with ops := M.ops + 6 } w' := by
  have hf := hld_len h.ok
  have HF := Lib.hid hf
  have HD := Lib.hid h
  have HP := Lib.hid hp
  have HLT := Lib.hid h.lt
  have H6 := Lib.hid h6
  have HOPS := Lib.hid hops
  have hb1 : Below w.heap.size w (w.alloc (.cells Z6 50)) := (Below.refl _ _).alloc (Nat.le_refl _) _
  have hz1 : (w.alloc (.cells Z6 50)).heap.size = w.heap.size + 1 := by simp
  have HST0 : Hid (HoldR w g S { M with ops := M.ops + (0 : Int) } (w.alloc (.cells Z6 50))) := Lib.hid (by
    have e : ({ M with ops := M.ops + (0 : Int) } : Mo) = M := by simp
    rw [e]
    exact ⟨S, h.below hb1, Mv.of_below hb1 S, fun b hb => .inl hb⟩)
  have HZ1 := Lib.hid hz1
  clear hz1
  clear hf h hp h6 hops
  go_enter Try.func15, Try.ntmps15
  go_wp2_with (with_reducible refine al_six rfl rfl ?_)
  go_loopw [7] (fun i wr => ∃ k : Nat, k ≤ 6 ∧ i = .int .i64 (k : Int) ∧ Hid (wr.rowIs w.heap.size 50 384 (fun j => if j / 64 < k then sixF M.hld j else bv 0)) ∧ Hid (HoldR w g S { M with ops := M.ops + (k : Int) } wr)) (fun i _ => 6 - (intOf i).toNat)
  case atStart =>
    exact ⟨0, by omega, rfl, Lib.hid ((Z6_new w).congr fun j _ => by rw [if_neg (by omega)]), HST0⟩
  case round =>
    obtain ⟨k, hk, rfl, hrow, hst⟩ := hrel
    by_cases hlt : k < 6
    · have hd : decide ((k : Int) < 6) = true := by simp; omega
      have hk0 : (0 : Int) ≤ (k : Int) := Int.natCast_nonneg _
      have hk1 : (k : Int) < 6 := by omega
      obtain ⟨Sk, hdk, hmk, hgk⟩ := hst.out
      have HDK := Lib.hid hdk
      have HMK := Lib.hid hmk
      have HGK := Lib.hid hgk
      have hrd : ({ M with ops := M.ops + (k : Int) } : Mo).read (k : Int) = ({ M with ops := M.ops + ((k + 1 : Nat) : Int) }, M.hld k, 0) := by
        have hpk : ({ M with ops := M.ops + (k : Int) } : Mo).Plain := ⟨HP.out.dead, HP.out.fu, HP.out.fa⟩
        rw [hpk.read]
        have hh : hasB M.safe.length (k : Int) = true := by have := H6.out; simp [hasB]; omega
        show (if hasB M.safe.length (k : Int) = true then _ else _) = _
        rw [if_pos hh]
        have e1 : passed M.fa = M.fa := passed_off HP.out.fa
        have e2 : M.hld k = M.hold k := by unfold Mo.hld; rw [if_pos (by have := H6.out; omega)]
        rw [e2]
        show (({ M with fa := passed M.fa, ops := M.ops + (k : Int) + 1 } : Mo), holdsOf M.safe M.wt (k : Int).toNat, (0 : Int)) = _
        rw [e1, Int.toNat_natCast]
        congr 2
        omega
      have HRD := Lib.hid hrd
      clear hdk hmk hgk hst hrd
      go_wp2_with fail
      refine (read_dk HDK.out (k : Int) (by have := HOPS.out; show M.ops + (k : Int) ≤ _; omega)).mono ?_
      rintro e w2 ⟨he2, S2, hd2, hm2, hg2⟩
      rw [HRD.out] at he2 hd2
      subst he2
      have HD2 := Lib.hid hd2
      have HM2 := Lib.hid hm2
      have HG2 := Lib.hid hg2
      have HL := Lib.hid (HF.out k)
      have hres : ¬ Sk w.heap.size := fun hS => by
        rcases HGK.out _ hS with x | x
        · have := HLT.out _ x; omega
        · omega
      have hresS2 : ¬ S2 w.heap.size := fun hS => by
        rcases HG2.out _ hS with x | x
        · exact hres x
        · have := hrow.out.lt; omega
      have hlr := hrow.out.lt
      have ROW2 := Lib.hid (hrow.out.of_block (w' := w2) (HM2.out.block w.heap.size hlr hres))
      have hl2 : w.heap.size < w2.heap.size := Nat.lt_of_lt_of_le hlr HM2.out.size
      have hb9 : Below w2.heap.size w2 ((w2.alloc (.cells Z64 37)).setCells w2.heap.size 0 (bvs (M.hld k))) := below_setCells ((Below.refl _ _).alloc (Nat.le_refl _) _) (Nat.le_refl _) _ _
      have ROW3 := Lib.hid (ROW2.out.of_block (w' := (w2.alloc (.cells Z64 37)).setCells w2.heap.size 0 (bvs (M.hld k))) (hb9.block _ hl2))
      have T3 := Lib.hid (rowIs_there ROW3.out (k * 64) 64 (by omega))
      have HB9 := Lib.hid hb9
      clear hb9 hrow
      go_wp2_with (first
        | (with_reducible refine al_block rfl rfl ?_)
        | (with_reducible refine st_block rfl (.tmp 5) (.tmp 14) rfl w2.heap.size 0 (M.hld k) HL rfl rfl (Z64_there w2) ?_)
        | (with_reducible refine ld_block rfl _ rfl w2.heap.size 0 (M.hld k) HL rfl (there_set HL.out (Z64_there w2)) ?_)
        | (with_reducible refine st_block rfl (.tmp 21) (.tmp 20) rfl w.heap.size (k * 64) (M.hld k) HL rfl rfl T3.out ?_))
      go_roundw
      case rel =>
        refine ⟨k + 1, by omega, by go_num, Lib.hid ?_, Lib.hid ?_⟩
        · refine (rowIs_setCells w.heap.size 50 384 (bvs (M.hld k)) (k * 64) _ _ ROW3.out).congr fun j hj => ?_
          rw [bvs_len, HL.out]
          by_cases h1 : k * 64 ≤ j ∧ j < k * 64 + 64
          · rw [if_pos h1, if_pos (by omega)]
            unfold sixF
            rw [show j / 64 = k by omega, show j % 64 = j - k * 64 by omega]
            have hjl : j - k * 64 < (M.hld k).length := by rw [HL.out]; omega
            simp [bvs, List.getD_eq_getElem?_getD, hjl]
          · rw [if_neg h1]
            by_cases h2 : j / 64 < k
            · rw [if_pos h2, if_pos (by omega)]
            · rw [if_neg h2, if_neg (by omega)]
        · refine ⟨S2, ?_, ?_, fun b hb => ?_⟩
          · refine (HD2.out.below HB9.out).keep (Nat.le_of_eq (size_setCells _ _ _ _).symm) fun b hb => (setCells_os _ _ _ _).2.2.2.2 b ?_
            rintro rfl
            exact hresS2 hb
          · exact ((HMK.out.then HM2.out fun b hb => (HGK.out b hb).imp id fun x => by omega).trans (Mv.of_below HB9.out S)).setCells (.inr (Nat.le_refl _)) _ _
          · rcases HG2.out b hb with x | x
            · exact HGK.out b x
            · exact .inr (by omega)
      case measure => simp [intOf]; omega
    · have hd : decide ((k : Int) < 6) = false := by simp; omega
      have hk6 : k = 6 := by omega
      subst hk6
      have R := Lib.hid (six_range HF.out (hrow.out.congr fun j hj => by rw [if_pos (by omega)]))
      have T := Lib.hid (rowIs_there hrow.out 0 384 (by omega))
      go_wp2_with (first
        | (with_reducible refine ld_six rfl (.tmp 2) rfl w.heap.size M.hld HF rfl R.out ?_)
        | (with_reducible refine st_six rfl (.tmp 2) (.tmp 23) rfl w.heap.size M.hld HF rfl rfl T.out ?_))
      refine bodyPost_ret (results_cell_tmp rfl _ _ w.heap.size 0 (bvs (sixB M.hld)) _ rfl (six_set HF.out T.out) Try.underlying50 rfl (size_of6 HF.out)) rfl ⟨rfl, ?_⟩
      obtain ⟨Sk, hdk, hmk, hgk⟩ := hst.out
      have hres : ¬ Sk w.heap.size := fun hS => by
        rcases hgk _ hS with x | x
        · have := HLT.out _ x; omega
        · omega
      refine ⟨Sk, hdk.keep (by rw [(setCells_os _ _ _ _).2.2.2.1]; exact Nat.le_refl _) fun b hb => (setCells_os _ _ _ _).2.2.2.2 b (fun e => hres (e ▸ hb)), hmk.setCells (.inr (Nat.le_refl _)) _ _, fun b hb => (hgk b hb).imp id fun x => by omega⟩
end Go.Proofs.Ytionbjocfepkaaa
