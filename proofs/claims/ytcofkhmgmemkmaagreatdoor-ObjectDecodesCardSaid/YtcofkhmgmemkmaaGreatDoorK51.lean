/-
  STAGE 6's REFERENCE: Decode.
-/
import Derived.Test.YtcofkhmgmemkmaaGreatDoorK50
import Derived.Test.YtcofkhmgmemkmaaGreatDoorK48
import Derived.Deep.CutBlock
namespace Go.Proofs.YtcofkhmgmemkmaaGreatDoor
set_option linter.unusedVariables false
set_option linter.unusedSimpArgs false
open Go.RowKit Go.WideShapes Go.ChangeShapes Go.Deep Go.Shelf
attribute [local irreducible] wpQuiet

theorem built_lf0 (s : ByteArray) : Tryz.prog.built 68 [(0, .string s)] = some (#[.string s] ++ (S3.bvs Idv.zero.b).toArray) := by kernel_rfl
theorem built_lf1 (s : ByteArray) : Tryz.prog.built 68 [(0, .string s)] = some (⟨s, Idv.zero⟩ : Lf).cells.toArray := by
  rw [built_lf0]
  simp [Lf.cells]
theorem built_chg1 (s : ByteArray) : Tryz.prog.built 71 [(0, .string s)] = some (⟨s, false, ⟨#[]⟩⟩ : Ch).cells.toArray := by kernel_rfl
theorem bad_num {l : List UInt8} {n : Nat} (h : (Ts.s (l, false) n).2 = true) : Ts.num (l, false) n = 0 := by
  have hb : Ts.b (l, false) n = true := by
    by_cases hh : Ts.b (l, false) n = true
    · exact hh
    · unfold Ts.s at h
      rw [if_neg hh] at h
      cases h
  unfold Ts.num Ts.t
  rw [if_pos hb]
  rfl
theorem Tk.bad {w : World} {g : Nat} {s : Ts} (h : Tk w g s) : w.cell? ⟨g, 1, none⟩ = some (.bool s.2) := by
  obtain ⟨A, n, c, hl, _⟩ := h.ex
  exact hl.cell rfl
theorem objT_kind (s : Ts) : (-9223372036854775808 ≤ (objT s).1.kind ∧ (objT s).1.kind ≤ 9223372036854775807) ∧ (-9223372036854775808 ≤ (objT s).1.style ∧ (objT s).1.style ≤ 9223372036854775807) := by
  have h := ts_num s 1
  unfold objT
  split
  · show (-9223372036854775808 ≤ (1 : Int) ∧ (1 : Int) ≤ 9223372036854775807) ∧ (-9223372036854775808 ≤ (0 : Int) ∧ (0 : Int) ≤ 9223372036854775807)
    decide
  · split
    · show (-9223372036854775808 ≤ (2 : Int) ∧ (2 : Int) ≤ 9223372036854775807) ∧ (-9223372036854775808 ≤ (0 : Int) ∧ (0 : Int) ≤ 9223372036854775807)
      decide
    · split
      · have h2 := ts_num (s.s 1) 1
        show (-9223372036854775808 ≤ (3 : Int) ∧ (3 : Int) ≤ 9223372036854775807) ∧ (-9223372036854775808 ≤ ((s.s 1).num 1 : Int) ∧ ((s.s 1).num 1 : Int) ≤ 9223372036854775807)
        omega
      · show (-9223372036854775808 ≤ (s.num 1 : Int) ∧ (s.num 1 : Int) ≤ 9223372036854775807) ∧ (-9223372036854775808 ≤ (0 : Int) ∧ (0 : Int) ≤ 9223372036854775807)
        omega
/-- How long an object's lists and paths may be here. -/
structure Lim6 (x : Ov) (L P E : Sl) : Prop where
  m : Lim L P E
  l : ∀ q ∈ x.lv, q.p.size ≤ 1000000
  e : ∀ r ∈ x.es, r.p.size ≤ 1000000
theorem Lim6.none (k : Int) : Lim6 (kOv k) nSl nSl nSl := ⟨⟨by decide, by decide, by decide⟩, (fun q h => by cases h), (fun q h => by cases h)⟩
set_option maxRecDepth 100000 in
set_option maxHeartbeats 16000000 in
theorem rdec_any {w : World} {A : Option Addr} {n c : Nat} {l : List UInt8} (hs : S3.SlB w w.heap.size A n c l) (hn : n ≤ 1000000) :
    Calls Tryz.prog 6 #[.slice A n c] w fun x w' => (∃ v, x = .returned (.tuple #[v, .int .i64 (decT l).2]) ∧ ObjRes v (decT l).1 w') ∧ Below w.heap.size w w' := by
  obtain ⟨D, hD⟩ : ∃ d, decT l = d := ⟨_, rfl⟩
  have HDD := Lib.hid hD
  rw [hD]
  clear hD
  obtain ⟨zz, hzz⟩ : ∃ z, zOf = z := ⟨_, rfl⟩
  have ZO : Hid (∀ w : World, (zeroValue 34).run Tryz.prog w = .ok (.agg zz.cells.toArray) w) := Lib.hid (by rw [← hzz]; exact zero_of)
  have BZ : Hid (Tryz.prog.built 34 [] = some zz.cells.toArray) := Lib.hid (by rw [← hzz]; exact built_obz)
  have ZZ1 : Hid (zz.lv.oneCell' = true ∧ zz.pv.oneCell' = true ∧ zz.ev.oneCell' = true) := Lib.hid (by rw [← hzz]; exact zOf_one)
  obtain ⟨w1, hw1⟩ : ∃ w1, w.alloc (.cells zz.cells.toArray 34) = w1 := ⟨_, rfl⟩
  have s1 : w1.heap.size = w.heap.size + 1 := by rw [← hw1]; simp
  have B1 : Hid (Below w.heap.size w w1) := Lib.hid (by rw [← hw1]; exact (Below.refl _ _).alloc (Nat.le_refl _) _)
  have Y1 : Hid (Lies w1 w.heap.size 73 zz.cells) := Lib.hid (by
    rw [← hw1]
    have := Lies.new w zz.cells 34
    rwa [of_sz] at this)
  obtain ⟨w2, hw2⟩ : ∃ v, w1.alloc (.cells #[.slice A n c, .bool false] 63) = v := ⟨_, rfl⟩
  have b12 : Below w1.heap.size w1 w2 := by rw [← hw2]; exact (Below.refl _ _).alloc (Nat.le_refl _) _
  have s2 : w2.heap.size = w.heap.size + 2 := by rw [← hw2]; simp; omega
  have T2 : Hid (Tk w2 (w.heap.size + 1) (l, false)) := Lib.hid ⟨A, n, c, by rw [← hw2, ← s1]; exact Lies.new w1 [.slice A n c, .bool false] _, ((hs.below (B1.out.trans (b12.mono (by omega)))).more (by omega))⟩
  have B2 : Hid (Below w.heap.size w w2) := Lib.hid (B1.out.trans (b12.mono (by omega)))
  have Y2 : Hid (Lies w2 w.heap.size 73 zz.cells) := Lib.hid (Y1.out.below b12 (by omega))
  have HSL : Hid (∀ W, Below w.heap.size w W → S3.SlB W w.heap.size A n c l) := Lib.hid fun W hW => hs.below hW
  have hln := hs.len
  have HW1 := Lib.hid hw1
  have HW2 := Lib.hid hw2
  have HZZ := Lib.hid hzz
  clear hw1 hw2 hs hzz b12
  obtain ⟨g, hg⟩ : ∃ g, w.heap.size + 1 = g := ⟨_, rfl⟩
  obtain ⟨t0, ht0⟩ : ∃ t : Ts, (l, false) = t := ⟨_, rfl⟩
  obtain ⟨t1, ht1⟩ : ∃ t : Ts, t0.s 1 = t := ⟨_, rfl⟩
  obtain ⟨k, hk⟩ : ∃ k, t0.num 1 = k := ⟨_, rfl⟩
  have hk8 : k < 256 := by rw [← hk]; exact ts_num t0 1
  have hwr : IntKind.i64.wrap (k : Int) = (k : Int) := IntWalk.i64_in _ (by omega)
  have CN : Hid (Calls Tryz.prog 17 #[.pointer (some ⟨g, 0, none⟩), .int .i64 1] w2 fun e w' => e = .returned (.int .u64 (k : Nat)) ∧ Tk w' g t1 ∧ w2.grownBy w' (some g)) := Lib.hid (by
    have := num6_any T2.out 1 1 rfl (by omega)
    rwa [hg, ht0, ht1, hk] at this)
  obtain ⟨xk, hxk⟩ : ∃ x, kOv (k : Int) = x := ⟨_, rfl⟩
  obtain ⟨ck, hck⟩ : ∃ o, xk.at_ nSl nSl nSl = o := ⟨_, rfl⟩
  have BK : Hid (Tryz.prog.built 34 [(0, .int .i64 (k : Int))] = some ck.cells.toArray) := Lib.hid (by rw [← hck, ← hxk]; exact kq_built _)
  have CK1 : Hid (ck.lv.oneCell' = true ∧ ck.pv.oneCell' = true ∧ ck.ev.oneCell' = true) := Lib.hid (by rw [← hck]; exact ⟨rfl, rfl, rfl⟩)
  have HCK := Lib.hid hck
  have HXK := Lib.hid hxk
  have HT0 := Lib.hid ht0
  have HT1 := Lib.hid ht1
  have HK := Lib.hid hk
  clear ht0 ht1 hk hck hxk
  go_enter Tryz.func6, Tryz.ntmps6
  go_upto_region 1 with (first
    | ((with_reducible refine alt 34 ?_ ?_ zz.cells ZO.out ?_); rfl; rfl; rw [HW1.out]; (try simp only [Act.put, List.setIfInBounds_toArray, List.set_cons_succ, List.set_cons_zero]))
    | fail)
  go_upto_region 2 with fail
  rw [show (w1.alloc (.cells #[.slice A n c, .bool false] 63)) = w2 from HW2.out]
  have hw1g : w.heap.size + 1 = g := hg
  (try rw [hw1g])
  clear HW1 HW2
  go_upto_block 0 with (first
    | (go_at_call 17; refine CN.out.mono ?_; rintro e w3 ⟨rfl, hT, hG⟩; obtain ⟨wA, hwA⟩ : ∃ v, w3.alloc (.cells zz.cells.toArray 34) = v := ⟨_, rfl⟩; have HWA := Lib.hid hwA; have XA : Hid (Lies wA w3.heap.size 73 zz.cells) := Lib.hid (by rw [← hwA]; have := Lies.new w3 zz.cells 34; rwa [of_sz] at this); have TA := Lib.hid XA.out.th; clear hwA)
    | ((with_reducible refine bdt 34 [(0, .tmp 19)] ?_ ?_ ck.cells.toArray ?_ ?_); rfl; rfl; exact BK.out)
    | ((with_reducible refine alt 34 ?_ ?_ zz.cells ZO.out ?_); rfl; rfl; rw [HWA.out]; (try simp only [Act.put, List.setIfInBounds_toArray, List.set_cons_succ, List.set_cons_zero]))
    | ((with_reducible refine sto (.tmp 5) (.tmp 20) ?_ ?_ w3.heap.size 0 ck ?_ ?_ TA.out CK1.out.1 CK1.out.2.1 CK1.out.2.2 ?_); rfl; rfl; rfl; rfl; (try simp only [Act.put, List.setIfInBounds_toArray, List.set_cons_succ, List.set_cons_zero]))
    | fail)
  obtain ⟨X, hX⟩ : ∃ b, w3.heap.size = b := ⟨_, rfl⟩
  obtain ⟨w5, hw5⟩ : ∃ v, wA.setCells w3.heap.size 0 ck.cells = v := ⟨_, rfl⟩
  have O5 : Hid (Oz w g X t1 xk nSl nSl nSl w5) := Lib.hid (by
    have b35 : Below w3.heap.size w3 w5 := by rw [← hw5, ← HWA.out]; exact below_setCells ((Below.refl _ _).alloc (Nat.le_refl _) _) (Nat.le_refl _) _ _
    have hgs := hG.size
    have g3 : g < w3.heap.size := hT.lt
    rw [← hX]
    refine ⟨(B2.out.trans (S3.below_of_only hG (by omega) B2.out.size)).trans (b35.mono (by have := B2.out.size; omega)), ?_, hT.below b35, ?_, ?_, by omega, g3⟩
    · rw [HZZ.out]
      exact (Y2.out.kp (hG.block _ Y2.out.lt (by simp <;> omega)) hG.size).below b35 (by have := Y2.out.lt; omega)
    · rw [HCK.out, ← hw5]
      exact XA.out.set_ (of_sz _)
    · rw [← HXK.out]
      exact ⟨World.ownsRow_nil _ _ _ _, World.ownsRow_nil _ _ _ _, World.ownsRow_nil _ _ _ _⟩)
  rw [hw5]
  rw [hX]
  have c0 : w5.cell? ⟨X, 0, none⟩ = some (.int .i64 (k : Int)) := by
    have := O5.out.ob.cell (j := 0) (v := .int .i64 (k : Int)) (by rw [HCK.out, ← HCK.out, ← HXK.out]; rfl)
    exact this
  have cb := O5.out.t.bad
  clear hw5 hX hT hG XA TA HWA CN BK CK1 T2 Y2 Y1 B1 hw1g s1 s2
  go_cut [] (fun wx => ∃ x t' L P E, Hid (objT t0 = (x, t')) ∧ Hid (Oz w g X t' x L P E wx) ∧ Hid (Lim6 x L P E))
  case first =>
    by_cases hbad : t1.2 = true
    · rw [hbad] at cb
      have HO : Hid (objT t0 = (xk, t1)) := Lib.hid (by
        have k0 : k = 0 := by rw [← HK.out, ← HT0.out]; exact bad_num (by rw [HT0.out, HT1.out]; exact hbad)
        unfold objT
        rw [HK.out, k0, if_neg (by decide), if_neg (by decide), if_neg (by decide), HT1.out, ← HXK.out, k0])
      go_wp2_with fail
      go_meet
      exact ⟨xk, t1, nSl, nSl, nSl, HO, O5, by rw [← HXK.out]; exact Lib.hid (Lim6.none _)⟩
    · have hb0 : t1.2 = false := by simpa using hbad
      rw [hb0] at cb
      by_cases k1 : k = 1
      · subst k1
        obtain ⟨tx, htx⟩ : ∃ t, t1.txt 2 = t := ⟨_, rfl⟩
        obtain ⟨t2, ht2⟩ : ∃ t, t1.ts 2 = t := ⟨_, rfl⟩
        have CT : Hid (Calls Tryz.prog 18 #[.pointer (some ⟨g, 0, none⟩), .int .i64 2] w5 fun e w' => e = .returned (.string tx) ∧ Tk w' g t2 ∧ w5.grownBy w' (some g)) := Lib.hid (by rw [← htx, ← ht2]; exact text6_any O5.out.t 2 2 rfl (by omega))
        have HO : Hid (objT t0 = ({ xk with text := tx }, t2)) := Lib.hid (by
          unfold objT
          rw [HK.out, if_pos rfl, HT1.out, htx, ht2, ← HXK.out]
          rfl)
        clear htx ht2
        go_wp2_with (first
          | (go_at_call 18; refine CT.out.mono ?_; rintro e w6 ⟨rfl, hT, hG⟩; have O6 := Lib.hid (O5.out.call hG hT); have x1 : w6.cell? ⟨X, 1, none⟩ = some (.string xk.text) := O6.out.ob.cell rfl; have f1 := O6.out.ob.frozen (j := 1) (by omega); clear hT hG)
          | fail)
        go_meet
        have O7 : Oz w g X t2 { xk with text := tx } nSl nSl nSl (w6.setCell ⟨X, 1, none⟩ (.string tx)) := O6.out.one 1 (.string tx) rfl rfl rfl rfl
        exact ⟨_, t2, nSl, nSl, nSl, HO, Lib.hid O7, by rw [← HXK.out]; exact Lib.hid ⟨⟨by decide, by decide, by decide⟩, (fun q h => by cases h), (fun q h => by cases h)⟩⟩
      by_cases k2 : k = 2
      · subst k2
        obtain ⟨n9, hn9⟩ : ∃ m, t1.num 1 = m := ⟨_, rfl⟩
        have n9l : n9 < 256 := by rw [← hn9]; exact ts_num t1 1
        obtain ⟨t2, ht2⟩ : ∃ t, t1.s 1 = t := ⟨_, rfl⟩
        have CM : Hid (Calls Tryz.prog 17 #[.pointer (some ⟨g, 0, none⟩), .int .i64 1] w5 fun e w' => e = .returned (.int .u64 (n9 : Nat)) ∧ Tk w' g t2 ∧ w5.grownBy w' (some g)) := Lib.hid (by rw [← hn9, ← ht2]; exact num6_any O5.out.t 1 1 rfl (by omega))
        have hw9 : IntKind.i64.wrap (n9 : Int) = (n9 : Int) := IntWalk.i64_in _ (by omega)
        have HO : Hid (objT t0 = ({ kOv 2 with lv := whL leafT n9 t2 }, whS leafT n9 t2)) := Lib.hid (by
          unfold objT
          rw [HK.out, if_neg (by decide), if_pos rfl, HT1.out, hn9, ht2])
        clear hn9 ht2
        obtain ⟨i0, hi, hz, hz1, hz2⟩ := info_parts info_lf
        go_wp2_with (first
          | (go_at_call 17; refine CM.out.mono ?_; rintro e w6 ⟨rfl, hT, hG⟩; have O6 := Lib.hid (O5.out.call hG hT); clear hT hG)
          | fail)
        go_loopw [6] (fun i wr => ∃ (k : Nat) (L : Sl), k ≤ n9 ∧ i = .int .i64 (k : Int) ∧ L.n ≤ k ∧ Hid (Oz w g X (whS leafT k t2) { kOv 2 with lv := whL leafT k t2 } L nSl nSl wr)) (fun i _ => n9 - (intOf i).toNat)
        case atStart => exact ⟨0, nSl, Nat.zero_le _, rfl, Nat.le_refl _, by have := O6.out; rw [← HXK.out] at this; exact Lib.hid this⟩
        case round =>
          obtain ⟨k, L, hk, rfl, hLk, hoz⟩ := hrel
          have EXIT : Hid (whS leafT n9 t2 = whS leafT k t2 → whL leafT n9 t2 = whL leafT k t2 → ∃ x t' L P E, Hid (objT t0 = (x, t')) ∧ Hid (Oz w g X t' x L P E wr) ∧ Hid (Lim6 x L P E)) := Lib.hid fun h1 h2 => ⟨_, _, L, nSl, nSl, HO, by rw [h1, h2]; exact hoz, Lib.hid ⟨⟨by omega, by decide, by decide⟩, fun q hq => whL_of (P := fun q : Lf => q.p.size ≤ 1000000) (fun s => txt_small s) n9 t2 q hq, fun r h => by cases h⟩⟩
          by_cases hlt : k < n9
          · have hd : decide ((k : Int) < (n9 : Int)) = true := by simp; omega
            have hk0 : (0 : Int) ≤ (k : Int) := Int.natCast_nonneg _
            have hk1 : (k : Int) < (n9 : Int) := by omega
            have cb2 := hoz.out.t.bad
            by_cases hb : (whS leafT k t2).2 = true
            · rw [hb] at cb2
              obtain ⟨e1, e2⟩ := wh_stop hb hk
              have EX := Lib.hid (EXIT.out e1 e2)
              clear e1 e2 hoz EXIT
              go_wp2_with fail
              go_meet
              exact EX.out
            · have hb2 : (whS leafT k t2).2 = false := by simpa using hb
              rw [hb2] at cb2
              obtain ⟨hn1, hn2⟩ := wh_next hb2
              obtain ⟨sk, hsk⟩ : ∃ t, whS leafT k t2 = t := ⟨_, rfl⟩
              obtain ⟨xs, hxs⟩ : ∃ t, whL leafT k t2 = t := ⟨_, rfl⟩
              rw [hsk] at hn1 hn2 hoz
              rw [hxs] at hn2 hoz
              obtain ⟨tx, htx⟩ : ∃ t, sk.txt 1 = t := ⟨_, rfl⟩
              obtain ⟨s2, hs2⟩ : ∃ t, sk.ts 1 = t := ⟨_, rfl⟩
              obtain ⟨iv, hiv⟩ : ∃ t, s2.idv = t := ⟨_, rfl⟩
              obtain ⟨s3, hs3⟩ : ∃ t, s2.s 32 = t := ⟨_, rfl⟩
              have HN1 : Hid (whS leafT (k + 1) t2 = s3) := Lib.hid (by rw [hn1]; unfold leafT; dsimp only; rw [hs2, hs3])
              have HN2 : Hid (whL leafT (k + 1) t2 = xs ++ [⟨tx, iv⟩]) := Lib.hid (by rw [hn2]; unfold leafT; dsimp only; rw [htx, hs2, hiv])
              have CT : Hid (Calls Tryz.prog 18 #[.pointer (some ⟨g, 0, none⟩), .int .i64 1] wr fun e w' => e = .returned (.string tx) ∧ Tk w' g s2 ∧ wr.grownBy w' (some g)) := Lib.hid (by rw [← htx, ← hs2]; exact text6_any hoz.out.t 1 1 rfl (by omega))
              have CI : Hid (∀ W, Tk W g s2 → Calls Tryz.prog 19 #[.pointer (some ⟨g, 0, none⟩)] W fun e w' => e = .returned (idV iv) ∧ Tk w' g s3 ∧ W.grownBy w' (some g)) := Lib.hid fun W hW => by rw [← hiv, ← hs3]; exact id6t_any hW
              obtain ⟨l0, hl0⟩ : ∃ q : Lf, (⟨tx, Idv.zero⟩ : Lf) = q := ⟨_, rfl⟩
              obtain ⟨lf, hlf⟩ : ∃ q : Lf, (⟨tx, iv⟩ : Lf) = q := ⟨_, rfl⟩
              have BL : Hid (Tryz.prog.built 68 [(0, .string tx)] = some l0.cells.toArray) := Lib.hid (by rw [← hl0]; exact built_lf1 tx)
              obtain ⟨zl, hzl⟩ : ∃ z, zLf = z := ⟨_, rfl⟩
              have ZL : Hid (∀ w : World, (zeroValue 68).run Tryz.prog w = .ok (.agg zl.cells.toArray) w) := Lib.hid (by rw [← hzl]; exact zero_lf)
              have HLF : Hid (lf.cells = l0.cells.take 1 ++ (iv.cells ++ l0.cells.drop (1 + iv.cells.length))) := Lib.hid (by
                rw [← hlf, ← hl0, id_sz]
                show Value.string tx :: S3.bvs iv.b = _
                rw [show (⟨tx, Idv.zero⟩ : Lf).cells.drop (1 + 32) = [] from List.drop_eq_nil_of_le (by rw [lf_sz]; omega)]
                simp [Lf.cells, Idv.cells])
              rw [hlf] at HN2
              clear htx hs2 hiv hs3 hn1 hn2 hsk hxs hl0 hzl EXIT hlf
              have hz6 := hoz.out.lt
              go_upto_region 12 with (first
                | (go_at_call 18; refine CT.out.mono ?_; rintro e w6 ⟨rfl, hT, hG⟩; have O6 := Lib.hid (hoz.out.call hG hT); obtain ⟨wA, hwA⟩ : ∃ v, w6.alloc (.cells zl.cells.toArray 68) = v := ⟨_, rfl⟩; have HWA := Lib.hid hwA; have XA : Hid (Lies wA w6.heap.size 33 zl.cells) := Lib.hid (by rw [← hwA]; have := Lies.new w6 zl.cells 68; rwa [lf_sz] at this); have TA := Lib.hid XA.out.th; clear hwA hT hG)
                | ((with_reducible refine bdt 68 [(0, .tmp 54)] ?_ ?_ l0.cells.toArray ?_ ?_); rfl; rfl; exact BL.out)
                | ((with_reducible refine alt 68 ?_ ?_ zl.cells ZL.out ?_); rfl; rfl; rw [HWA.out]; (try simp only [Act.put, List.setIfInBounds_toArray, List.set_cons_succ, List.set_cons_zero]))
                | ((with_reducible refine stl (.tmp 8) (.tmp 55) ?_ ?_ w6.heap.size 0 l0 ?_ ?_ TA.out ?_); rfl; rfl; rfl; rfl; (try simp only [Act.put, List.setIfInBounds_toArray, List.set_cons_succ, List.set_cons_zero]))
                | fail)
              obtain ⟨b8, hb8⟩ : ∃ b, w6.heap.size = b := ⟨_, rfl⟩
              obtain ⟨w7, hw7⟩ : ∃ v, wA.setCells w6.heap.size 0 l0.cells = v := ⟨_, rfl⟩
              have b67 : Hid (Below w6.heap.size w6 w7) := Lib.hid (by rw [← hw7, ← HWA.out]; exact below_setCells ((Below.refl _ _).alloc (Nat.le_refl _) _) (Nat.le_refl _) _ _)
              have X7 : Hid (Lies w7 w6.heap.size 33 l0.cells) := Lib.hid (by rw [← hw7]; exact XA.out.set_ (lf_sz _))
              rw [hw7]
              have hgb : g < w6.heap.size := O6.out.t.lt
              have hXb := O6.out.lt
              clear hw7 XA TA HWA cb2 CT
              go_upto_region 13 with (first
                | (go_at_call 19; refine (CI.out _ (O6.out.t.below b67.out)).mono ?_; rintro e w8 ⟨rfl, hT, hG⟩; have G8 := Lib.hid hG; have T8 := Lib.hid hT; have X8 : Hid (Lies w8 w6.heap.size 33 l0.cells) := Lib.hid (X7.out.kp (hG.block _ X7.out.lt (by simp <;> omega)) hG.size); have TH8 : Hid (w8.there w6.heap.size 1 32) := Lib.hid (fun i hi => by have := X8.out.th (1 + i) (by omega); rwa [Nat.zero_add] at this); clear hT hG)
                | ((with_reducible refine sti (.tmp 58) (.tmp 57) ?_ ?_ w6.heap.size 1 iv ?_ ?_ TH8.out ?_); rfl; rfl; (first | rfl | go_simp); rfl; (try simp only [Act.put, List.setIfInBounds_toArray, List.set_cons_succ, List.set_cons_zero]))
                | fail)
              subst hb8
              obtain ⟨w9, hw9⟩ : ∃ v, w8.setCells w6.heap.size 1 iv.cells = v := ⟨_, rfl⟩
              have X9 : Hid (Lies w9 w6.heap.size 33 lf.cells) := Lib.hid (by rw [← hw9, HLF.out]; exact X8.out.mid 1 iv.cells (by rw [id_sz]; omega))
              have g69 : w6.grownBy w9 (some g) := by
                rw [← hw9]
                exact only_then (S3.only_trans (S3.only_of_below b67.out (some g)) G8.out) (below_setCells (Below.refl _ _) (Nat.le_refl _) _ _)
              have T9 : Tk w9 g s3 := by
                rw [← hw9]
                have gg := grown_cells w8 w6.heap.size 1 iv.cells
                exact T8.out.kept gg.size fun q hq => gg.block q (by have := T8.out.lt; omega) (by simp <;> omega)
              have O9 := Lib.hid (O6.out.call g69 T9)
              rw [hw9]
              clear hw9 T9 g69 X8 X7 T8 G8 TH8 HLF b67
              have OL : Hid (w9.ownsRow (X + 1) 68 33 (.slice L.a L.n L.c) L.n (xs.flatMap Lf.cells)) := Lib.hid O9.out.o.l
              have x2 : w9.cell? ⟨X, 2, none⟩ = some (.slice L.a L.n L.c) := O9.out.ob.cell rfl
              have hx9 := O9.out.lt
              have hLm : L.n < 256 := by omega
              go_upto_region 10 with (first
                | ((with_reducible refine ldl (.tmp 8) ?_ ?_ w6.heap.size 0 lf ?_ X9.out.rg ?_); rfl; rfl; rfl; (try simp only [Act.put, List.setIfInBounds_toArray, List.set_cons_succ, List.set_cons_zero]))
                | ((with_reducible refine oneL Tryz.underlying25 hi hz (k := 33) (by omega) (by omega) hz1 lfz_sz (.tmp 61) ?_ ?_ lf.cells (lf_sz _) ?_ ?_); rfl; rfl; rfl; (try simp only [Act.put, List.setIfInBounds_toArray, List.set_cons_succ, List.set_cons_zero]))
                | (at_builtin; refine wpList_append_own (w9.alloc (.cells lf.cells.toArray 68)) ?_ (.tmp 60) (.tmp 62) 25 ?_ (X + 1) 68 i0 (.agg zLf.cells.toArray) 33 48 Tryz.underlying25 hi hz hz1 hz2 lfz_sz (by omega) (.slice L.a L.n L.c) L.n (xs.flatMap Lf.cells) ?_ (OL.out.alloc _) ⟨w9.heap.size, 0, none⟩ 1 1 lf.cells ?_ (lf_sz _) (World.news_of_block (heap_alloc_new w9 _)) (fun u hu => lf_ones [lf] u (by simpa using hu)) (by unfold maxLen; omega) (by omega) (by simp; omega) ?_; rfl; rfl; rfl; rfl; intro v6 w10 own6 hg6 _; obtain ⟨A6, c6, hv6⟩ := own_shape own6; subst hv6; have OA := Lib.hid own6; have GA := Lib.hid (S3.only_trans (S3.only_of_below ((Below.refl w9.heap.size w9).alloc (Nat.le_refl _) _) _) hg6); have hob : ∀ q, (Value.slice L.a L.n L.c).ownBlock = some q → X + 1 ≤ q := (fun q e => (own_ty OL.out q e).1); have XA := O9.out.ob.kp (GA.out.block _ O9.out.ob.lt (fun e => by have := hob _ e.symm; omega)) GA.out.size; have x2a : w10.cell? ⟨X, 2, none⟩ = some (.slice L.a L.n L.c) := XA.cell rfl; have f2a := XA.frozen (j := 2) (by omega); clear own6 hg6 XA)
                | fail)
              have O11 := Lib.hid (O9.out.app (x' := { kOv 2 with lv := xs ++ [lf] }) (L' := ⟨A6, L.n + 1, c6⟩) (P' := nSl) (E' := nSl) GA.out hob ⟨by show w10.ownsRow _ _ _ _ _ ((xs ++ [lf]).flatMap Lf.cells); rw [List.flatMap_append]; simpa using OA.out, World.ownsRow_nil _ _ _ _, World.ownsRow_nil _ _ _ _⟩ 2 (.slice A6 (L.n + 1) c6) rfl)
              go_wp2_with fail
              go_roundw
              case rel => exact ⟨k + 1, ⟨A6, L.n + 1, c6⟩, by omega, by go_num, by show L.n + 1 ≤ k + 1; omega, Lib.hid (by rw [HN1.out, HN2.out]; exact O11.out)⟩
              case measure => simp [intOf]; omega
          · have hd : decide ((k : Int) < (n9 : Int)) = false := by simp; omega
            obtain rfl : k = n9 := by omega
            have EX := Lib.hid (EXIT.out rfl rfl)
            go_wp2_with fail
            go_meet
            exact EX.out
      by_cases k3 : k = 3
      · subst k3
        obtain ⟨na, hna⟩ : ∃ z, t1.num 1 = z := ⟨_, rfl⟩
        obtain ⟨tA, htA⟩ : ∃ z, t1.s 1 = z := ⟨_, rfl⟩
        obtain ⟨iA, hiA⟩ : ∃ z, tA.idv = z := ⟨_, rfl⟩
        obtain ⟨tB, htB⟩ : ∃ z, tA.s 32 = z := ⟨_, rfl⟩
        obtain ⟨np, hnp⟩ : ∃ z, tB.num 1 = z := ⟨_, rfl⟩
        obtain ⟨tC, htC⟩ : ∃ z, tB.s 1 = z := ⟨_, rfl⟩
        obtain ⟨tD, htD⟩ : ∃ z, whS iddT np tC = z := ⟨_, rfl⟩
        obtain ⟨ps, hps⟩ : ∃ z, whL iddT np tC = z := ⟨_, rfl⟩
        obtain ⟨iB, hiB⟩ : ∃ z, tD.idv = z := ⟨_, rfl⟩
        obtain ⟨tE, htE⟩ : ∃ z, tD.s 32 = z := ⟨_, rfl⟩
        obtain ⟨ne, hne⟩ : ∃ z, tE.num 1 = z := ⟨_, rfl⟩
        obtain ⟨tF, htF⟩ : ∃ z, tE.s 1 = z := ⟨_, rfl⟩
        obtain ⟨tG, htG⟩ : ∃ z, whS chgT ne tF = z := ⟨_, rfl⟩
        obtain ⟨es, hes⟩ : ∃ z, whL chgT ne tF = z := ⟨_, rfl⟩
        obtain ⟨nb, hnb⟩ : ∃ z, tG.num 4 = z := ⟨_, rfl⟩
        obtain ⟨tH, htH⟩ : ∃ z, tG.s 4 = z := ⟨_, rfl⟩
        obtain ⟨nc, hnc⟩ : ∃ z, tH.num 4 = z := ⟨_, rfl⟩
        obtain ⟨tI, htI⟩ : ∃ z, tH.s 4 = z := ⟨_, rfl⟩
        obtain ⟨no, hno⟩ : ∃ z, tI.txt 1 = z := ⟨_, rfl⟩
        obtain ⟨tJ, htJ⟩ : ∃ z, tI.ts 1 = z := ⟨_, rfl⟩
        have nal : na < 256 := by rw [← hna]; exact ts_num t1 1
        have npl : np < 256 := by rw [← hnp]; exact ts_num tB 1
        have nel : ne < 256 := by rw [← hne]; exact ts_num tE 1
        have nbl : nb < 4294967296 := by rw [← hnb]; exact ts_num4 tG (by omega)
        have ncl : nc < 4294967296 := by rw [← hnc]; exact ts_num4 tH (by omega)
        have hwa : IntKind.i64.wrap (na : Int) = (na : Int) := IntWalk.i64_in _ (by omega)
        have hwp : IntKind.i64.wrap (np : Int) = (np : Int) := IntWalk.i64_in _ (by omega)
        have hwe : IntKind.i64.wrap (ne : Int) = (ne : Int) := IntWalk.i64_in _ (by omega)
        have hwb : IntKind.u32.wrap (nb : Int) = (nb : Int) := IntWalk.u32_in _ (by omega)
        have hwc : IntKind.u32.wrap (nc : Int) = (nc : Int) := IntWalk.u32_in _ (by omega)
        have HO : Hid (objT t0 = ((⟨3, ⟨#[]⟩, [], (na : Int), iA, iB, ps, es, nb, nc, no⟩ : Ov), tJ)) := Lib.hid (by
          unfold objT
          rw [HK.out, if_neg (by decide), if_neg (by decide), if_pos rfl, HT1.out]
          unfold comT
          dsimp only
          rw [hna, htA, hiA, htB, hnp, htC, htD, hps, hiB, htE, hne, htF, htG, hes, hnb, htH, hnc, htI, hno, htJ])
        have ESM : Hid (∀ q ∈ es, q.p.size ≤ 1000000) := Lib.hid (by rw [← hes]; exact whL_of (P := fun q : Ch => q.p.size ≤ 1000000) (fun s => txt_small s) ne tF)
        have CN1 : Hid (∀ W, Tk W g t1 → Calls Tryz.prog 17 #[.pointer (some ⟨g, 0, none⟩), .int .i64 1] W fun e w' => e = .returned (.int .u64 (na : Nat)) ∧ Tk w' g tA ∧ W.grownBy w' (some g)) := Lib.hid fun W hW => by rw [← hna, ← htA]; exact num6_any hW 1 1 rfl (by omega)
        have CI1 : Hid (∀ W, Tk W g tA → Calls Tryz.prog 19 #[.pointer (some ⟨g, 0, none⟩)] W fun e w' => e = .returned (idV iA) ∧ Tk w' g tB ∧ W.grownBy w' (some g)) := Lib.hid fun W hW => by rw [← hiA, ← htB]; exact id6t_any hW
        have CN2 : Hid (∀ W, Tk W g tB → Calls Tryz.prog 17 #[.pointer (some ⟨g, 0, none⟩), .int .i64 1] W fun e w' => e = .returned (.int .u64 (np : Nat)) ∧ Tk w' g tC ∧ W.grownBy w' (some g)) := Lib.hid fun W hW => by rw [← hnp, ← htC]; exact num6_any hW 1 1 rfl (by omega)
        have CI2 : Hid (∀ W, Tk W g tD → Calls Tryz.prog 19 #[.pointer (some ⟨g, 0, none⟩)] W fun e w' => e = .returned (idV iB) ∧ Tk w' g tE ∧ W.grownBy w' (some g)) := Lib.hid fun W hW => by rw [← hiB, ← htE]; exact id6t_any hW
        have CN3 : Hid (∀ W, Tk W g tE → Calls Tryz.prog 17 #[.pointer (some ⟨g, 0, none⟩), .int .i64 1] W fun e w' => e = .returned (.int .u64 (ne : Nat)) ∧ Tk w' g tF ∧ W.grownBy w' (some g)) := Lib.hid fun W hW => by rw [← hne, ← htF]; exact num6_any hW 1 1 rfl (by omega)
        have CN4 : Hid (∀ W, Tk W g tG → Calls Tryz.prog 17 #[.pointer (some ⟨g, 0, none⟩), .int .i64 4] W fun e w' => e = .returned (.int .u64 (nb : Nat)) ∧ Tk w' g tH ∧ W.grownBy w' (some g)) := Lib.hid fun W hW => by rw [← hnb, ← htH]; exact num6_any hW 4 4 rfl (by omega)
        have CN5 : Hid (∀ W, Tk W g tH → Calls Tryz.prog 17 #[.pointer (some ⟨g, 0, none⟩), .int .i64 4] W fun e w' => e = .returned (.int .u64 (nc : Nat)) ∧ Tk w' g tI ∧ W.grownBy w' (some g)) := Lib.hid fun W hW => by rw [← hnc, ← htI]; exact num6_any hW 4 4 rfl (by omega)
        have CT : Hid (∀ W, Tk W g tI → Calls Tryz.prog 18 #[.pointer (some ⟨g, 0, none⟩), .int .i64 1] W fun e w' => e = .returned (.string no) ∧ Tk w' g tJ ∧ W.grownBy w' (some g)) := Lib.hid fun W hW => by rw [← hno, ← htJ]; exact text6_any hW 1 1 rfl (by omega)
        have HTD := Lib.hid htD
        have HPS := Lib.hid hps
        have HTG := Lib.hid htG
        have HES := Lib.hid hes
        clear hna htA hiA htB hnp htC htD hps hiB htE hne htF htG hes hnb htH hnc htI hno htJ
        go_upto_region 16 with (first
          | (go_at_call 17; refine (CN1.out _ O5.out.t).mono ?_; rintro e w6 ⟨rfl, hT, hG⟩; have O6 := Lib.hid (O5.out.call hG hT); clear hT hG)
          | (go_at_call 19; refine (CI1.out _ O6.out.t).mono ?_; rintro e w7 ⟨rfl, hT, hG⟩; have O7 := Lib.hid (O6.out.call hG hT); have x3 : w7.cell? ⟨X, 3, none⟩ = some (.int .i64 xk.style) := O7.out.ob.cell rfl; have f3 := O7.out.ob.frozen (j := 3) (by omega); have O8 := Lib.hid (O7.out.one (x' := { xk with style := (na : Int) }) 3 (.int .i64 (na : Int)) rfl rfl rfl rfl); have TH8 := Lib.hid (O8.out.there 4 32 (by omega)); clear hT hG)
          | ((with_reducible refine sti (.tmp 75) (.tmp 73) ?_ ?_ X 4 iA ?_ ?_ TH8.out ?_); rfl; rfl; (first | rfl | go_simp); rfl; (try simp only [Act.put, List.setIfInBounds_toArray, List.set_cons_succ, List.set_cons_zero]))
          | fail)
        obtain ⟨w9, hw9⟩ : ∃ v, (w7.setCell ⟨X, 3, none⟩ (.int .i64 (na : Int))).setCells X 4 iA.cells = v := ⟨_, rfl⟩
        have O9 : Hid (Oz w g X tB (⟨3, ⟨#[]⟩, [], (na : Int), iA, Idv.zero, [], [], 0, 0, ⟨#[]⟩⟩ : Ov) nSl nSl nSl w9) := Lib.hid (by
          have := O8.out.tree_ iA
          rw [hw9, ← HXK.out] at this
          exact this)
        rw [hw9]
        clear hw9 x3 f3 TH8 cb c0
        go_upto_block 3 with (first
          | (go_at_call 17; refine (CN2.out _ O9.out.t).mono ?_; rintro e w10 ⟨rfl, hT, hG⟩; have O10 := Lib.hid (O9.out.call hG hT); clear hT hG)
          | fail)
        go_cut [] (fun wx => ∃ P : Sl, P.n ≤ np ∧ Hid (Oz w g X tD (⟨3, ⟨#[]⟩, [], (na : Int), iA, Idv.zero, ps, [], 0, 0, ⟨#[]⟩⟩ : Ov) nSl P nSl wx))
        case first =>
          (try go_wp2_with fail)
          go_loopw [9] (fun i wr => ∃ (k : Nat) (P : Sl), k ≤ np ∧ i = .int .i64 (k : Int) ∧ P.n ≤ k ∧ Hid (Oz w g X (whS iddT k tC) (⟨3, ⟨#[]⟩, [], (na : Int), iA, Idv.zero, whL iddT k tC, [], 0, 0, ⟨#[]⟩⟩ : Ov) nSl P nSl wr)) (fun i _ => np - (intOf i).toNat)
          case atStart => exact ⟨0, nSl, Nat.zero_le _, rfl, Nat.le_refl _, O10⟩
          case round =>
            obtain ⟨k, P, hk, rfl, hPk, hoz⟩ := hrel
            have EXIT : Hid (whS iddT np tC = whS iddT k tC → whL iddT np tC = whL iddT k tC → ∃ P : Sl, P.n ≤ np ∧ Hid (Oz w g X tD (⟨3, ⟨#[]⟩, [], (na : Int), iA, Idv.zero, ps, [], 0, 0, ⟨#[]⟩⟩ : Ov) nSl P nSl wr)) := Lib.hid fun h1 h2 => ⟨P, by omega, by rw [← HTD.out, ← HPS.out, h1, h2]; exact hoz⟩
            by_cases hlt : k < np
            · have hd : decide ((k : Int) < (np : Int)) = true := by simp; omega
              have hk0 : (0 : Int) ≤ (k : Int) := Int.natCast_nonneg _
              have hk1 : (k : Int) < (np : Int) := by omega
              have cb2 := hoz.out.t.bad
              by_cases hb : (whS iddT k tC).2 = true
              · rw [hb] at cb2
                obtain ⟨e1, e2⟩ := wh_stop hb hk
                have EX := Lib.hid (EXIT.out e1 e2)
                clear e1 e2 hoz EXIT
                go_wp2_with fail
                go_meet
                exact EX.out
              · have hb2 : (whS iddT k tC).2 = false := by simpa using hb
                rw [hb2] at cb2
                obtain ⟨hn1, hn2⟩ := wh_next hb2
                obtain ⟨sk, hsk⟩ : ∃ t, whS iddT k tC = t := ⟨_, rfl⟩
                obtain ⟨xs, hxs⟩ : ∃ t, whL iddT k tC = t := ⟨_, rfl⟩
                rw [hsk] at hn1 hn2 hoz
                rw [hxs] at hn2 hoz
                obtain ⟨iv, hiv⟩ : ∃ t, sk.idv = t := ⟨_, rfl⟩
                obtain ⟨s3, hs3⟩ : ∃ t, sk.s 32 = t := ⟨_, rfl⟩
                have HN1 : Hid (whS iddT (k + 1) tC = s3) := Lib.hid (by rw [hn1]; exact hs3)
                have HN2 : Hid (whL iddT (k + 1) tC = xs ++ [iv]) := Lib.hid (by rw [hn2]; unfold iddT; dsimp only; rw [hiv])
                have CI : Hid (∀ W, Tk W g sk → Calls Tryz.prog 19 #[.pointer (some ⟨g, 0, none⟩)] W fun e w' => e = .returned (idV iv) ∧ Tk w' g s3 ∧ W.grownBy w' (some g)) := Lib.hid fun W hW => by rw [← hiv, ← hs3]; exact id6t_any hW
                clear hiv hs3 hn1 hn2 hsk hxs EXIT
                go_upto_region 19 with fail
                have OD : Hid (Oz w g X sk (⟨3, ⟨#[]⟩, [], (na : Int), iA, Idv.zero, xs, [], 0, 0, ⟨#[]⟩⟩ : Ov) nSl P nSl wr.drew) := Lib.hid (hoz.out.up ((Below.refl _ _).drew))
                refine wp_region_bk 3 6 6 (fun W => W.cell? ⟨X, 68, none⟩ = some (.slice P.a P.n P.c)) (by kernel_rfl) (by kernel_rfl) OD.out.c68 ?_
                simp only [List.take_succ_cons, List.take_zero, List.drop_succ_cons, List.drop_zero]
                refine ⟨_, .inl ⟨rfl, fun w' hw' => (by clear hw'; go_simp; rfl)⟩, ?_⟩
                (try simp only [Act.put, List.setIfInBounds_toArray, List.set_cons_succ, List.set_cons_zero])
                refine ⟨_, .inl ⟨rfl, fun w' hw' => (by go_simp; rfl)⟩, ?_⟩
                (try simp only [Act.put, List.setIfInBounds_toArray, List.set_cons_succ, List.set_cons_zero])
                refine ⟨_, .inl ⟨rfl, fun w' hw' => (by clear hw'; go_simp; rfl)⟩, ?_⟩
                (try simp only [Act.put, List.setIfInBounds_toArray, List.set_cons_succ, List.set_cons_zero])
                rw [wpHead_nil]
                obtain ⟨wD, hwD⟩ : ∃ v, wr.drew = v := ⟨_, rfl⟩
                rw [hwD] at OD ⊢
                clear hwD
                rw [wpMid_cons]
                refine ⟨rfl, ?_⟩
                refine wp_fn (f := 19) (xs := #[.pointer (some ⟨g, 0, none⟩)]) (by first | (go_simp; done) | (go_simp; rfl)) ((CI.out _ OD.out.t).mono ?_)
                rintro e w9 ⟨rfl, hT, hG⟩
                have O9 := Lib.hid (OD.out.call hG hT)
                clear hT hG
                refine ⟨_, rfl, O9.out.c68, ?_⟩
                (try simp only [Act.put, List.setIfInBounds_toArray, List.set_cons_succ, List.set_cons_zero])
                rw [wpMid_cons]
                refine ⟨rfl, ?_⟩
                obtain ⟨i0, hi, hz, hz1, hz2⟩ := info_parts info_idr
                refine wp_oneI (.tmp 94) rfl iv ?_ ?_
                · first | (go_simp; done) | (go_simp; rfl)
                refine ⟨(O9.out.up ((Below.refl _ _).alloc (Nat.le_refl _) _)).c68, ?_⟩
                (try simp only [Act.put, List.setIfInBounds_toArray, List.set_cons_succ, List.set_cons_zero])
                have OL : Hid (w9.ownsRow (X + 1) 27 32 (.slice P.a P.n P.c) P.n (xs.flatMap Idv.cells)) := Lib.hid O9.out.o.p
                have hx9 := O9.out.lt
                have hLm : P.n < 256 := by omega
                rw [wpMid_cons]
                refine ⟨rfl, ?_⟩
                refine wp_append_own (w9.alloc (.cells iv.cells.toArray 27)) (.tmp 92) (.tmp 95) 28 rfl (X + 1) 27 i0 (.agg Idv.zero.cells.toArray) 32 32 Tryz.underlying28 hi hz hz1 hz2 idzr_sz (by omega) (.slice P.a P.n P.c) P.n (xs.flatMap Idv.cells) ?_ (OL.out.alloc _) ⟨w9.heap.size, 0, none⟩ 1 1 iv.cells ?_ (id_sz _) (World.news_of_block (heap_alloc_new w9 _)) (fun u hu => idr_ones [iv] u (by simpa using hu)) (by unfold maxLen; omega) (by omega) (by simp; omega) ?_
                · first | (go_simp; done) | (go_simp; rfl)
                · first | (go_simp; done) | (go_simp; rfl)
                intro v6 w10 own6 hg6 _
                obtain ⟨A6, c6, hv6⟩ := own_shape own6
                subst hv6
                have OA := Lib.hid own6
                have GA := Lib.hid (S3.only_trans (S3.only_of_below ((Below.refl w9.heap.size w9).alloc (Nat.le_refl _) _) _) hg6)
                have hob : ∀ q, (Value.slice P.a P.n P.c).ownBlock = some q → X + 1 ≤ q := (fun q e => (own_ty OL.out q e).1)
                have XA := O9.out.ob.kp (GA.out.block _ O9.out.ob.lt (fun e => by have := hob _ e.symm; omega)) GA.out.size
                have x2a : w10.cell? ⟨X, 68, none⟩ = some (.slice P.a P.n P.c) := (obj_lies XA).2.2.2.2.2.2.1
                have f2a := XA.frozen (j := 68) (by omega)
                clear own6 hg6 XA
                refine ⟨x2a, ?_⟩
                rw [wpMid_nil]
                rw [wpHead_nil]
                (try simp only [Act.put, List.setIfInBounds_toArray, List.set_cons_succ, List.set_cons_zero])
                go_wp2_with fail
                have O11 := Lib.hid (O9.out.app (x' := (⟨3, ⟨#[]⟩, [], (na : Int), iA, Idv.zero, (xs ++ [iv]), [], 0, 0, ⟨#[]⟩⟩ : Ov)) (L' := nSl) (P' := ⟨A6, P.n + 1, c6⟩) (E' := nSl) GA.out hob ⟨World.ownsRow_nil _ _ _ _, by show w10.ownsRow _ _ _ _ _ ((xs ++ [iv]).flatMap Idv.cells); rw [List.flatMap_append]; simpa using OA.out, World.ownsRow_nil _ _ _ _⟩ 68 (.slice A6 (P.n + 1) c6) (of_pv ((⟨3, ⟨#[]⟩, [], (na : Int), iA, Idv.zero, xs, [], 0, 0, ⟨#[]⟩⟩ : Ov).at_ nSl P nSl) _))
                refine NoPanic.normal ?_
                go_wp2_with fail
                go_roundw
                case rel => exact ⟨k + 1, ⟨A6, P.n + 1, c6⟩, by omega, by go_num, by show P.n + 1 ≤ k + 1; omega, Lib.hid (by rw [HN1.out, HN2.out]; exact O11.out)⟩
                case measure => simp [intOf]; omega
            · have hd : decide ((k : Int) < (np : Int)) = false := by simp; omega
              obtain rfl : k = np := by omega
              have EX := Lib.hid (EXIT.out rfl rfl)
              go_wp2_with fail
              go_meet
              exact EX.out
        case rest =>
          obtain ⟨P, hPn, OZ⟩ := hcut
          obtain ⟨w11, hw11⟩ : ∃ v, wc = v := ⟨_, rfl⟩
          rw [hw11] at OZ ⊢
          clear hw11 O5 O6 O7 O8 O9 O10
          go_upto_region 21 with (first
            | (go_at_call 19; refine (CI2.out _ OZ.out.t).mono ?_; rintro e w12 ⟨rfl, hT, hG⟩; have O12 := Lib.hid (OZ.out.call hG hT); have TH12 := Lib.hid (O12.out.there 36 32 (by omega)); clear hT hG)
            | ((with_reducible refine sti (.tmp 100) (.tmp 99) ?_ ?_ X 36 iB ?_ ?_ TH12.out ?_); rfl; rfl; (first | rfl | go_simp); rfl; (try simp only [Act.put, List.setIfInBounds_toArray, List.set_cons_succ, List.set_cons_zero]))
            | fail)
          obtain ⟨w13, hw13⟩ : ∃ v, w12.setCells X 36 iB.cells = v := ⟨_, rfl⟩
          have O13 : Hid (Oz w g X tE (⟨3, ⟨#[]⟩, [], (na : Int), iA, iB, ps, [], 0, 0, ⟨#[]⟩⟩ : Ov) nSl P nSl w13) := Lib.hid (by
            have := O12.out.base_ iB
            rw [hw13] at this
            exact this)
          rw [hw13]
          clear hw13 TH12 O12
          go_upto_block 5 with (first
            | (go_at_call 17; refine (CN3.out _ O13.out.t).mono ?_; rintro e w14 ⟨rfl, hT, hG⟩; have O14 := Lib.hid (O13.out.call hG hT); clear hT hG)
            | fail)
          go_cut [] (fun wx => ∃ E : Sl, E.n ≤ ne ∧ Hid (Oz w g X tG (⟨3, ⟨#[]⟩, [], (na : Int), iA, iB, ps, es, 0, 0, ⟨#[]⟩⟩ : Ov) nSl P E wx))
          case first =>
            (try go_wp2_with fail)
            go_loopw [11] (fun i wr => ∃ (k : Nat) (E : Sl), k ≤ ne ∧ i = .int .i64 (k : Int) ∧ E.n ≤ k ∧ Hid (Oz w g X (whS chgT k tF) (⟨3, ⟨#[]⟩, [], (na : Int), iA, iB, ps, whL chgT k tF, 0, 0, ⟨#[]⟩⟩ : Ov) nSl P E wr)) (fun i _ => ne - (intOf i).toNat)
            case atStart => exact ⟨0, nSl, Nat.zero_le _, rfl, Nat.le_refl _, O14⟩
            case round =>
              obtain ⟨k, E, hk, rfl, hEk, hoz⟩ := hrel
              have EXIT : Hid (whS chgT ne tF = whS chgT k tF → whL chgT ne tF = whL chgT k tF → ∃ E : Sl, E.n ≤ ne ∧ Hid (Oz w g X tG (⟨3, ⟨#[]⟩, [], (na : Int), iA, iB, ps, es, 0, 0, ⟨#[]⟩⟩ : Ov) nSl P E wr)) := Lib.hid fun h1 h2 => ⟨E, by omega, by rw [← HTG.out, ← HES.out, h1, h2]; exact hoz⟩
              by_cases hlt : k < ne
              · have hd : decide ((k : Int) < (ne : Int)) = true := by simp; omega
                have hk0 : (0 : Int) ≤ (k : Int) := Int.natCast_nonneg _
                have hk1 : (k : Int) < (ne : Int) := by omega
                have cb2 := hoz.out.t.bad
                by_cases hb : (whS chgT k tF).2 = true
                · rw [hb] at cb2
                  obtain ⟨e1, e2⟩ := wh_stop hb hk
                  have EX := Lib.hid (EXIT.out e1 e2)
                  clear e1 e2 hoz EXIT
                  go_wp2_with fail
                  go_meet
                  exact EX.out
                · have hb2 : (whS chgT k tF).2 = false := by simpa using hb
                  rw [hb2] at cb2
                  obtain ⟨hn1, hn2⟩ := wh_next hb2
                  obtain ⟨sk, hsk⟩ : ∃ t, whS chgT k tF = t := ⟨_, rfl⟩
                  obtain ⟨xs, hxs⟩ : ∃ t, whL chgT k tF = t := ⟨_, rfl⟩
                  rw [hsk] at hn1 hn2 hoz
                  rw [hxs] at hn2 hoz
                  obtain ⟨tx, htx⟩ : ∃ t, sk.txt 1 = t := ⟨_, rfl⟩
                  obtain ⟨s2, hs2⟩ : ∃ t, sk.ts 1 = t := ⟨_, rfl⟩
                  obtain ⟨nm, hnm⟩ : ∃ t, s2.num 1 = t := ⟨_, rfl⟩
                  have nml : nm < 256 := by rw [← hnm]; exact ts_num s2 1
                  obtain ⟨s3, hs3⟩ : ∃ t, s2.s 1 = t := ⟨_, rfl⟩
                  obtain ⟨bq, hbq⟩ : ∃ t, decide (0 < nm) = t := ⟨_, rfl⟩
                  obtain ⟨ty, hty⟩ : ∃ t, s3.txt 2 = t := ⟨_, rfl⟩
                  obtain ⟨s4, hs4⟩ : ∃ t, s3.ts 2 = t := ⟨_, rfl⟩
                  have hg2 : decide (0 < nm) = bq := hbq
                  have hgt : decide ((0 : Int) < (nm : Int)) = bq := by rw [← hbq, decide_eq_decide]; omega
                  have HN1 : Hid (whS chgT (k + 1) tF = s4) := Lib.hid (by rw [hn1]; unfold chgT; dsimp only; rw [hs2, hs3, hs4])
                  have HN2 : Hid (whL chgT (k + 1) tF = xs ++ [⟨tx, bq, ty⟩]) := Lib.hid (by rw [hn2]; unfold chgT; dsimp only; rw [htx, hs2, hnm, hs3, hty, hbq])
                  have CT1 : Hid (∀ W, Tk W g sk → Calls Tryz.prog 18 #[.pointer (some ⟨g, 0, none⟩), .int .i64 1] W fun e w' => e = .returned (.string tx) ∧ Tk w' g s2 ∧ W.grownBy w' (some g)) := Lib.hid fun W hW => by rw [← htx, ← hs2]; exact text6_any hW 1 1 rfl (by omega)
                  have CN : Hid (∀ W, Tk W g s2 → Calls Tryz.prog 17 #[.pointer (some ⟨g, 0, none⟩), .int .i64 1] W fun e w' => e = .returned (.int .u64 (nm : Nat)) ∧ Tk w' g s3 ∧ W.grownBy w' (some g)) := Lib.hid fun W hW => by rw [← hnm, ← hs3]; exact num6_any hW 1 1 rfl (by omega)
                  have CT2 : Hid (∀ W, Tk W g s3 → Calls Tryz.prog 18 #[.pointer (some ⟨g, 0, none⟩), .int .i64 2] W fun e w' => e = .returned (.string ty) ∧ Tk w' g s4 ∧ W.grownBy w' (some g)) := Lib.hid fun W hW => by rw [← hty, ← hs4]; exact text6_any hW 2 2 rfl (by omega)
                  obtain ⟨zc, hzc⟩ : ∃ z, (⟨⟨#[]⟩, false, ⟨#[]⟩⟩ : Ch) = z := ⟨_, rfl⟩
                  have ZC : Hid (∀ w : World, (zeroValue 71).run Tryz.prog w = .ok (.agg zc.cells.toArray) w) := Lib.hid (by rw [← hzc]; exact zero_chg)
                  obtain ⟨c1, hc1⟩ : ∃ z, (⟨tx, false, ⟨#[]⟩⟩ : Ch) = z := ⟨_, rfl⟩
                  have BC : Hid (Tryz.prog.built 71 [(0, .string tx)] = some c1.cells.toArray) := Lib.hid (by rw [← hc1]; exact built_chg1 tx)
                  have HC1 := Lib.hid hc1
                  clear htx hs2 hnm hs3 hbq hty hs4 hn1 hn2 hsk hxs EXIT hzc hc1
                  go_upto_region 25 with (first
                    | (go_at_call 18; refine (CT1.out _ hoz.out.t).mono ?_; rintro e w15 ⟨rfl, hT, hG⟩; have O15 := Lib.hid (hoz.out.call hG hT); obtain ⟨wA, hwA⟩ : ∃ v, w15.alloc (.cells zc.cells.toArray 71) = v := ⟨_, rfl⟩; have HWA := Lib.hid hwA; have XA : Hid (Lies wA w15.heap.size 3 zc.cells) := Lib.hid (by rw [← hwA]; exact Lies.new w15 zc.cells 71); have TA := Lib.hid XA.out.th; clear hwA hT hG)
                    | ((with_reducible refine bdt 71 [(0, .tmp 117)] ?_ ?_ c1.cells.toArray ?_ ?_); rfl; rfl; exact BC.out)
                    | ((with_reducible refine alt 71 ?_ ?_ zc.cells ZC.out ?_); rfl; rfl; rw [HWA.out]; (try simp only [Act.put, List.setIfInBounds_toArray, List.set_cons_succ, List.set_cons_zero]))
                    | ((with_reducible refine stc (.tmp 13) (.tmp 118) ?_ ?_ w15.heap.size 0 c1 ?_ ?_ TA.out ?_); rfl; rfl; rfl; rfl; (try simp only [Act.put, List.setIfInBounds_toArray, List.set_cons_succ, List.set_cons_zero]))
                    | fail)
                  obtain ⟨w16, hw16⟩ : ∃ v, wA.setCells w15.heap.size 0 c1.cells = v := ⟨_, rfl⟩
                  have b56 : Hid (Below w15.heap.size w15 w16) := Lib.hid (by rw [← hw16, ← HWA.out]; exact below_setCells ((Below.refl _ _).alloc (Nat.le_refl _) _) (Nat.le_refl _) _ _)
                  have X16 : Hid (Lies w16 w15.heap.size 3 c1.cells) := Lib.hid (by rw [← hw16]; exact XA.out.set_ rfl)
                  rw [hw16]
                  have hgb : g < w15.heap.size := O15.out.t.lt
                  have hXb := O15.out.lt
                  clear hw16 XA TA HWA cb2
                  go_upto_region 26 with (first
                    | (go_at_call 17; refine (CN.out _ (O15.out.t.below b56.out)).mono ?_; rintro e w17 ⟨rfl, hT, hG⟩; have G17 := Lib.hid (S3.only_trans (S3.only_of_below b56.out (some g)) hG); have T17 := Lib.hid hT; have X17 : Hid (Lies w17 w15.heap.size 3 c1.cells) := Lib.hid (X16.out.kp (hG.block _ X16.out.lt (by simp <;> omega)) hG.size); have x17 : w17.cell? ⟨w15.heap.size, 1, none⟩ = some (.bool c1.is) := X17.out.cell rfl; have f17 := X17.out.frozen (j := 1) (by omega); clear hT hG)
                    | fail)
                  obtain ⟨w18, hw18⟩ : ∃ v, w17.setCell ⟨w15.heap.size, 1, none⟩ (.bool bq) = v := ⟨_, rfl⟩
                  have X18 : Hid (Lies w18 w15.heap.size 3 (c1.cells.set 1 (.bool bq))) := Lib.hid (by rw [← hw18]; exact X17.out.set1 1 (.bool bq))
                  have G18 : Hid (w15.grownBy w18 (some g)) := Lib.hid (by rw [← hw18]; exact only_then G17.out (below_setCells (Below.refl _ _) (Nat.le_refl _) 1 [Value.bool bq]))
                  have T18 : Hid (Tk w18 g s3) := Lib.hid (by
                    rw [← hw18]
                    have gg := grown_cells w17 w15.heap.size 1 [Value.bool bq]
                    exact T17.out.kept gg.size fun q hq => gg.block q (by have := T17.out.lt; omega) (by simp <;> omega))
                  rw [hw18]
                  clear hw18 G17 T17 X17 x17 f17
                  go_upto_region 27 with (first
                    | (go_at_call 18; refine (CT2.out _ T18.out).mono ?_; rintro e w19 ⟨rfl, hT, hG⟩; have G19 := Lib.hid (S3.only_trans G18.out hG); have T19 := Lib.hid hT; have X19 : Hid (Lies w19 w15.heap.size 3 (c1.cells.set 1 (.bool bq))) := Lib.hid (X18.out.kp (hG.block _ X18.out.lt (by simp <;> omega)) hG.size); have x19 : w19.cell? ⟨w15.heap.size, 2, none⟩ = some (.string c1.t) := X19.out.cell rfl; have f19 := X19.out.frozen (j := 2) (by omega); clear hT hG)
                    | fail)
                  obtain ⟨w20, hw20⟩ : ∃ v, w19.setCell ⟨w15.heap.size, 2, none⟩ (.string ty) = v := ⟨_, rfl⟩
                  obtain ⟨cf, hcf⟩ : ∃ z, (⟨tx, bq, ty⟩ : Ch) = z := ⟨_, rfl⟩
                  have X20 : Hid (Lies w20 w15.heap.size 3 cf.cells) := Lib.hid (by
                    have := X19.out.set1 2 (.string ty)
                    rw [hw20, ← HC1.out] at this
                    rw [← hcf]
                    exact this)
                  have O20 : Hid (Oz w g X s4 (⟨3, ⟨#[]⟩, [], (na : Int), iA, iB, ps, xs, 0, 0, ⟨#[]⟩⟩ : Ov) nSl P E w20) := Lib.hid (by
                    rw [← hw20]
                    have gg := grown_cells w19 w15.heap.size 2 [Value.string ty]
                    exact O15.out.call (only_then G19.out (below_setCells (Below.refl _ _) (Nat.le_refl _) 2 [Value.string ty])) (T19.out.kept gg.size fun q hq => gg.block q (by have := T19.out.lt; omega) (by simp <;> omega)))
                  rw [hw20]
                  rw [hcf] at HN2
                  clear hw20 G19 T19 X19 x19 f19 X18 G18 T18 X16 b56 O15 hoz HC1 hcf
                  have OL : Hid (w20.ownsRow (X + 1) 71 3 (.slice E.a E.n E.c) E.n (xs.flatMap Ch.cells)) := Lib.hid O20.out.o.e
                  have x69 := O20.out.c69
                  have hx9 := O20.out.lt
                  have hLm : E.n < 256 := by omega
                  obtain ⟨i0, hi, hz, hz1, hz2⟩ := info_parts info_chv
                  go_upto_region 23 with (first
                    | ((with_reducible refine ldc (.tmp 13) ?_ ?_ w15.heap.size 0 cf ?_ X20.out.rg ?_); rfl; rfl; rfl; (try simp only [Act.put, List.setIfInBounds_toArray, List.set_cons_succ, List.set_cons_zero]))
                    | ((with_reducible refine oneL Tryz.underlying29 hi hz (k := 3) (by omega) (by omega) hz1 chz_sz (.tmp 129) ?_ ?_ cf.cells (chr_sz _) ?_ ?_); rfl; rfl; rfl; (try simp only [Act.put, List.setIfInBounds_toArray, List.set_cons_succ, List.set_cons_zero]))
                    | (at_builtin; refine wpList_append_own (w20.alloc (.cells cf.cells.toArray 71)) ?_ (.tmp 128) (.tmp 130) 29 ?_ (X + 1) 71 i0 (.agg (⟨⟨#[]⟩, false, ⟨#[]⟩⟩ : Ch).cells.toArray) 3 40 Tryz.underlying29 hi hz hz1 hz2 chz_sz (by omega) (.slice E.a E.n E.c) E.n (xs.flatMap Ch.cells) ?_ (OL.out.alloc _) ⟨w20.heap.size, 0, none⟩ 1 1 cf.cells ?_ (chr_sz _) (World.news_of_block (heap_alloc_new w20 _)) (fun u hu => ch_ones [cf] u (by simpa using hu)) (by unfold maxLen; omega) (by omega) (by simp; omega) ?_; rfl; rfl; rfl; rfl; intro v6 w21 own6 hg6 _; obtain ⟨A6, c6, hv6⟩ := own_shape own6; subst hv6; have OA := Lib.hid own6; have GA := Lib.hid (S3.only_trans (S3.only_of_below ((Below.refl w20.heap.size w20).alloc (Nat.le_refl _) _) _) hg6); have hob : ∀ q, (Value.slice E.a E.n E.c).ownBlock = some q → X + 1 ≤ q := (fun q e => (own_ty OL.out q e).1); have XA := O20.out.ob.kp (GA.out.block _ O20.out.ob.lt (fun e => by have := hob _ e.symm; omega)) GA.out.size; have x2a : w21.cell? ⟨X, 69, none⟩ = some (.slice E.a E.n E.c) := (obj_lies XA).2.2.2.2.2.2.2.1; have f2a := XA.frozen (j := 69) (by omega); clear own6 hg6 XA)
                    | fail)
                  have O21 := Lib.hid (O20.out.app (x' := (⟨3, ⟨#[]⟩, [], (na : Int), iA, iB, ps, (xs ++ [cf]), 0, 0, ⟨#[]⟩⟩ : Ov)) (L' := nSl) (P' := P) (E' := ⟨A6, E.n + 1, c6⟩) GA.out hob ⟨World.ownsRow_nil _ _ _ _, own_two O20.out.o.p OL.out (by decide) GA.out, by show w21.ownsRow _ _ _ _ _ ((xs ++ [cf]).flatMap Ch.cells); rw [List.flatMap_append]; simpa using OA.out⟩ 69 (.slice A6 (E.n + 1) c6) (of_ev ((⟨3, ⟨#[]⟩, [], (na : Int), iA, iB, ps, xs, 0, 0, ⟨#[]⟩⟩ : Ov).at_ nSl P E) _))
                  go_wp2_with fail
                  go_roundw
                  case rel => exact ⟨k + 1, ⟨A6, E.n + 1, c6⟩, by omega, by go_num, by show E.n + 1 ≤ k + 1; omega, Lib.hid (by rw [HN1.out, HN2.out]; exact O21.out)⟩
                  case measure => simp [intOf]; omega
              · have hd : decide ((k : Int) < (ne : Int)) = false := by simp; omega
                obtain rfl : k = ne := by omega
                have EX := Lib.hid (EXIT.out rfl rfl)
                go_wp2_with fail
                go_meet
                exact EX.out
          case rest =>
            obtain ⟨E, hEn, OY⟩ := hcut
            obtain ⟨w22, hw22⟩ : ∃ v, wc = v := ⟨_, rfl⟩
            rw [hw22] at OY ⊢
            clear hw22 OZ O13 O14
            go_upto_region 29 with (first
              | (go_at_call 17; refine (CN4.out _ OY.out.t).mono ?_; rintro e w23 ⟨rfl, hT, hG⟩; have O23 := Lib.hid (OY.out.call hG hT); clear hT hG)
              | (go_at_call 17; refine (CN5.out _ O23.out.t).mono ?_; rintro e w24 ⟨rfl, hT, hG⟩; have O24 := Lib.hid (O23.out.call hG hT); have x70 := O24.out.c70; have f70 := O24.out.ob.frozen (j := 70) (by omega); have x71 := O24.out.c71; have f71 := O24.out.ob.frozen (j := 71) (by omega); have O25 := Lib.hid (O24.out.one (x' := (⟨3, ⟨#[]⟩, [], (na : Int), iA, iB, ps, es, nb, 0, ⟨#[]⟩⟩ : Ov)) 70 (.int .u32 (nb : Int)) (of_num ((⟨3, ⟨#[]⟩, [], (na : Int), iA, iB, ps, es, 0, 0, ⟨#[]⟩⟩ : Ov).at_ nSl P E) nb) rfl rfl rfl); have y71 := O25.out.c71; have g71 := O25.out.ob.frozen (j := 71) (by omega); clear hT hG)
              | fail)
            obtain ⟨w26, hw26⟩ : ∃ v, (w24.setCell ⟨X, 70, none⟩ (.int .u32 (nb : Int))).setCell ⟨X, 71, none⟩ (.int .u32 (nc : Int)) = v := ⟨_, rfl⟩
            have O26 : Hid (Oz w g X tI (⟨3, ⟨#[]⟩, [], (na : Int), iA, iB, ps, es, nb, nc, ⟨#[]⟩⟩ : Ov) nSl P E w26) := Lib.hid (by
              rw [← hw26]
              exact O25.out.one 71 _ (of_auth ((⟨3, ⟨#[]⟩, [], (na : Int), iA, iB, ps, es, nb, 0, ⟨#[]⟩⟩ : Ov).at_ nSl P E) nc) rfl rfl rfl)
            rw [hw26]
            clear hw26 x70 f70 x71 f71 y71 g71 OY O23 O24 O25
            go_wp2_with (first
              | (go_at_call 18; refine (CT.out _ O26.out.t).mono ?_; rintro e w27 ⟨rfl, hT, hG⟩; have O27 := Lib.hid (O26.out.call hG hT); have x72 := O27.out.c72; have f72 := O27.out.ob.frozen (j := 72) (by omega); clear hT hG)
              | fail)
            go_meet
            exact ⟨_, tJ, nSl, P, E, HO, Lib.hid (O27.out.one 72 _ (of_note ((⟨3, ⟨#[]⟩, [], (na : Int), iA, iB, ps, es, nb, nc, ⟨#[]⟩⟩ : Ov).at_ nSl P E) no) rfl rfl rfl), Lib.hid ⟨⟨by decide, by omega, by omega⟩, (fun q h => by cases h), ESM.out⟩⟩
      have e1 : ((k : Int) == 1) = false := by rw [Bool.eq_false_iff]; simp; omega
      have e2 : ((k : Int) == 2) = false := by rw [Bool.eq_false_iff]; simp; omega
      have e3 : ((k : Int) == 3) = false := by rw [Bool.eq_false_iff]; simp; omega
      have HO : Hid (objT t0 = (xk, t1)) := Lib.hid (by
        unfold objT
        rw [HK.out, if_neg k1, if_neg k2, if_neg k3, HT1.out, ← HXK.out])
      have HDZ : Hid ((zOv, (160 : Int)) = D) := Lib.hid (by
        rw [← HDD.out]
        unfold decT
        rw [show ((l, false) : Ts) = t0 from HT0.out, HO.out, if_neg (by rw [hb0]; decide), if_neg]
        rw [show okW xk = false from by rw [← HXK.out]; unfold okW soundW; rw [show (kOv (k : Int)).kind = (k : Int) from rfl, if_neg (by omega), if_neg (by omega), if_neg (by omega)]; simp]
        simp)
      have Tz := Lib.hid O5.out.y.th
      obtain ⟨w9, hw9⟩ : ∃ v, w5.setCells w.heap.size 0 zz.cells = v := ⟨_, rfl⟩
      have N9 : Hid (w9.rangeAt w.heap.size 0 zz.cells) := Lib.hid (by rw [← hw9]; exact (O5.out.y.set_ (of_sz _)).rg)
      have B9 : Hid (Below w.heap.size w w9) := Lib.hid (by rw [← hw9]; exact below_setCells O5.out.b (Nat.le_refl _) _ _)
      have HW9 := Lib.hid hw9
      clear hw9
      go_wp2_with (first
        | ((with_reducible refine bdt 34 [] ?_ ?_ zz.cells.toArray ?_ ?_); rfl; rfl; exact BZ.out)
        | ((with_reducible refine sto (.tmp 2) (.tmp 21) ?_ ?_ w.heap.size 0 zz ?_ ?_ Tz.out ZZ1.out.1 ZZ1.out.2.1 ZZ1.out.2.2 ?_); rfl; rfl; rfl; rfl; rw [HW9.out])
        | fail)
      exact bodyPost_ret (res_obi rfl _ _ w.heap.size 0 zz _ rfl rfl N9.out) rfl ⟨⟨ofV zz, by rw [← HDZ.out]; rfl, by rw [← HDZ.out, ← HZZ.out]; exact ObjRes.zero _⟩, B9.out⟩
  case rest =>
    obtain ⟨x, t9, L, P, E, HO, OZ, LM⟩ := hcut
    obtain ⟨wF, hwF⟩ : ∃ v, wc = v := ⟨_, rfl⟩
    rw [hwF] at OZ ⊢
    clear hwF c0 cb O5 HXK HCK HK HT1 hwr hk8
    have cb := OZ.out.t.bad
    by_cases hbad : t9.2 = true
    · rw [hbad] at cb
      have HDZ : Hid ((zOv, (7 : Int)) = D) := Lib.hid (by
        rw [← HDD.out]
        unfold decT
        rw [show ((l, false) : Ts) = t0 from HT0.out, HO.out, if_pos hbad])
      have Tz := Lib.hid OZ.out.y.th
      obtain ⟨w9, hw9⟩ : ∃ v, wF.setCells w.heap.size 0 zz.cells = v := ⟨_, rfl⟩
      have N9 : Hid (w9.rangeAt w.heap.size 0 zz.cells) := Lib.hid (by rw [← hw9]; exact (OZ.out.y.set_ (of_sz _)).rg)
      have B9 : Hid (Below w.heap.size w w9) := Lib.hid (by rw [← hw9]; exact below_setCells OZ.out.b (Nat.le_refl _) _ _)
      have HW9 := Lib.hid hw9
      clear hw9
      go_wp2_with (first
        | ((with_reducible refine bdt 34 [] ?_ ?_ zz.cells.toArray ?_ ?_); rfl; rfl; exact BZ.out)
        | ((with_reducible refine sto (.tmp 2) (.tmp 149) ?_ ?_ w.heap.size 0 zz ?_ ?_ Tz.out ZZ1.out.1 ZZ1.out.2.1 ZZ1.out.2.2 ?_); rfl; rfl; rfl; rfl; rw [HW9.out])
        | fail)
      exact bodyPost_ret (res_obi rfl _ _ w.heap.size 0 zz _ rfl rfl N9.out) rfl ⟨⟨ofV zz, by rw [← HDZ.out]; rfl, by rw [← HDZ.out, ← HZZ.out]; exact ObjRes.zero _⟩, B9.out⟩
    have hb0 : t9.2 = false := by simpa using hbad
    rw [hb0] at cb
    obtain ⟨ox, hox⟩ : ∃ o, x.at_ L P E = o := ⟨_, rfl⟩
    have HOX := Lib.hid hox
    have OX1 : Hid (ox.lv.oneCell' = true ∧ ox.pv.oneCell' = true ∧ ox.ev.oneCell' = true) := Lib.hid (by rw [← hox]; exact ⟨rfl, rfl, rfl⟩)
    have XN : Hid (x.num < 4294967296 ∧ x.auth < 4294967296) := Lib.hid (by have := objT_num t0; rw [HO.out] at this; exact this)
    have XK : Hid ((-9223372036854775808 ≤ x.kind ∧ x.kind ≤ 9223372036854775807) ∧ (-9223372036854775808 ≤ x.style ∧ x.style ≤ 9223372036854775807)) := Lib.hid (by have := objT_kind t0; rw [HO.out] at this; exact this)
    have OB : Hid (∀ W, Oz w g X t9 x L P E W → Obj3 W W.heap.size x L P E) := Lib.hid fun W hW => hW.o.obj ⟨XK.out.1, XK.out.2, XN.out.1, XN.out.2⟩
    have CR : Hid (∀ W, Oz w g X t9 x L P E W → Calls Tryz.prog 20 #[ofV ox] W fun e w' => e = .returned (.bool (okW x)) ∧ Below W.heap.size W w') := Lib.hid fun W hW => by rw [← hox]; exact right6_any (OB.out W hW) LM.out.m LM.out.l LM.out.e
    have CB : Hid (okW x = true → ∀ W, Oz w g X t9 x L P E W → Calls Tryz.prog 21 #[ofV ox] W fun e w' => (∃ A n c, e = .returned (.slice A n c) ∧ OwnB w' W.heap.size A n c (bytesW x)) ∧ Below W.heap.size W w') := Lib.hid fun hq W hW => by rw [← hox]; exact bytes6_any (OB.out W hW) (layW_of (okW_sound hq))
    have HD : Hid (D = if okW x && (bytesW x == l) then (x, 0) else (zOv, 160)) := Lib.hid (by
      rw [← HDD.out]
      unfold decT
      rw [show ((l, false) : Ts) = t0 from HT0.out, HO.out, if_neg (by rw [hb0]; decide)])
    have OZ0 : Hid (Oz w g X t9 x L P E wF.drew) := Lib.hid (OZ.out.up ((Below.refl _ _).drew))
    obtain ⟨wD, hwD⟩ : ∃ v, wF.drew = v := ⟨_, rfl⟩
    have OD : Hid (Oz w g X t9 x L P E wD) := Lib.hid (by rw [← hwD]; exact OZ0.out)
    have HWD := Lib.hid hwD
    have LX : Hid (∀ W, Oz w g X t9 x L P E W → W.rangeAt X 0 ox.cells) := Lib.hid fun W hW => by rw [← hox]; exact hW.ob.rg
    clear hwD hox
    by_cases hok : okW x = true
    · obtain ⟨q, hq⟩ : ∃ q, (bytesW x == l) = q := ⟨_, rfl⟩
      obtain ⟨sb, hsb⟩ : ∃ s : ByteArray, (⟨(bytesW x).toArray⟩ : ByteArray) = s := ⟨_, rfl⟩
      obtain ⟨sl, hsl⟩ : ∃ s : ByteArray, (⟨l.toArray⟩ : ByteArray) = s := ⟨_, rfl⟩
      have HSB := Lib.hid hsb
      have HS2 := Lib.hid hsl
      have hqq : (sb.toList == sl.toList) = q := by
        rw [← hq, ← hsb, ← hsl, ByteArray.toList_eq, ByteArray.toList_eq]
      have HD2 : Hid (D = if q then (x, 0) else (zOv, 160)) := Lib.hid (by rw [HD.out, hok, hq, Bool.true_and])
      have CR1 : Hid (∀ W, Oz w g X t9 x L P E W → Calls Tryz.prog 20 #[ofV ox] W fun e w' => e = .returned (.bool true) ∧ Below W.heap.size W w') := Lib.hid fun W hW => by rw [← hok]; exact CR.out W hW
      have CB1 := Lib.hid (CB.out hok)
      clear hsb hsl hq CR CB
      go_upto_region 32 with fail
      refine wp_region_noPanic ?_
      refine wp_region_held_drew (S := (Oz w g X t9 x L P E)) (by kernel_rfl) OZ0.out (fun _ => ?_)
      rw [HWD.out]
      refine wpAnyH_take (i := 0) rfl (by kernel_rfl) (by kernel_rfl) (by kernel_rfl) (fun _ _ _ h => h) (yieldsIf_load_mid rfl 34 _ rfl X 0 rfl ox.cells _ (fun w' hw' => LX.out w' hw') Tryz.underlying34 rfl (by rw [of_sz]; exact size_of)) OD.out ?_
      simp only [List.getElem_toArray, List.getElem_cons_zero, List.getElem_cons_succ, Act.put, List.setIfInBounds_toArray, List.set_cons_succ, List.set_cons_zero]
      refine wpAnyH_ready (rs := [1]) (by kernel_rfl) (by simp) (AllReadyH.cons rfl (fun K hK => ?_) AllReadyH.nil)
      rw [if_pos (by rfl)]
      refine wp_fn (f := 20) (xs := #[ofV ox]) (by first | (go_simp; done) | (go_simp; rfl)) ((CR1.out _ OD.out).mono ?_)
      rintro e u1 ⟨rfl, hb1⟩
      have O1 := Lib.hid (OD.out.up hb1)
      clear hb1
      refine ⟨_, rfl, hK.out _ _ O1.out (fun _ => ?_)⟩
      simp only [List.getElem_toArray, List.getElem_cons_zero, List.getElem_cons_succ, Act.put, List.setIfInBounds_toArray, List.set_cons_succ, List.set_cons_zero]
      refine wpAnyH_take (i := 2) rfl (by kernel_rfl) (by kernel_rfl) (by kernel_rfl) (fun _ _ _ h => h) (.inl ⟨rfl, fun w' hw' => (by clear hw'; go_simp; (try rfl))⟩) O1.out ?_
      simp only [List.getElem_toArray, List.getElem_cons_zero, List.getElem_cons_succ, Act.put, List.setIfInBounds_toArray, List.set_cons_succ, List.set_cons_zero]
      refine wpAnyH_take (i := 3) rfl (by kernel_rfl) (by kernel_rfl) (by kernel_rfl) (fun _ _ _ h => h) (.inl ⟨rfl, fun w' hw' => (by clear hw'; go_simp; (try rfl))⟩) O1.out ?_
      simp only [List.getElem_toArray, List.getElem_cons_zero, List.getElem_cons_succ, Act.put, List.setIfInBounds_toArray, List.set_cons_succ, List.set_cons_zero]
      refine wpAnyH_take (i := 4) rfl (by kernel_rfl) (by kernel_rfl) (by kernel_rfl) (fun _ _ _ h => h) (yieldsIf_load_mid rfl 34 _ rfl X 0 rfl ox.cells _ (fun w' hw' => LX.out w' hw') Tryz.underlying34 rfl (by rw [of_sz]; exact size_of)) O1.out ?_
      simp only [List.getElem_toArray, List.getElem_cons_zero, List.getElem_cons_succ, Act.put, List.setIfInBounds_toArray, List.set_cons_succ, List.set_cons_zero]
      refine wpAnyH_take (i := 7) rfl (by kernel_rfl) (by kernel_rfl) (by kernel_rfl) (fun _ _ _ h => h) (.inl ⟨rfl, fun w' hw' => (by clear hw'; go_simp; (try rfl))⟩) O1.out ?_
      simp only [List.getElem_toArray, List.getElem_cons_zero, List.getElem_cons_succ, Act.put, List.setIfInBounds_toArray, List.set_cons_succ, List.set_cons_zero]
      refine wpAnyH_take (i := 8) rfl (by kernel_rfl) (by kernel_rfl) (by kernel_rfl) (fun _ _ _ h => h) (.inl ⟨rfl, fun w' hw' => run_str (.tmp 157) rfl rfl (HSL.out w' hw'.b)⟩) O1.out ?_
      simp only [List.getElem_toArray, List.getElem_cons_zero, List.getElem_cons_succ, Act.put, List.setIfInBounds_toArray, List.set_cons_succ, List.set_cons_zero]
      rw [HS2.out]
      refine wpAnyH_ready (rs := [5]) (by kernel_rfl) (by simp) (AllReadyH.cons rfl (fun K hK => ?_) AllReadyH.nil)
      rw [if_pos (by rfl)]
      refine wp_fn (f := 21) (xs := #[ofV ox]) (by first | (go_simp; done) | (go_simp; rfl)) ((CB1.out _ O1.out).mono ?_)
      rintro e u2 ⟨⟨A2, n2, c2, rfl, ho2⟩, hb2⟩
      have O2 := Lib.hid (O1.out.up hb2)
      have SB := Lib.hid ho2.sl
      clear hb2 ho2
      refine ⟨_, rfl, hK.out _ _ O2.out (fun _ => ?_)⟩
      simp only [List.getElem_toArray, List.getElem_cons_zero, List.getElem_cons_succ, Act.put, List.setIfInBounds_toArray, List.set_cons_succ, List.set_cons_zero]
      refine wpAnyH_ready (rs := [6]) (by kernel_rfl) (by simp) (AllReadyH.cons rfl (fun K hK => ?_) AllReadyH.nil)
      rw [if_pos (by rfl)]
      refine wp_val (run_str (.tmp 155) rfl rfl SB.out) ?_
      rw [HSB.out]
      refine hK.out _ _ O2.out (fun _ => ?_)
      simp only [List.getElem_toArray, List.getElem_cons_zero, List.getElem_cons_succ, Act.put, List.setIfInBounds_toArray, List.set_cons_succ, List.set_cons_zero]
      refine wpAnyH_take (i := 9) rfl (by kernel_rfl) (by kernel_rfl) (by kernel_rfl) (fun _ _ _ h => h) (.inl ⟨rfl, fun w' hw' => (by clear hw'; go_simp; (try rfl))⟩) O2.out ?_
      simp only [List.getElem_toArray, List.getElem_cons_zero, List.getElem_cons_succ, Act.put, List.setIfInBounds_toArray, List.set_cons_succ, List.set_cons_zero]
      refine wpAnyH_take (i := 10) rfl (by kernel_rfl) (by kernel_rfl) (by kernel_rfl) (fun _ _ _ h => h) (.inl ⟨rfl, fun w' hw' => (by clear hw'; go_simp; (try rfl))⟩) O2.out ?_
      simp only [List.getElem_toArray, List.getElem_cons_zero, List.getElem_cons_succ, Act.put, List.setIfInBounds_toArray, List.set_cons_succ, List.set_cons_zero]
      refine wpAnyH_done (by kernel_rfl) ?_ _
      refine NoPanic.normal ?_
      cases q
      · have HDZ : Hid ((zOv, (160 : Int)) = D) := Lib.hid (by rw [HD2.out]; rfl)
        have Tz := Lib.hid O2.out.y.th
        obtain ⟨w9, hw9⟩ : ∃ v, u2.setCells w.heap.size 0 zz.cells = v := ⟨_, rfl⟩
        have N9 : Hid (w9.rangeAt w.heap.size 0 zz.cells) := Lib.hid (by rw [← hw9]; exact (O2.out.y.set_ (of_sz _)).rg)
        have B9 : Hid (Below w.heap.size w w9) := Lib.hid (by rw [← hw9]; exact below_setCells O2.out.b (Nat.le_refl _) _ _)
        have HW9 := Lib.hid hw9
        clear hw9
        go_wp2_with (first
          | ((with_reducible refine bdt 34 [] ?_ ?_ zz.cells.toArray ?_ ?_); rfl; rfl; exact BZ.out)
          | ((with_reducible refine sto (.tmp 2) (.tmp 161) ?_ ?_ w.heap.size 0 zz ?_ ?_ Tz.out ZZ1.out.1 ZZ1.out.2.1 ZZ1.out.2.2 ?_); rfl; rfl; rfl; rfl; rw [HW9.out])
          | fail)
        exact bodyPost_ret (res_obi rfl _ _ w.heap.size 0 zz _ rfl rfl N9.out) rfl ⟨⟨ofV zz, by rw [← HDZ.out]; rfl, by rw [← HDZ.out, ← HZZ.out]; exact ObjRes.zero _⟩, B9.out⟩
      · have HDZ : Hid ((x, (0 : Int)) = D) := Lib.hid (by rw [HD2.out]; rfl)
        have Tz := Lib.hid O2.out.y.th
        have RG := Lib.hid (LX.out _ O2.out)
        obtain ⟨w9, hw9⟩ : ∃ v, u2.setCells w.heap.size 0 ox.cells = v := ⟨_, rfl⟩
        have N9 : Hid (w9.rangeAt w.heap.size 0 ox.cells) := Lib.hid (by rw [← hw9]; exact (O2.out.y.set_ (of_sz _)).rg)
        have B9 : Hid (Below w.heap.size w w9) := Lib.hid (by rw [← hw9]; exact below_setCells O2.out.b (Nat.le_refl _) _ _)
        have OB9 : Hid (Obj3 w9 w9.heap.size x L P E) := Lib.hid (by rw [← hw9]; exact (O2.out.o.far (by have := O2.out.hg; have := O2.out.hx; omega) (grown_cells u2 w.heap.size 0 ox.cells)).obj ⟨XK.out.1, XK.out.2, XN.out.1, XN.out.2⟩)
        have HW9 := Lib.hid hw9
        clear hw9
        go_wp2_with (first
          | ((with_reducible refine ldo (.tmp 5) ?_ ?_ X 0 ox ?_ RG.out ?_); rfl; rfl; rfl; (try simp only [Act.put, List.setIfInBounds_toArray, List.set_cons_succ, List.set_cons_zero]))
          | ((with_reducible refine sto (.tmp 2) (.tmp 162) ?_ ?_ w.heap.size 0 ox ?_ ?_ Tz.out OX1.out.1 OX1.out.2.1 OX1.out.2.2 ?_); rfl; rfl; rfl; rfl; rw [HW9.out])
          | fail)
        exact bodyPost_ret (res_obi rfl _ _ w.heap.size 0 ox _ rfl rfl N9.out) rfl ⟨⟨ofV ox, by rw [← HDZ.out]; rfl, by rw [← HDZ.out, ← HOX.out]; exact ⟨L, P, E, rfl, OB9.out, LM.out.m.l, LM.out.m.p, LM.out.m.e⟩⟩, B9.out⟩
    · have CR0 : Hid (∀ W, Oz w g X t9 x L P E W → Calls Tryz.prog 20 #[ofV ox] W fun e w' => e = .returned (.bool false) ∧ Below W.heap.size W w') := Lib.hid fun W hW => by rw [← show okW x = false from by simpa using hok]; exact CR.out W hW
      have HDZ : Hid ((zOv, (160 : Int)) = D) := Lib.hid (by rw [HD.out, if_neg]; rw [show okW x = false from by simpa using hok, Bool.false_and]; decide)
      clear CB CR
      go_upto_region 32 with fail
      refine wp_region_noPanic ?_
      refine wp_region_held_drew (S := (Oz w g X t9 x L P E)) (by kernel_rfl) OZ0.out (fun _ => ?_)
      rw [HWD.out]
      refine wpAnyH_take (i := 0) rfl (by kernel_rfl) (by kernel_rfl) (by kernel_rfl) (fun _ _ _ h => h) (yieldsIf_load_mid rfl 34 _ rfl X 0 rfl ox.cells _ (fun w' hw' => LX.out w' hw') Tryz.underlying34 rfl (by rw [of_sz]; exact size_of)) OD.out ?_
      simp only [List.getElem_toArray, List.getElem_cons_zero, List.getElem_cons_succ, Act.put, List.setIfInBounds_toArray, List.set_cons_succ, List.set_cons_zero]
      refine wpAnyH_ready (rs := [1]) (by kernel_rfl) (by simp) (AllReadyH.cons rfl (fun K hK => ?_) AllReadyH.nil)
      rw [if_pos (by rfl)]
      refine wp_fn (f := 20) (xs := #[ofV ox]) (by first | (go_simp; done) | (go_simp; rfl)) ((CR0.out _ OD.out).mono ?_)
      rintro e u1 ⟨rfl, hb1⟩
      have O1 := Lib.hid (OD.out.up hb1)
      clear hb1
      refine ⟨_, rfl, hK.out _ _ O1.out (fun _ => ?_)⟩
      simp only [List.getElem_toArray, List.getElem_cons_zero, List.getElem_cons_succ, Act.put, List.setIfInBounds_toArray, List.set_cons_succ, List.set_cons_zero]
      refine wpAnyH_take (i := 2) rfl (by kernel_rfl) (by kernel_rfl) (by kernel_rfl) (fun _ _ _ h => h) (.inl ⟨rfl, fun w' hw' => (by clear hw'; go_simp; (try rfl))⟩) O1.out ?_
      simp only [List.getElem_toArray, List.getElem_cons_zero, List.getElem_cons_succ, Act.put, List.setIfInBounds_toArray, List.set_cons_succ, List.set_cons_zero]
      refine wpAnyH_take (i := 3) rfl (by kernel_rfl) (by kernel_rfl) (by kernel_rfl) (fun _ _ _ h => h) (.inl ⟨rfl, fun w' hw' => (by clear hw'; go_simp; (try rfl))⟩) O1.out ?_
      simp only [List.getElem_toArray, List.getElem_cons_zero, List.getElem_cons_succ, Act.put, List.setIfInBounds_toArray, List.set_cons_succ, List.set_cons_zero]
      refine wpAnyH_take (i := 4) rfl (by kernel_rfl) (by kernel_rfl) (by kernel_rfl) (fun _ _ _ h => h) (.inr ⟨by rfl, rfl⟩) O1.out ?_
      simp only [List.getElem_toArray, List.getElem_cons_zero, List.getElem_cons_succ, Act.put, List.setIfInBounds_toArray, List.set_cons_succ, List.set_cons_zero]
      refine wpAnyH_take (i := 7) rfl (by kernel_rfl) (by kernel_rfl) (by kernel_rfl) (fun _ _ _ h => h) (.inr ⟨by rfl, rfl⟩) O1.out ?_
      simp only [List.getElem_toArray, List.getElem_cons_zero, List.getElem_cons_succ, Act.put, List.setIfInBounds_toArray, List.set_cons_succ, List.set_cons_zero]
      refine wpAnyH_take (i := 8) rfl (by kernel_rfl) (by kernel_rfl) (by kernel_rfl) (fun _ _ _ h => h) (.inr ⟨by rfl, rfl⟩) O1.out ?_
      simp only [List.getElem_toArray, List.getElem_cons_zero, List.getElem_cons_succ, Act.put, List.setIfInBounds_toArray, List.set_cons_succ, List.set_cons_zero]
      refine wpAnyH_ready (rs := [5]) (by kernel_rfl) (by simp) (AllReadyH.cons rfl (fun K hK => ?_) AllReadyH.nil)
      go_simp
      refine hK.out _ _ O1.out (fun _ => ?_)
      refine wpAnyH_ready (rs := [6]) (by kernel_rfl) (by simp) (AllReadyH.cons rfl (fun K hK => ?_) AllReadyH.nil)
      go_simp
      refine hK.out _ _ O1.out (fun _ => ?_)
      refine wpAnyH_take (i := 9) rfl (by kernel_rfl) (by kernel_rfl) (by kernel_rfl) (fun _ _ _ h => h) (.inr ⟨by rfl, rfl⟩) O1.out ?_
      simp only [List.getElem_toArray, List.getElem_cons_zero, List.getElem_cons_succ, Act.put, List.setIfInBounds_toArray, List.set_cons_succ, List.set_cons_zero]
      refine wpAnyH_take (i := 10) rfl (by kernel_rfl) (by kernel_rfl) (by kernel_rfl) (fun _ _ _ h => h) (.inl ⟨rfl, fun w' hw' => (by clear hw'; go_simp; (try rfl))⟩) O1.out ?_
      simp only [List.getElem_toArray, List.getElem_cons_zero, List.getElem_cons_succ, Act.put, List.setIfInBounds_toArray, List.set_cons_succ, List.set_cons_zero]
      refine wpAnyH_done (by kernel_rfl) ?_ _
      refine NoPanic.normal ?_
      have Tz := Lib.hid O1.out.y.th
      obtain ⟨w9, hw9⟩ : ∃ v, u1.setCells w.heap.size 0 zz.cells = v := ⟨_, rfl⟩
      have N9 : Hid (w9.rangeAt w.heap.size 0 zz.cells) := Lib.hid (by rw [← hw9]; exact (O1.out.y.set_ (of_sz _)).rg)
      have B9 : Hid (Below w.heap.size w w9) := Lib.hid (by rw [← hw9]; exact below_setCells O1.out.b (Nat.le_refl _) _ _)
      have HW9 := Lib.hid hw9
      clear hw9
      go_wp2_with (first
        | ((with_reducible refine bdt 34 [] ?_ ?_ zz.cells.toArray ?_ ?_); rfl; rfl; exact BZ.out)
        | ((with_reducible refine sto (.tmp 2) (.tmp 161) ?_ ?_ w.heap.size 0 zz ?_ ?_ Tz.out ZZ1.out.1 ZZ1.out.2.1 ZZ1.out.2.2 ?_); rfl; rfl; rfl; rfl; rw [HW9.out])
        | fail)
      exact bodyPost_ret (res_obi rfl _ _ w.heap.size 0 zz _ rfl rfl N9.out) rfl ⟨⟨ofV zz, by rw [← HDZ.out]; rfl, by rw [← HDZ.out, ← HZZ.out]; exact ObjRes.zero _⟩, B9.out⟩
end Go.Proofs.YtcofkhmgmemkmaaGreatDoor
