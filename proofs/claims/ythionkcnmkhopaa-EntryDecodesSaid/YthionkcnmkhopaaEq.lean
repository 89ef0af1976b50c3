/-
  COMMANDS: the reference's Decode.
-/
import Derived.Test.YthionkcnmkhopaaEl
import Derived.Test.YthionkcnmkhopaaEp
namespace Go.Proofs.Ythionkcnmkhopaa
set_option linter.unusedVariables false
set_option linter.unusedSimpArgs false
open Go.RowKit Go.WideShapes Go.ChangeShapes Go.Deep
attribute [local irreducible] wpQuiet

theorem sub_get (l : List UInt8) (a k j : Nat) (h : j < (sub l a k).length) : l[a + j]? = some ((sub l a k)[j]'h) := by
  have hj : j < k := by unfold sub at h; rw [List.length_take] at h; omega
  rw [← List.getElem?_eq_getElem h]
  unfold sub
  rw [List.getElem?_take_of_lt hj, List.getElem?_drop]
theorem sl_mid {W : World} {B n c b o a k : Nat} {l : List UInt8} (h : SlB W B (some ⟨b, o, none⟩) n c l) (hk : a + k ≤ n) : SlB W B (some ⟨b, o + a, none⟩) k (c - a) (sub l a k) := by
  have hl := h.len
  have hc := h.cap
  have hm := h.max
  refine ⟨sub_len (by omega), by omega, by omega, (fun e => by cases e), fun h0 => ?_⟩
  obtain ⟨b', o', e, hb, hcc⟩ := h.pos (by omega)
  injection e with e
  injection e with e1 e2 e3
  subst e1 e2
  refine ⟨_, _, rfl, hb, fun j hj => ?_⟩
  have h2 := sub_get l a k j hj
  obtain ⟨h3, h4⟩ := List.getElem?_eq_some_iff.1 h2
  rw [Nat.add_assoc, hcc (a + j) h3, h4]
theorem Rt2_any {w : World} {x : Cv} {D : Sl} (h : Cmd w w.heap.size x D) (hn : D.n ≤ 1000000) : Calls Try.prog 10 #[cfV (x.at_ D)] w fun e w' => e = .returned (.bool (okC x)) ∧ Below w.heap.size w w' := by
  have e := Right_any w (x.at_ D) D.a D.n D.c rfl (by omega)
  rw [right_ok, okC_at x D h.d.len.symm] at e
  exact e
/-- A command on its way in, and the result's box. -/
structure Df (w : World) (B : Nat) (cf : Cf) (W : World) : Prop where
  b : Below w.heap.size w W
  y : Lies W w.heap.size 69 zCf.cells
  x : Lies W B 69 cf.cells
  h : w.heap.size < B
section
variable {w W W' : World} {B : Nat} {cf cf' : Cf}
theorem Df.up (h : Df w B cf W) (hb : Below W.heap.size W W') : Df w B cf W' := ⟨h.b.trans (hb.mono h.b.size), h.y.below hb h.y.lt, h.x.below hb h.x.lt, h.h⟩
theorem Df.put (h : Df w B cf W) (hb : Below B W W') (hl : Lies W' B 69 cf'.cells) : Df w B cf' W' := ⟨h.b.trans (hb.mono (Nat.le_of_lt h.h)), h.y.below hb h.h, hl, h.h⟩
end
theorem cf4_built (k c : Int) (q : Int) (s : ByteArray) : Try.prog.built 27 [(0, .int .i64 k), (1, .int .i64 c), (2, .int .u32 q), (3, .string s)] = some (#[.int .i64 k, .int .i64 c, .int .u32 q, .string s] ++ (bvs Idv.zero.b).toArray ++ (bvs Idv.zero.b).toArray ++ #[.slice none 0 0]) := by kernel_rfl
theorem cf4_is (k c : Int) (q : Nat) (s : ByteArray) : Try.prog.built 27 [(0, .int .i64 k), (1, .int .i64 c), (2, .int .u32 (q : Int)), (3, .string s)] = some (⟨k, c, q, s, Idv.zero, Idv.zero, .slice none 0 0⟩ : Cf).cells.toArray := by
  rw [cf4_built]
  simp [Cf.cells]
theorem run_bd4 {op : Oper} {a : Act} {w : World} {k c q : Int} {s : ByteArray} {zs : Array Value} (x y z u : Operand) (ho : op.op = .build 27 #[(0, x), (1, y), (2, z), (3, u)]) (hx : a.eval x = .int .i64 k) (hy : a.eval y = .int .i64 c) (hz : a.eval z = .int .u32 q) (hu : a.eval u = .string s) (hb : Try.prog.built 27 [(0, .int .i64 k), (1, .int .i64 c), (2, .int .u32 q), (3, .string s)] = some zs) :
    (execOp a.eval op).run Try.prog w = .ok (.value (.agg zs)) w := by
  have e := run_build (P := Try.prog) w 27 #[(0, .int .i64 k), (1, .int .i64 c), (2, .int .u32 q), (3, .string s)] zs hb
  unfold execOp
  simp only [ho, List.map_toArray, List.map_cons, List.map_nil, hx, hy, hz, hu, Sem.run_bind, e, Result.andThen_ok, Sem.run_pure]
set_option maxRecDepth 100000 in
set_option maxHeartbeats 16000000 in
theorem rDecode_any {w : World} {A : Option Addr} {n c : Nat} {l : List UInt8} (hs : SlB w w.heap.size A n c l) (hn : n ≤ 1000000) :
    Calls Try.prog 15 #[.slice A n c] w fun x w' => (∃ v, x = .returned (.tuple #[v, .int .i64 (decW l).2]) ∧ CmdRes v (decW l).1 w') ∧ Below w.heap.size w w' := by
  obtain ⟨D, hD⟩ : ∃ d, decW l = d := ⟨_, rfl⟩
  have HDD := Lib.hid hD
  rw [hD]
  clear hD
  obtain ⟨zz, hzz⟩ : ∃ z, zCf = z := ⟨_, rfl⟩
  have ZO : Hid (∀ w : World, (zeroValue 27).run Try.prog w = .ok (.agg zz.cells.toArray) w) := Lib.hid (by rw [← hzz]; exact zero_cf)
  have BZ : Hid (Try.prog.built 27 [] = some zz.cells.toArray) := Lib.hid (by rw [← hzz]; exact built_cfz)
  have ZZ1 : Hid (zz.dv.oneCell' = true) := Lib.hid (by rw [← hzz]; rfl)
  obtain ⟨w1, hw1⟩ : ∃ w1, w.alloc (.cells zz.cells.toArray 27) = w1 := ⟨_, rfl⟩
  have s1 : w1.heap.size = w.heap.size + 1 := by rw [← hw1]; simp
  have B1 : Hid (Below w.heap.size w w1) := Lib.hid (by rw [← hw1]; exact (Below.refl _ _).alloc (Nat.le_refl _) _)
  have Y1 : Hid (Lies w1 w.heap.size 69 zz.cells) := Lib.hid (by
    rw [← hw1]
    have := Lies.new w zz.cells 27
    rwa [cf_sz] at this)
  have HSB : Hid (∀ W, Below w.heap.size w W → SlB W w.heap.size A n c l) := Lib.hid fun W hW => hs.below hW
  have hln := hs.len
  have hcap := hs.cap
  have HW1 := Lib.hid hw1
  have HZZ := Lib.hid hzz
  have T1 := Lib.hid Y1.out.th
  clear hw1 hzz
  obtain ⟨w9, hw9⟩ : ∃ v, w1.setCells w.heap.size 0 zz.cells = v := ⟨_, rfl⟩
  have N9 : Hid (w9.rangeAt w.heap.size 0 zz.cells) := Lib.hid (by rw [← hw9]; exact (Y1.out.set_ (cf_sz _)).rg)
  have B9 : Hid (Below w.heap.size w w9) := Lib.hid (by rw [← hw9]; exact below_setCells B1.out (Nat.le_refl _) _ _)
  have HW9 := Lib.hid hw9
  clear hw9
  by_cases h7 : n < 7
  · have d7 : decide ((n : Int) < 7) = true := by simp; omega
    have HDZ : Hid ((zCv, (7 : Int)) = D) := Lib.hid (by rw [← HDD.out, dec_short l (.inl (by omega))])
    go_enter Try.func15, Try.ntmps15
    go_upto_region 1 with (first
      | ((with_reducible refine alt 27 ?_ ?_ zz.cells ZO.out ?_); rfl; rfl; rw [HW1.out]; (try simp only [Act.put, List.setIfInBounds_toArray, List.set_cons_succ, List.set_cons_zero]))
      | fail)
    go_wp2_with (first
      | ((with_reducible refine bdt 27 [] ?_ ?_ zz.cells.toArray ?_ ?_); rfl; rfl; exact BZ.out)
      | ((with_reducible refine stc (.tmp 2) (.tmp 22) ?_ ?_ w.heap.size 0 zz ?_ ?_ T1.out ZZ1.out ?_); rfl; rfl; rfl; rfl; rw [HW9.out])
      | fail)
    exact bodyPost_ret (res_cfi rfl _ _ w.heap.size 0 zz _ rfl rfl N9.out) rfl ⟨⟨cfV zz, by rw [← HDZ.out]; rfl, by rw [← HDZ.out, ← HZZ.out]; exact CmdRes.zero _⟩, B9.out⟩
  have d7 : decide ((n : Int) < 7) = false := by simp; omega
  obtain ⟨b, o, rfl, hbl, hc⟩ := hs.pos (by omega)
  clear hs
  obtain ⟨nb, h6⟩ : ∃ q, l[6]? = some q := ⟨_, List.getElem?_eq_getElem (show 6 < l.length by omega)⟩
  obtain ⟨k0, h0⟩ : ∃ q, l[0]? = some q := ⟨_, List.getElem?_eq_getElem (show 0 < l.length by omega)⟩
  obtain ⟨k1, h1⟩ : ∃ q, l[1]? = some q := ⟨_, List.getElem?_eq_getElem (show 1 < l.length by omega)⟩
  have HCL : Hid (∀ W, Below w.heap.size w W → ∀ (j : Nat) (q : UInt8), l[j]? = some q → W.cell? ⟨b, o + j, none⟩ = some (.int .u8 (q.toNat : Int))) := Lib.hid fun W hW j q hq => by
    obtain ⟨hj, rfl⟩ := List.getElem?_eq_some_iff.1 hq
    exact (hW.cell (p := ⟨b, o + j, none⟩) hbl).trans (hc j hj)
  clear hc
  obtain ⟨m, hm⟩ : ∃ m, nb.toNat = m := ⟨_, rfl⟩
  have hm8 : m < 256 := by rw [← hm]; exact nb.toNat_lt
  have x6 := HCL.out w1 B1.out 6 nb h6
  rw [hm] at x6
  have vm : IntKind.i64.wrap (m : Int) = (m : Int) := IntWalk.i64_in _ (by omega)
  have v7 : IntKind.i64.wrap (7 + (m : Int)) = ((7 + m : Nat) : Int) := by rw [IntWalk.i64_in _ (by omega)]; omega
  have v73 : IntKind.i64.wrap (((7 + m : Nat) : Int) + 66) = ((73 + m : Nat) : Int) := by rw [IntWalk.i64_in _ (by omega)]; omega
  by_cases h73 : n < 73 + m
  · have d73 : decide ((n : Int) < ((73 + m : Nat) : Int)) = true := by simp; omega
    have HDZ : Hid ((zCv, (7 : Int)) = D) := Lib.hid (by rw [← HDD.out, dec_short l (.inr ⟨nb, h6, .inl (by omega)⟩)])
    go_enter Try.func15, Try.ntmps15
    go_upto_region 1 with (first
      | ((with_reducible refine alt 27 ?_ ?_ zz.cells ZO.out ?_); rfl; rfl; rw [HW1.out]; (try simp only [Act.put, List.setIfInBounds_toArray, List.set_cons_succ, List.set_cons_zero]))
      | fail)
    go_wp2_with (first
      | ((with_reducible refine bdt 27 [] ?_ ?_ zz.cells.toArray ?_ ?_); rfl; rfl; exact BZ.out)
      | ((with_reducible refine stc (.tmp 2) (.tmp 22) ?_ ?_ w.heap.size 0 zz ?_ ?_ T1.out ZZ1.out ?_); rfl; rfl; rfl; rfl; rw [HW9.out])
      | fail)
    exact bodyPost_ret (res_cfi rfl _ _ w.heap.size 0 zz _ rfl rfl N9.out) rfl ⟨⟨cfV zz, by rw [← HDZ.out]; rfl, by rw [← HDZ.out, ← HZZ.out]; exact CmdRes.zero _⟩, B9.out⟩
  clear v7 v73
  obtain ⟨p7, hp7⟩ : ∃ q : Nat, 7 + m = q := ⟨_, rfl⟩
  obtain ⟨p39, hp39⟩ : ∃ q : Nat, 39 + m = q := ⟨_, rfl⟩
  obtain ⟨p71, hp71⟩ : ∃ q : Nat, 71 + m = q := ⟨_, rfl⟩
  obtain ⟨p73, hp73⟩ : ∃ q : Nat, 73 + m = q := ⟨_, rfl⟩
  have v7 : IntKind.i64.wrap (7 + (m : Int)) = (p7 : Int) := by rw [IntWalk.i64_in _ (by omega)]; omega
  have v39 : IntKind.i64.wrap (39 + (m : Int)) = (p39 : Int) := by rw [IntWalk.i64_in _ (by omega)]; omega
  have v73 : IntKind.i64.wrap ((p7 : Int) + 66) = (p73 : Int) := by rw [IntWalk.i64_in _ (by omega)]; omega
  have d73 : decide ((n : Int) < (p73 : Int)) = false := by simp; omega
  have v71 : IntKind.i64.wrap (71 + (m : Int)) = (p71 : Int) := by rw [IntWalk.i64_in _ (by omega)]; omega
  have v73b : IntKind.i64.wrap (73 + (m : Int)) = (p73 : Int) := by rw [IntWalk.i64_in _ (by omega)]; omega
  have i1 : (0 : Int) ≤ (p71 : Int) := Int.natCast_nonneg _
  have i2 : (p71 : Int) ≤ (p73 : Int) := by omega
  have i3 : (p73 : Int) ≤ (c : Int) := by omega
  have i4 : c ≠ p71 := by omega
  obtain ⟨sz, hsz⟩ : ∃ q : Nat, num (sub l p71 2) = q := ⟨_, rfl⟩
  have hsz2 : sz < 65536 := by
    have := num_lt (sub l p71 2)
    rw [sub_len (by omega)] at this
    omega
  have CN : Hid (∀ W, Below w.heap.size w W → Calls Try.prog 32 #[.slice (some ⟨b, o + p71, none⟩) (p73 - p71) (c - p71)] W fun e w' => e = .returned (.int .u64 (sz : Nat)) ∧ W = w') := Lib.hid fun W hW => by
    have h2 : p73 - p71 = 2 := by omega
    have := number_any (sl_mid (HSB.out W hW) (a := p71) (k := 2) (by omega))
    rw [hsz, w64_small sz (by omega)] at this
    rwa [h2]
  have vsz : IntKind.i64.wrap (sz : Int) = (sz : Int) := IntWalk.i64_in _ (by omega)
  by_cases hlz : n < 73 + m + sz
  · have dlz : decide ((n : Int) - 73 - (m : Int) < (sz : Int)) = true := by simp; omega
    have HDZ : Hid ((zCv, (7 : Int)) = D) := Lib.hid (by rw [← HDD.out, dec_short l (.inr ⟨nb, h6, .inr (by rw [hm, hp71, hsz]; omega)⟩)])
    go_enter Try.func15, Try.ntmps15
    go_upto_region 1 with (first
      | ((with_reducible refine alt 27 ?_ ?_ zz.cells ZO.out ?_); rfl; rfl; rw [HW1.out]; (try simp only [Act.put, List.setIfInBounds_toArray, List.set_cons_succ, List.set_cons_zero]))
      | fail)
    go_wp2_with (first
      | ((with_reducible refine bdt 27 [] ?_ ?_ zz.cells.toArray ?_ ?_); rfl; rfl; exact BZ.out)
      | ((with_reducible refine stc (.tmp 2) (.tmp 42) ?_ ?_ w.heap.size 0 zz ?_ ?_ T1.out ZZ1.out ?_); rfl; rfl; rfl; rfl; rw [HW9.out])
      | (go_at_call 32; refine (CN.out _ B1.out).mono ?_; rintro e _ ⟨rfl, rfl⟩)
      | fail)
    exact bodyPost_ret (res_cfi rfl _ _ w.heap.size 0 zz _ rfl rfl N9.out) rfl ⟨⟨cfV zz, by rw [← HDZ.out]; rfl, by rw [← HDZ.out, ← HZZ.out]; exact CmdRes.zero _⟩, B9.out⟩
  have dlz : decide ((n : Int) - 73 - (m : Int) < (sz : Int)) = false := by simp; omega
  obtain ⟨q, hq⟩ : ∃ q : Nat, num (sub l 2 4) = q := ⟨_, rfl⟩
  have hq4 : q < 4294967296 := by
    have := num_lt (sub l 2 4)
    rw [sub_len (by omega)] at this
    omega
  obtain ⟨br, hbr⟩ : ∃ s : List UInt8, sub l 7 m = s := ⟨_, rfl⟩
  have HB7 : Hid (∀ W, SlB W w.heap.size (some ⟨b, o, none⟩) n c l → SlB W w.heap.size (some ⟨b, o + 7, none⟩) (p7 - 7) (c - 7) br) := Lib.hid fun W hW => by
    have := sl_mid hW (a := 7) (k := m) (by omega)
    rw [hbr] at this
    rwa [show p7 - 7 = m by omega]
  obtain ⟨bs, hbs⟩ : ∃ s : ByteArray, (⟨br.toArray⟩ : ByteArray) = s := ⟨_, rfl⟩
  obtain ⟨io, hio⟩ : ∃ i : Idv, (⟨sub l (7 + m) 32, sub_len (by omega)⟩ : Idv) = i := ⟨_, rfl⟩
  obtain ⟨iw, hiw⟩ : ∃ i : Idv, (⟨sub l (39 + m) 32, sub_len (by omega)⟩ : Idv) = i := ⟨_, rfl⟩
  obtain ⟨dt, hdt⟩ : ∃ d : List UInt8, sub l p73 sz = d := ⟨_, rfl⟩
  have dtl : dt.length = sz := by rw [← hdt]; exact sub_len (by omega)
  obtain ⟨xv, hxv⟩ : ∃ x : Cv, (⟨(k0.toNat : Int), (k1.toNat : Int), q, bs, io, iw, dt⟩ : Cv) = x := ⟨_, rfl⟩
  have HD : Hid (D = if 73 + m + sz < n then (zCv, 210) else if okC xv then (xv, 0) else (zCv, 210)) := Lib.hid (by
    have p := par_long h0 h1 h6 hm (by rw [hp71]; exact hsz) (show 73 + m + sz ≤ l.length by omega)
    rw [hq, hbr, hbs, hio, hiw, hp73, hdt, hxv] at p
    rw [← HDD.out]
    unfold decW
    rw [p, if_neg (by simp)]
    dsimp only
    rw [List.length_drop, hln]
    by_cases hh : 73 + m + sz < n
    · rw [if_pos (by omega), if_pos hh]
    · rw [if_neg (by omega), if_neg hh])
  have HIO : Hid (∀ (k : Nat) (hk : k < 32), l[7 + m + k]? = some (io.b[k]'(by rw [io.h]; exact hk))) := Lib.hid fun k hk => by
    subst hio
    exact sub_get l (7 + m) 32 k (by rw [sub_len (by omega)]; exact hk)
  have HIW : Hid (∀ (k : Nat) (hk : k < 32), l[39 + m + k]? = some (iw.b[k]'(by rw [iw.h]; exact hk))) := Lib.hid fun k hk => by
    subst hiw
    exact sub_get l (39 + m) 32 k (by rw [sub_len (by omega)]; exact hk)
  have CN4 : Hid (∀ W, SlB W w.heap.size (some ⟨b, o, none⟩) n c l → Calls Try.prog 32 #[.slice (some ⟨b, o + 2, none⟩) 4 (c - 2)] W fun e w' => e = .returned (.int .u64 (q : Nat)) ∧ W = w') := Lib.hid fun W hW => by
    have := number_any (sl_mid hW (a := 2) (k := 4) (by omega))
    rwa [hq, w64_small q (by omega)] at this
  obtain ⟨k0n, hk0⟩ : ∃ q, k0.toNat = q := ⟨_, rfl⟩
  obtain ⟨k1n, hk1⟩ : ∃ q, k1.toNat = q := ⟨_, rfl⟩
  have k0l : k0n < 256 := by rw [← hk0]; exact k0.toNat_lt
  have k1l : k1n < 256 := by rw [← hk1]; exact k1.toNat_lt
  have HX0 : Hid (∀ W, SlB W w.heap.size (some ⟨b, o, none⟩) n c l → W.cell? ⟨b, o, none⟩ = some (.int .u8 (k0n : Int)) ∧ W.cell? ⟨b, o + 1, none⟩ = some (.int .u8 (k1n : Int))) := Lib.hid fun W hW => by
    obtain ⟨b', o', e, _, hc⟩ := hW.pos (by omega)
    injection e with e
    injection e with e1 e2 e3
    subst e1 e2
    obtain ⟨g0, rfl⟩ := List.getElem?_eq_some_iff.1 h0
    obtain ⟨g1, rfl⟩ := List.getElem?_eq_some_iff.1 h1
    rw [← hk0, ← hk1]
    exact ⟨hc 0 g0, hc 1 g1⟩
  rw [hk0, hk1] at hxv
  have v0 : IntKind.i64.wrap (k0n : Int) = (k0n : Int) := IntWalk.i64_in _ (by omega)
  have v1 : IntKind.i64.wrap (k1n : Int) = (k1n : Int) := IntWalk.i64_in _ (by omega)
  have vq : IntKind.u32.wrap (q : Int) = (q : Int) := by rw [IntKind.wrap_u32]; omega
  have HBS := Lib.hid hbs
  obtain ⟨c4, hc4⟩ : ∃ c : Cf, (⟨(k0n : Int), (k1n : Int), q, bs, Idv.zero, Idv.zero, .slice none 0 0⟩ : Cf) = c := ⟨_, rfl⟩
  have B4 : Hid (Try.prog.built 27 [(0, .int .i64 (k0n : Int)), (1, .int .i64 (k1n : Int)), (2, .int .u32 (q : Int)), (3, .string bs)] = some c4.cells.toArray) := Lib.hid (by rw [← hc4]; exact cf4_is _ _ _ _)
  have c4d : Hid (c4.dv.oneCell' = true) := Lib.hid (by rw [← hc4]; rfl)
  have HC4 := Lib.hid hc4
  have HXV := Lib.hid hxv
  have HDT := Lib.hid hdt
  clear hq hbr hbs hio hiw hdt hxv hc4 h0 h1 hk0 hk1 hsz
  go_enter Try.func15, Try.ntmps15
  go_upto_region 1 with (first
    | ((with_reducible refine alt 27 ?_ ?_ zz.cells ZO.out ?_); rfl; rfl; rw [HW1.out]; (try simp only [Act.put, List.setIfInBounds_toArray, List.set_cons_succ, List.set_cons_zero]))
    | fail)
  go_upto_region 7 with (first
    | (go_at_call 32; refine (CN.out _ B1.out).mono ?_; rintro e _ ⟨rfl, rfl⟩)
    | fail)
  clear HW1 x6
  have D1 : Hid (Below w.heap.size w w1 ∧ Lies w1 w.heap.size 69 zCf.cells) := Lib.hid ⟨B1.out, by rw [HZZ.out]; exact Y1.out⟩
  have S0 : Hid (SlB w1.drew w.heap.size (some ⟨b, o, none⟩) n c l) := Lib.hid ((HSB.out w1 B1.out).drew)
  obtain ⟨wD, hwD⟩ : ∃ v, w1.drew = v := ⟨_, rfl⟩
  have SD : Hid (SlB wD w.heap.size (some ⟨b, o, none⟩) n c l) := Lib.hid (by rw [← hwD]; exact S0.out)
  have DD : Hid (Below w.heap.size w wD ∧ Lies wD w.heap.size 69 zCf.cells) := Lib.hid (by
    have hb : Below w1.heap.size w1 wD := by rw [← hwD]; exact (Below.refl _ _).drew
    exact ⟨D1.out.1.trans (hb.mono D1.out.1.size), D1.out.2.below hb D1.out.2.lt⟩)
  have HWD := Lib.hid hwD
  clear hwD D1
  have n0 : 0 < n := by omega
  have n1 : 1 < n := by omega
  have n1' : (1 : Int) < (n : Int) := by omega
  have n2 : (6 : Int) ≤ (c : Int) := by omega
  have n3 : c ≠ 2 := by omega
  have n4 : c ≠ 7 := by omega
  have n5 : (p7 : Int) ≤ (c : Int) := by omega
  have n6 : (7 : Int) ≤ (p7 : Int) := by omega
  have n7 : (0 : Int) ≤ (p7 : Int) := by omega
  go_cut [6] (fun t wx => ∃ B, t = .pointer (some ⟨B, 0, none⟩) ∧ Hid (Df w B c4 wx))
  case first =>
    refine wp_region_noPanic ?_
    refine wp_region_held_drew (S := (fun w' => SlB w' w.heap.size (some ⟨b, o, none⟩) n c l)) (by kernel_rfl) S0.out (fun _ => ?_)
    rw [HWD.out]
    refine wpAnyH_take (i := 0) rfl (by kernel_rfl) (by kernel_rfl) (by kernel_rfl) (fun _ _ _ h => h) (.inl ⟨rfl, fun w' hw' => (by clear hw'; go_simp; (try rfl))⟩) SD.out ?_
    simp only [List.getElem_toArray, List.getElem_cons_zero, List.getElem_cons_succ, Act.put, List.setIfInBounds_toArray, List.set_cons_succ, List.set_cons_zero]
    refine wpAnyH_take (i := 1) rfl (by kernel_rfl) (by kernel_rfl) (by kernel_rfl) (fun _ _ _ h => h) (.inl ⟨rfl, fun w' hw' => (by clear hw'; go_simp; (try rfl))⟩) SD.out ?_
    simp only [List.getElem_toArray, List.getElem_cons_zero, List.getElem_cons_succ, Act.put, List.setIfInBounds_toArray, List.set_cons_succ, List.set_cons_zero]
    refine wpAnyH_take (i := 2) rfl (by kernel_rfl) (by kernel_rfl) (by kernel_rfl) (fun _ _ _ h => h) (.inl ⟨rfl, fun w' hw' => (by obtain ⟨z0, z1⟩ := HX0.out w' hw'; clear hw'; go_simp; (try rfl))⟩) SD.out ?_
    simp only [List.getElem_toArray, List.getElem_cons_zero, List.getElem_cons_succ, Act.put, List.setIfInBounds_toArray, List.set_cons_succ, List.set_cons_zero]
    refine wpAnyH_take (i := 3) rfl (by kernel_rfl) (by kernel_rfl) (by kernel_rfl) (fun _ _ _ h => h) (.inl ⟨rfl, fun w' hw' => (by clear hw'; go_simp; (try rfl))⟩) SD.out ?_
    simp only [List.getElem_toArray, List.getElem_cons_zero, List.getElem_cons_succ, Act.put, List.setIfInBounds_toArray, List.set_cons_succ, List.set_cons_zero]
    refine wpAnyH_take (i := 4) rfl (by kernel_rfl) (by kernel_rfl) (by kernel_rfl) (fun _ _ _ h => h) (.inl ⟨rfl, fun w' hw' => (by clear hw'; go_simp; (try rfl))⟩) SD.out ?_
    simp only [List.getElem_toArray, List.getElem_cons_zero, List.getElem_cons_succ, Act.put, List.setIfInBounds_toArray, List.set_cons_succ, List.set_cons_zero]
    refine wpAnyH_take (i := 5) rfl (by kernel_rfl) (by kernel_rfl) (by kernel_rfl) (fun _ _ _ h => h) (.inl ⟨rfl, fun w' hw' => (by clear hw'; go_simp; (try rfl))⟩) SD.out ?_
    simp only [List.getElem_toArray, List.getElem_cons_zero, List.getElem_cons_succ, Act.put, List.setIfInBounds_toArray, List.set_cons_succ, List.set_cons_zero]
    refine wpAnyH_take (i := 6) rfl (by kernel_rfl) (by kernel_rfl) (by kernel_rfl) (fun _ _ _ h => h) (.inl ⟨rfl, fun w' hw' => (by obtain ⟨z0, z1⟩ := HX0.out w' hw'; clear hw'; go_simp; (try rfl))⟩) SD.out ?_
    simp only [List.getElem_toArray, List.getElem_cons_zero, List.getElem_cons_succ, Act.put, List.setIfInBounds_toArray, List.set_cons_succ, List.set_cons_zero]
    refine wpAnyH_take (i := 7) rfl (by kernel_rfl) (by kernel_rfl) (by kernel_rfl) (fun _ _ _ h => h) (.inl ⟨rfl, fun w' hw' => (by clear hw'; go_simp; (try rfl))⟩) SD.out ?_
    simp only [List.getElem_toArray, List.getElem_cons_zero, List.getElem_cons_succ, Act.put, List.setIfInBounds_toArray, List.set_cons_succ, List.set_cons_zero]
    refine wpAnyH_take (i := 8) rfl (by kernel_rfl) (by kernel_rfl) (by kernel_rfl) (fun _ _ _ h => h) (.inl ⟨rfl, fun w' hw' => (by clear hw'; go_simp; (try rfl))⟩) SD.out ?_
    simp only [List.getElem_toArray, List.getElem_cons_zero, List.getElem_cons_succ, Act.put, List.setIfInBounds_toArray, List.set_cons_succ, List.set_cons_zero]
    refine wpAnyH_take (i := 9) rfl (by kernel_rfl) (by kernel_rfl) (by kernel_rfl) (fun _ _ _ h => h) (.inl ⟨rfl, fun w' hw' => (by clear hw'; go_simp; (try rfl))⟩) SD.out ?_
    simp only [List.getElem_toArray, List.getElem_cons_zero, List.getElem_cons_succ, Act.put, List.setIfInBounds_toArray, List.set_cons_succ, List.set_cons_zero]
    refine wpAnyH_take (i := 12) rfl (by kernel_rfl) (by kernel_rfl) (by kernel_rfl) (fun _ _ _ h => h) (.inl ⟨rfl, fun w' hw' => (by clear hw'; go_simp; (try rfl))⟩) SD.out ?_
    simp only [List.getElem_toArray, List.getElem_cons_zero, List.getElem_cons_succ, Act.put, List.setIfInBounds_toArray, List.set_cons_succ, List.set_cons_zero]
    refine wpAnyH_take (i := 13) rfl (by kernel_rfl) (by kernel_rfl) (by kernel_rfl) (fun _ _ _ h => h) (.inl ⟨rfl, fun w' hw' => (by clear hw'; go_simp; (try rfl))⟩) SD.out ?_
    simp only [List.getElem_toArray, List.getElem_cons_zero, List.getElem_cons_succ, Act.put, List.setIfInBounds_toArray, List.set_cons_succ, List.set_cons_zero]
    refine wpAnyH_take (i := 14) rfl (by kernel_rfl) (by kernel_rfl) (by kernel_rfl) (fun _ _ _ h => h) (.inl ⟨rfl, fun w' hw' => (by clear hw'; go_simp; (try rfl))⟩) SD.out ?_
    simp only [List.getElem_toArray, List.getElem_cons_zero, List.getElem_cons_succ, Act.put, List.setIfInBounds_toArray, List.set_cons_succ, List.set_cons_zero]
    refine wpAnyH_take (i := 15) rfl (by kernel_rfl) (by kernel_rfl) (by kernel_rfl) (fun _ _ _ h => h) (.inl ⟨rfl, fun w' hw' => (by clear hw'; go_simp; (try rfl))⟩) SD.out ?_
    simp only [List.getElem_toArray, List.getElem_cons_zero, List.getElem_cons_succ, Act.put, List.setIfInBounds_toArray, List.set_cons_succ, List.set_cons_zero]
    refine wpAnyH_take (i := 16) rfl (by kernel_rfl) (by kernel_rfl) (by kernel_rfl) (fun _ _ _ h => h) (.inl ⟨rfl, fun w' hw' => run_str (.tmp 58) rfl rfl (HB7.out w' hw')⟩) SD.out ?_
    simp only [List.getElem_toArray, List.getElem_cons_zero, List.getElem_cons_succ, Act.put, List.setIfInBounds_toArray, List.set_cons_succ, List.set_cons_zero]
    rw [HBS.out]
    refine wpAnyH_ready (rs := [10, 18]) (by kernel_rfl) (by simp) (AllReadyH.cons rfl (fun K hK => ?_) (AllReadyH.cons rfl (fun K hK => ?_) AllReadyH.nil))
    · rw [if_pos (by rfl)]
      refine wp_fn (f := 32) (xs := #[.slice (some ⟨b, o + 2, none⟩) 4 (c - 2)]) (by first | (go_simp; done) | (go_simp; rfl)) ((CN4.out _ SD.out).mono ?_)
      rintro e _ ⟨rfl, rfl⟩
      refine ⟨_, rfl, hK.out _ _ SD.out (fun _ => ?_)⟩
      simp only [List.getElem_toArray, List.getElem_cons_zero, List.getElem_cons_succ, Act.put, List.setIfInBounds_toArray, List.set_cons_succ, List.set_cons_zero]
      refine wpAnyH_take (i := 11) rfl (by kernel_rfl) (by kernel_rfl) (by kernel_rfl) (fun _ _ _ h => h) (.inl ⟨rfl, fun w' hw' => (by clear hw'; go_simp; (try rfl))⟩) SD.out ?_
      simp only [List.getElem_toArray, List.getElem_cons_zero, List.getElem_cons_succ, Act.put, List.setIfInBounds_toArray, List.set_cons_succ, List.set_cons_zero]
      refine wpAnyH_take (i := 17) rfl (by kernel_rfl) (by kernel_rfl) (by kernel_rfl) (fun _ _ _ h => h) (.inl ⟨rfl, fun w' hw' => run_bd4 (.tmp 46) (.tmp 50) (.tmp 54) (.tmp 59) rfl rfl rfl rfl rfl B4.out⟩) SD.out ?_
      simp only [List.getElem_toArray, List.getElem_cons_zero, List.getElem_cons_succ, Act.put, List.setIfInBounds_toArray, List.set_cons_succ, List.set_cons_zero]
      refine wpAnyH_ready (rs := [18]) (by kernel_rfl) (by simp) (AllReadyH.cons rfl (fun K hK => ?_) AllReadyH.nil)
      rw [if_pos (by rfl)]
      refine wp_alloc_as _ rfl zz.cells.toArray ZO.out ?_
      obtain ⟨u1, hu1⟩ : ∃ v, wD.alloc (.cells zz.cells.toArray 27) = v := ⟨_, rfl⟩
      have bu : Below wD.heap.size wD u1 := by rw [← hu1]; exact (Below.refl _ _).alloc (Nat.le_refl _) _
      have SU : Hid (SlB u1 w.heap.size (some ⟨b, o, none⟩) n c l) := Lib.hid (SD.out.below (bu.mono DD.out.1.size))
      have EU : Hid (Df w wD.heap.size zz u1) := Lib.hid ⟨DD.out.1.trans (bu.mono DD.out.1.size), DD.out.2.below bu DD.out.2.lt, by rw [← hu1]; have := Lies.new wD zz.cells 27; rwa [cf_sz] at this, DD.out.2.lt⟩
      rw [hu1]
      refine hK.out _ _ SU.out (fun _ => ?_)
      simp only [List.getElem_toArray, List.getElem_cons_zero, List.getElem_cons_succ, Act.put, List.setIfInBounds_toArray, List.set_cons_succ, List.set_cons_zero]
      clear hu1 bu
      refine wpAnyH_ready (rs := [19]) (by kernel_rfl) (by simp) (AllReadyH.cons rfl (fun K hK => ?_) AllReadyH.nil)
      rw [if_pos (by rfl)]
      have TD := Lib.hid EU.out.x.th
      refine wp_store_mid _ (.tmp 6) (.tmp 60) rfl wD.heap.size 0 c4.cells.toArray rfl rfl (by simpa [cf_sz] using TD.out) (by simpa [cf_sz] using size_cf) (cf_one c4d.out) ?_
      have EZ : Hid (Df w wD.heap.size c4 (u1.setCells wD.heap.size 0 c4.cells)) := Lib.hid (EU.out.put (below_setCells (Below.refl _ _) (Nat.le_refl _) _ _) (EU.out.x.set_ (cf_sz _)))
      have SZ : Hid (SlB (u1.setCells wD.heap.size 0 c4.cells) w.heap.size (some ⟨b, o, none⟩) n c l) := Lib.hid (HSB.out _ EZ.out.b)
      refine hK.out _ _ SZ.out (fun _ => ?_)
      simp only [List.getElem_toArray, List.getElem_cons_zero, List.getElem_cons_succ, Act.put, List.setIfInBounds_toArray, List.set_cons_succ, List.set_cons_zero]
      refine wpAnyH_done (by kernel_rfl) ?_ _
      refine NoPanic.normal ?_
      go_wp2_with fail
      go_meet
      exact ⟨_, rfl, EZ⟩
    · rw [if_pos (by rfl)]
      refine wp_alloc_as _ rfl zz.cells.toArray ZO.out ?_
      obtain ⟨u1, hu1⟩ : ∃ v, wD.alloc (.cells zz.cells.toArray 27) = v := ⟨_, rfl⟩
      have bu : Below wD.heap.size wD u1 := by rw [← hu1]; exact (Below.refl _ _).alloc (Nat.le_refl _) _
      have SU : Hid (SlB u1 w.heap.size (some ⟨b, o, none⟩) n c l) := Lib.hid (SD.out.below (bu.mono DD.out.1.size))
      have EU : Hid (Df w wD.heap.size zz u1) := Lib.hid ⟨DD.out.1.trans (bu.mono DD.out.1.size), DD.out.2.below bu DD.out.2.lt, by rw [← hu1]; have := Lies.new wD zz.cells 27; rwa [cf_sz] at this, DD.out.2.lt⟩
      rw [hu1]
      refine hK.out _ _ SU.out (fun _ => ?_)
      simp only [List.getElem_toArray, List.getElem_cons_zero, List.getElem_cons_succ, Act.put, List.setIfInBounds_toArray, List.set_cons_succ, List.set_cons_zero]
      clear hu1 bu
      refine wpAnyH_ready (rs := [10]) (by kernel_rfl) (by simp) (AllReadyH.cons rfl (fun K hK => ?_) AllReadyH.nil)
      rw [if_pos (by rfl)]
      refine wp_fn (f := 32) (xs := #[.slice (some ⟨b, o + 2, none⟩) 4 (c - 2)]) (by first | (go_simp; done) | (go_simp; rfl)) ((CN4.out _ SU.out).mono ?_)
      rintro e _ ⟨rfl, rfl⟩
      refine ⟨_, rfl, hK.out _ _ SU.out (fun _ => ?_)⟩
      simp only [List.getElem_toArray, List.getElem_cons_zero, List.getElem_cons_succ, Act.put, List.setIfInBounds_toArray, List.set_cons_succ, List.set_cons_zero]
      refine wpAnyH_take (i := 11) rfl (by kernel_rfl) (by kernel_rfl) (by kernel_rfl) (fun _ _ _ h => h) (.inl ⟨rfl, fun w' hw' => (by clear hw'; go_simp; (try rfl))⟩) SU.out ?_
      simp only [List.getElem_toArray, List.getElem_cons_zero, List.getElem_cons_succ, Act.put, List.setIfInBounds_toArray, List.set_cons_succ, List.set_cons_zero]
      refine wpAnyH_take (i := 17) rfl (by kernel_rfl) (by kernel_rfl) (by kernel_rfl) (fun _ _ _ h => h) (.inl ⟨rfl, fun w' hw' => run_bd4 (.tmp 46) (.tmp 50) (.tmp 54) (.tmp 59) rfl rfl rfl rfl rfl B4.out⟩) SU.out ?_
      simp only [List.getElem_toArray, List.getElem_cons_zero, List.getElem_cons_succ, Act.put, List.setIfInBounds_toArray, List.set_cons_succ, List.set_cons_zero]
      refine wpAnyH_ready (rs := [19]) (by kernel_rfl) (by simp) (AllReadyH.cons rfl (fun K hK => ?_) AllReadyH.nil)
      rw [if_pos (by rfl)]
      have TD := Lib.hid EU.out.x.th
      refine wp_store_mid _ (.tmp 6) (.tmp 60) rfl wD.heap.size 0 c4.cells.toArray rfl rfl (by simpa [cf_sz] using TD.out) (by simpa [cf_sz] using size_cf) (cf_one c4d.out) ?_
      have EZ : Hid (Df w wD.heap.size c4 (u1.setCells wD.heap.size 0 c4.cells)) := Lib.hid (EU.out.put (below_setCells (Below.refl _ _) (Nat.le_refl _) _ _) (EU.out.x.set_ (cf_sz _)))
      have SZ : Hid (SlB (u1.setCells wD.heap.size 0 c4.cells) w.heap.size (some ⟨b, o, none⟩) n c l) := Lib.hid (HSB.out _ EZ.out.b)
      refine hK.out _ _ SZ.out (fun _ => ?_)
      simp only [List.getElem_toArray, List.getElem_cons_zero, List.getElem_cons_succ, Act.put, List.setIfInBounds_toArray, List.set_cons_succ, List.set_cons_zero]
      refine wpAnyH_done (by kernel_rfl) ?_ _
      refine NoPanic.normal ?_
      go_wp2_with fail
      go_meet
      exact ⟨_, rfl, EZ⟩
  case rest =>
    obtain ⟨B, rfl, E4⟩ := hcut
    obtain ⟨wF, hwF⟩ : ∃ v, wc = v := ⟨_, rfl⟩
    rw [hwF] at E4 ⊢
    have HN : Hid (l.length = n ∧ n ≤ c ∧ n ≤ 1000000 ∧ m < 256 ∧ 7 + m = p7 ∧ 39 + m = p39 ∧ 73 + m = p73 ∧ 73 + m + sz ≤ n ∧ dt.length = sz ∧ sz < 65536 ∧ k0n < 256 ∧ k1n < 256 ∧ q < 4294967296) := Lib.hid ⟨hln, hcap, hn, hm8, hp7, hp39, hp73, by omega, dtl, hsz2, k0l, k1l, hq4⟩
    clear hwF S0 SD DD HWD CN CN4 HX0 B4 HB7 HBS v0 v1 vq vsz
    clear n0 n1 n1' n2 n3 n4 n5 n6 n7 k0l k1l hq4 dtl dlz hlz hsz2 i1 i2 i3 i4 v71 v73b v73 d73 v7 v39 hp71 hp73 hp39 hp7 h73 vm hm8 hm h6 d7 h7 hcap hln hn s1
    go_wp2_with fail
    go_loopw [7] (fun i wr => ∃ k : Nat, k ≤ 32 ∧ i = .int .i64 (k : Int) ∧ Hid (Df w B ({ c4 with old := mixI io k, new := mixI iw k } : Cf) wr)) (fun i _ => 32 - (intOf i).toNat)
    case atStart => exact ⟨0, Nat.zero_le _, rfl, Lib.hid (by rw [mixI_zero, mixI_zero]; have := E4.out; rw [← HC4.out] at this ⊢; exact this)⟩
    case round =>
      obtain ⟨k, hk, rfl, hdf⟩ := hrel
      by_cases hlt : k < 32
      · have hd : decide ((k : Int) < 32) = true := by simp; omega
        have hk0 : (0 : Int) ≤ (k : Int) := Int.natCast_nonneg _
        have hk1 : (k : Int) < 32 := by omega
        obtain ⟨q7, hq7⟩ : ∃ q : Nat, p7 + k = q := ⟨_, rfl⟩
        obtain ⟨q39, hq39⟩ : ∃ q : Nat, p39 + k = q := ⟨_, rfl⟩
        have v7 : IntKind.i64.wrap (7 + (m : Int)) = (p7 : Int) := by obtain ⟨N1, N2, N3, N4, N5, N6, N7, N8, NA, NB, NC, ND, NE⟩ := HN.out; rw [IntWalk.i64_in _ (by omega)]; omega
        have v39 : IntKind.i64.wrap (39 + (m : Int)) = (p39 : Int) := by obtain ⟨N1, N2, N3, N4, N5, N6, N7, N8, NA, NB, NC, ND, NE⟩ := HN.out; rw [IntWalk.i64_in _ (by omega)]; omega
        have w7 : IntKind.i64.wrap ((p7 : Int) + (k : Int)) = (q7 : Int) := by obtain ⟨N1, N2, N3, N4, N5, N6, N7, N8, NA, NB, NC, ND, NE⟩ := HN.out; rw [IntWalk.i64_in _ (by omega)]; omega
        have w39 : IntKind.i64.wrap ((p39 : Int) + (k : Int)) = (q39 : Int) := by obtain ⟨N1, N2, N3, N4, N5, N6, N7, N8, NA, NB, NC, ND, NE⟩ := HN.out; rw [IntWalk.i64_in _ (by omega)]; omega
        have g1 : (0 : Int) ≤ (q7 : Int) := Int.natCast_nonneg _
        have g2 : (q7 : Int) < (n : Int) := by obtain ⟨N1, N2, N3, N4, N5, N6, N7, N8, NA, NB, NC, ND, NE⟩ := HN.out; omega
        have g3 : (0 : Int) ≤ (q39 : Int) := Int.natCast_nonneg _
        have g4 : (q39 : Int) < (n : Int) := by obtain ⟨N1, N2, N3, N4, N5, N6, N7, N8, NA, NB, NC, ND, NE⟩ := HN.out; omega
        have a1 := HIO.out k hlt
        have a2 := HIW.out k hlt
        rw [HN.out.2.2.2.2.1, hq7] at a1
        rw [HN.out.2.2.2.2.2.1, hq39] at a2
        have OS := Lib.hid (old_step ({ c4 with new := mixI iw k } : Cf) io k hlt)
        have NS := Lib.hid (new_step ({ c4 with old := mixI io (k + 1) } : Cf) iw k hlt)
        obtain ⟨u1, hu1⟩ : ∃ u, io.b[k]'(by rw [io.h]; exact hlt) = u := ⟨_, rfl⟩
        obtain ⟨u2, hu2⟩ : ∃ u, iw.b[k]'(by rw [iw.h]; exact hlt) = u := ⟨_, rfl⟩
        rw [hu1] at a1 OS
        rw [hu2] at a2 NS
        have x1 := HCL.out wr hdf.out.b q7 u1 a1
        obtain ⟨v1, hv1⟩ : ∃ v, ({ c4 with old := mixI io k, new := mixI iw k } : Cf).cells[4 + k]? = some v := ⟨_, List.getElem?_eq_getElem (by rw [cf_sz]; omega)⟩
        have y1 := hdf.out.x.cell hv1
        have f1 := hdf.out.x.frozen (j := 4 + k) (by omega)
        clear hu1 hu2 a1 hv1 hq7 hq39
        go_upto_region 12 with fail
        obtain ⟨W2, hW2⟩ : ∃ v, wr.setCell ⟨B, 4 + k, none⟩ (.int .u8 (u1.toNat : Int)) = v := ⟨_, rfl⟩
        have E5 : Hid (Df w B ({ c4 with old := mixI io (k + 1), new := mixI iw k } : Cf) W2) := Lib.hid (by
          rw [← hW2]
          refine hdf.out.put (below_setCells (Below.refl B wr) (Nat.le_refl _) (4 + k) [.int .u8 (u1.toNat : Int)]) ?_
          have h1 := hdf.out.x.set1 (4 + k) (.int .u8 (u1.toNat : Int))
          have h2 : (({ c4 with old := mixI io k, new := mixI iw k } : Cf).cells.set (4 + k) (.int .u8 (u1.toNat : Int))) = ({ c4 with old := mixI io (k + 1), new := mixI iw k } : Cf).cells := OS.out
          rw [h2] at h1
          exact h1)
        rw [hW2]
        have x2 := HCL.out W2 E5.out.b q39 u2 a2
        obtain ⟨v2, hv2⟩ : ∃ v, ({ c4 with old := mixI io (k + 1), new := mixI iw k } : Cf).cells[36 + k]? = some v := ⟨_, List.getElem?_eq_getElem (by rw [cf_sz]; omega)⟩
        have y2 := E5.out.x.cell hv2
        have f2 := E5.out.x.frozen (j := 36 + k) (by omega)
        clear hW2 x1 y1 f1 OS hdf a2 hv2
        go_upto_region 10 with fail
        obtain ⟨W3, hW3⟩ : ∃ v, W2.setCell ⟨B, 36 + k, none⟩ (.int .u8 (u2.toNat : Int)) = v := ⟨_, rfl⟩
        have E6 : Hid (Df w B ({ c4 with old := mixI io (k + 1), new := mixI iw (k + 1) } : Cf) W3) := Lib.hid (by
          rw [← hW3]
          refine E5.out.put (below_setCells (Below.refl B W2) (Nat.le_refl _) (36 + k) [.int .u8 (u2.toNat : Int)]) ?_
          have h1 := E5.out.x.set1 (36 + k) (.int .u8 (u2.toNat : Int))
          have h2 : (({ c4 with old := mixI io (k + 1), new := mixI iw k } : Cf).cells.set (36 + k) (.int .u8 (u2.toNat : Int))) = ({ c4 with old := mixI io (k + 1), new := mixI iw (k + 1) } : Cf).cells := NS.out
          rw [h2] at h1
          exact h1)
        rw [hW3]
        clear hW3 x2 y2 f2 NS E5
        go_wp2_with fail
        go_roundw
        case rel => exact ⟨k + 1, by omega, by go_num, E6⟩
        case measure => simp [intOf]; omega
      · have hd : decide ((k : Int) < 32) = false := by simp; omega
        obtain rfl : k = 32 := by omega
        rw [mixI_all, mixI_all] at hdf
        obtain ⟨c5, hc5⟩ : ∃ c : Cf, ({ c4 with old := io, new := iw } : Cf) = c := ⟨_, rfl⟩
        rw [hc5] at hdf
        clear HIO HIW HCL
        obtain ⟨pe, hpe⟩ : ∃ q : Nat, p73 + sz = q := ⟨_, rfl⟩
        have v73b : IntKind.i64.wrap (73 + (m : Int)) = (p73 : Int) := by obtain ⟨N1, N2, N3, N4, N5, N6, N7, N8, NA, NB, NC, ND, NE⟩ := HN.out; rw [IntWalk.i64_in _ (by omega)]; omega
        have w73 : IntKind.i64.wrap ((p73 : Int) + (sz : Int)) = (pe : Int) := by obtain ⟨N1, N2, N3, N4, N5, N6, N7, N8, NA, NB, NC, ND, NE⟩ := HN.out; rw [IntWalk.i64_in _ (by omega)]; omega
        have j1 : (0 : Int) ≤ (p73 : Int) := Int.natCast_nonneg _
        have j2 : (p73 : Int) ≤ (pe : Int) := by omega
        have j3 : (pe : Int) ≤ (c : Int) := by obtain ⟨N1, N2, N3, N4, N5, N6, N7, N8, NA, NB, NC, ND, NE⟩ := HN.out; omega
        have hle : pe ≤ n := by obtain ⟨N1, N2, N3, N4, N5, N6, N7, N8, NA, NB, NC, ND, NE⟩ := HN.out; omega
        have HDT2 : Hid (∀ W, Below w.heap.size w W → SlB W w.heap.size (some ⟨b, o + p73, none⟩) (pe - p73) (c - p73) dt) := Lib.hid fun W hW => by
          have := sl_mid (HSB.out W hW) (a := p73) (k := sz) (by obtain ⟨N1, N2, N3, N4, N5, N6, N7, N8, NA, NB, NC, ND, NE⟩ := HN.out; omega)
          rw [HDT.out] at this
          rw [show pe - p73 = sz by omega]
          exact this
        have y3 : wr.cell? ⟨B, 68, none⟩ = some c5.dv := (cf_lies hdf.out.x).2.2.2.2.2.2
        have f3 := hdf.out.x.frozen (j := 68) (by omega)
        go_upto_region 13 with fail
        go_cut [] (fun wx => ∃ D5 : Sl, Hid (Df w B ({ c5 with dv := .slice D5.a D5.n D5.c } : Cf) wx) ∧ Hid (SlB wx w.heap.size D5.a D5.n D5.c dt))
        case first =>
          by_cases hcp : c = p73
          · have hpp : pe = p73 := by obtain ⟨N1, N2, N3, N4, N5, N6, N7, N8, NA, NB, NC, ND, NE⟩ := HN.out; omega
            go_wp2_with fail
            go_meet
            have E7 : Df w B ({ c5 with dv := .slice (some ⟨b, o, none⟩) (pe - p73) (c - p73) } : Cf) (wr.setCell ⟨B, 68, none⟩ (.slice (some ⟨b, o, none⟩) (pe - p73) (c - p73))) := hdf.out.put (below_setCells (Below.refl B wr) (Nat.le_refl _) 68 [.slice (some ⟨b, o, none⟩) (pe - p73) (c - p73)]) (by rw [cf_dv]; exact hdf.out.x.set1 68 _)
            have hdn : dt = [] := List.eq_nil_of_length_eq_zero (by obtain ⟨N1, N2, N3, N4, N5, N6, N7, N8, NA, NB, NC, ND, NE⟩ := HN.out; omega)
            refine ⟨⟨some ⟨b, o, none⟩, pe - p73, c - p73⟩, Lib.hid ?_, Lib.hid ?_⟩
            · first | exact E7 | simpa [hcp, hpp] using E7
            · dsimp only
              rw [hdn, show pe - p73 = 0 by omega, show c - p73 = 0 by omega]
              exact SlB.zero_
          · go_wp2_with fail
            go_meet
            have E7 : Df w B ({ c5 with dv := .slice (some ⟨b, o + p73, none⟩) (pe - p73) (c - p73) } : Cf) (wr.setCell ⟨B, 68, none⟩ (.slice (some ⟨b, o + p73, none⟩) (pe - p73) (c - p73))) := hdf.out.put (below_setCells (Below.refl B wr) (Nat.le_refl _) 68 [.slice (some ⟨b, o + p73, none⟩) (pe - p73) (c - p73)]) (by rw [cf_dv]; exact hdf.out.x.set1 68 _)
            exact ⟨⟨some ⟨b, o + p73, none⟩, pe - p73, c - p73⟩, Lib.hid E7, Lib.hid (HDT2.out _ E7.b)⟩
        case rest =>
          obtain ⟨D5, E7, S7⟩ := hcut
          obtain ⟨wG, hwG⟩ : ∃ v, wc = v := ⟨_, rfl⟩
          rw [hwG] at E7 S7 ⊢
          clear hwG y3 f3 hdf HDT2
          obtain ⟨c6, hc6⟩ : ∃ c : Cf, ({ c5 with dv := .slice D5.a D5.n D5.c } : Cf) = c := ⟨_, rfl⟩
          have HX : Hid (c6 = xv.at_ D5 ∧ xv.data = dt) := Lib.hid (by
            rw [← hc6, ← hc5, ← HC4.out, ← HXV.out]
            exact ⟨rfl, rfl⟩)
          rw [hc6] at E7
          have xn : D5.n = sz := by rw [← S7.out.len]; exact HN.out.2.2.2.2.2.2.2.2.1
          have HXC : Hid (∀ W, SlB W W.heap.size D5.a D5.n D5.c dt → Cmd W W.heap.size xv D5) := Lib.hid fun W hW => ⟨by rw [HX.out.2]; exact hW, by rw [← HXV.out]; show -9223372036854775808 ≤ (k0n : Int) ∧ (k0n : Int) ≤ 9223372036854775807; obtain ⟨N1, N2, N3, N4, N5, N6, N7, N8, NA, NB, NC, ND, NE⟩ := HN.out; omega, by rw [← HXV.out]; show -9223372036854775808 ≤ (k1n : Int) ∧ (k1n : Int) ≤ 9223372036854775807; obtain ⟨N1, N2, N3, N4, N5, N6, N7, N8, NA, NB, NC, ND, NE⟩ := HN.out; omega, by rw [← HXV.out]; exact HN.out.2.2.2.2.2.2.2.2.2.2.2.2⟩
          have CR : Hid (Calls Try.prog 10 #[cfV c6] wG fun e w' => e = .returned (.bool (okC xv)) ∧ Below wG.heap.size wG w') := Lib.hid (by
            rw [HX.out.1]
            exact Rt2_any (HXC.out wG (S7.out.more E7.out.b.size)) (by obtain ⟨N1, N2, N3, N4, N5, N6, N7, N8, NA, NB, NC, ND, NE⟩ := HN.out; omega))
          have ONE : Hid (c6.dv.oneCell' = true) := Lib.hid (by rw [← hc6]; rfl)
          clear hc6 hc5 xn
          by_cases hmo : pe < n
          · have dmo : decide ((pe : Int) < (n : Int)) = true := by simp; omega
            have HDZ : Hid ((zCv, (210 : Int)) = D) := Lib.hid (by rw [HD.out, if_pos (by obtain ⟨N1, N2, N3, N4, N5, N6, N7, N8, NA, NB, NC, ND, NE⟩ := HN.out; omega)])
            go_upto_region 15 with fail
            have E10 := E7
            have T10 := Lib.hid E10.out.y.th
            obtain ⟨wH, hwH⟩ : ∃ v, wG = v := ⟨_, rfl⟩
            rw [hwH] at E10 T10 ⊢
            clear hwH
            obtain ⟨wy, hwy⟩ : ∃ v, wH.setCells w.heap.size 0 zz.cells = v := ⟨_, rfl⟩
            have Ny : Hid (wy.rangeAt w.heap.size 0 zz.cells) := Lib.hid (by rw [← hwy]; exact (E10.out.y.set_ (cf_sz _)).rg)
            have By : Hid (Below w.heap.size w wy) := Lib.hid (by rw [← hwy]; exact below_setCells E10.out.b (Nat.le_refl _) _ _)
            have HWY := Lib.hid hwy
            clear hwy
            go_wp2_with (first
              | ((with_reducible refine bdt 27 [] ?_ ?_ zz.cells.toArray ?_ ?_); rfl; rfl; exact BZ.out)
              | ((with_reducible refine stc (.tmp 2) (.tmp 106) ?_ ?_ w.heap.size 0 zz ?_ ?_ T10.out ZZ1.out ?_); rfl; rfl; rfl; rfl; rw [HWY.out])
              | fail)
            exact bodyPost_ret (res_cfi rfl _ _ w.heap.size 0 zz _ rfl rfl Ny.out) rfl ⟨⟨cfV zz, by rw [← HDZ.out]; rfl, by rw [← HDZ.out, ← HZZ.out]; exact CmdRes.zero _⟩, By.out⟩
          · have dmo : decide ((pe : Int) < (n : Int)) = false := by simp; omega
            have RG7 := Lib.hid E7.out.x.rg
            by_cases hok : okC xv = true
            · rw [hok] at CR
              have HDZ : Hid ((xv, (0 : Int)) = D) := Lib.hid (by rw [HD.out, if_neg (by obtain ⟨N1, N2, N3, N4, N5, N6, N7, N8, NA, NB, NC, ND, NE⟩ := HN.out; omega), if_pos hok])
              go_upto_region 16 with (first
                | ((with_reducible refine ldc (.tmp 6) ?_ ?_ B 0 c6 ?_ RG7.out ?_); rfl; (first | rfl | (go_simp <;> fail)); rfl)
                | (go_at_call 10; refine CR.out.mono ?_; rintro e w8 ⟨rfl, hb8⟩; have E8 := Lib.hid (E7.out.up hb8); have S8 := Lib.hid (S7.out.below (hb8.mono E7.out.b.size)); clear hb8)
                | fail)
              have RG8 := Lib.hid E8.out.x.rg
              have T8 : Hid (w8.there w.heap.size 0 69) := Lib.hid E8.out.y.th
              obtain ⟨wz, hwz⟩ : ∃ v, w8.setCells w.heap.size 0 c6.cells = v := ⟨_, rfl⟩
              have Nz : Hid (wz.rangeAt w.heap.size 0 c6.cells) := Lib.hid (by rw [← hwz]; exact (E8.out.y.set_ (cf_sz _)).rg)
              have Bz : Hid (Below w.heap.size w wz) := Lib.hid (by rw [← hwz]; exact below_setCells E8.out.b (Nat.le_refl _) _ _)
              have Sz : Hid (SlB wz wz.heap.size D5.a D5.n D5.c dt) := Lib.hid (by
                rw [← hwz]
                exact (S8.out.below (below_setCells (Below.refl w.heap.size w8) (Nat.le_refl _) 0 c6.cells)).more (by rw [size_setCells]; exact E8.out.b.size))
              have HWZ := Lib.hid hwz
              clear hwz
              go_wp2_with (first
                | ((with_reducible refine ldc (.tmp 6) ?_ ?_ B 0 c6 ?_ RG8.out ?_); rfl; (first | rfl | (go_simp <;> fail)); rfl)
                | ((with_reducible refine stc (.tmp 2) (.tmp 107) ?_ ?_ w.heap.size 0 c6 ?_ ?_ T8.out ONE.out ?_); rfl; rfl; rfl; rfl; rw [HWZ.out])
                | fail)
              exact bodyPost_ret (res_cfi rfl _ _ w.heap.size 0 c6 _ rfl rfl Nz.out) rfl ⟨⟨cfV c6, by rw [← HDZ.out]; rfl, by rw [← HDZ.out]; exact ⟨D5, by rw [HX.out.1], HXC.out _ Sz.out⟩⟩, Bz.out⟩
            · rw [show okC xv = false from by simpa using hok] at CR
              have HDZ : Hid ((zCv, (210 : Int)) = D) := Lib.hid (by rw [HD.out, if_neg (by obtain ⟨N1, N2, N3, N4, N5, N6, N7, N8, NA, NB, NC, ND, NE⟩ := HN.out; omega), if_neg hok])
              go_upto_region 15 with (first
                | ((with_reducible refine ldc (.tmp 6) ?_ ?_ B 0 c6 ?_ RG7.out ?_); rfl; (first | rfl | (go_simp <;> fail)); rfl)
                | (go_at_call 10; refine CR.out.mono ?_; rintro e w8 ⟨rfl, hb8⟩; have E10 := Lib.hid (E7.out.up hb8); clear hb8)
                | fail)
              have T10 := Lib.hid E10.out.y.th
              obtain ⟨wH, hwH⟩ : ∃ v, w8 = v := ⟨_, rfl⟩
              rw [hwH] at E10 T10 ⊢
              clear hwH
              obtain ⟨wy, hwy⟩ : ∃ v, wH.setCells w.heap.size 0 zz.cells = v := ⟨_, rfl⟩
              have Ny : Hid (wy.rangeAt w.heap.size 0 zz.cells) := Lib.hid (by rw [← hwy]; exact (E10.out.y.set_ (cf_sz _)).rg)
              have By : Hid (Below w.heap.size w wy) := Lib.hid (by rw [← hwy]; exact below_setCells E10.out.b (Nat.le_refl _) _ _)
              have HWY := Lib.hid hwy
              clear hwy
              go_wp2_with (first
                | ((with_reducible refine bdt 27 [] ?_ ?_ zz.cells.toArray ?_ ?_); rfl; rfl; exact BZ.out)
                | ((with_reducible refine stc (.tmp 2) (.tmp 106) ?_ ?_ w.heap.size 0 zz ?_ ?_ T10.out ZZ1.out ?_); rfl; rfl; rfl; rfl; rw [HWY.out])
                | fail)
              exact bodyPost_ret (res_cfi rfl _ _ w.heap.size 0 zz _ rfl rfl Ny.out) rfl ⟨⟨cfV zz, by rw [← HDZ.out]; rfl, by rw [← HDZ.out, ← HZZ.out]; exact CmdRes.zero _⟩, By.out⟩
end Go.Proofs.Ythionkcnmkhopaa
