/-
  STAGE 6's REFERENCE: the bytes of commits.
-/
import Derived.Test.YtcofkhmgmemkmaaGreatDoorK45
namespace Go.Proofs.YtcofkhmgmemkmaaGreatDoor
set_option linter.unusedVariables false
set_option linter.unusedSimpArgs false
open Go.RowKit Go.WideShapes Go.ChangeShapes Go.Deep Go.Shelf
attribute [local irreducible] wpQuiet

theorem slb_one {W : World} {b k : Nat} (hk : k < 256) (h : W.cell? ⟨b, 0, none⟩ = some (.int .u8 (k : Int))) : S3.SlB W W.heap.size (some ⟨b, 0, none⟩) 1 1 [UInt8.ofNat k] :=
  ⟨rfl, Nat.le_refl _, by unfold maxLen; omega, (fun e => by cases e), fun _ => ⟨b, 0, rfl, block_lt_of_cell h, fun j hj => by
    have : j = 0 := by simpa using hj
    subst this
    rw [Nat.add_zero, h]
    simp [byte_small hk]⟩⟩
/-- Bytes of one's own, and a byte beside them: not there yet, or there. -/
structure Sb (w1 : World) (A : Option Addr) (n c : Nat) (l : List UInt8) (k : Nat) (b : Option Nat) (W : World) : Prop where
  s : St6 w1 A n c l W
  c : ∀ g, b = some g → W.cell? ⟨g, 0, none⟩ = some (.int .u8 (k : Int)) ∧ (Value.slice A n c).ownBlock ≠ some g
section
variable {w1 W W' : World} {A : Option Addr} {n c k : Nat} {l : List UInt8} {b : Option Nat}
theorem Sb.below (h : Sb w1 A n c l k b W) (hb : Below W.heap.size W W') : Sb w1 A n c l k b W' :=
  ⟨h.s.below hb, fun g e => ⟨(World.cell?_of_block (hb.block g (block_lt_of_cell (h.c g e).1))).trans (h.c g e).1, (h.c g e).2⟩⟩
theorem Sb.made (h : Sb w1 A n c l k none W) : Sb w1 A n c l k (some W.heap.size) (W.alloc (.cells #[.int .u8 (k : Int)] 5)) :=
  ⟨h.s.below ((Below.refl _ _).alloc (Nat.le_refl _) _), fun g e => by
    injection e with e
    subst e
    refine ⟨by have := (Lies.new W [.int .u8 (k : Int)] 5).cell (j := 0) rfl; exact this, fun e => ?_⟩
    have := (h.s.o.lt _ e).2
    omega⟩
theorem Sb.app (h : Sb w1 A n c l k b W) {op : Oper} {a : Act} {K : Act → World → Prop} {Q : Exit → Act → World → Prop} (s x : Operand)
    (ho : op.op = .call { callee := .builtin .append, args := #[s, x], argTypes := #[24, 24] }) (hs : a.eval s = .slice A n c)
    {A' : Option Addr} {m c' : Nat} {l' : List UInt8} (hx : a.eval x = .slice A' m c') (hr : S3.SlB W W.heap.size A' m c' l') (h63 : n + m ≤ 1000000)
    (hk : ∀ A2 c2 W', St6 w1 A2 (n + m) c2 (l ++ l') W' → (∀ g, b = some g → W'.cell? ⟨g, 0, none⟩ = some (.int .u8 (k : Int))) → Kt w1.heap.size W W' → K (a.put op.dst (.slice A2 (n + m) c2)) W') : op.wp Tryz.prog a W K Q := by
  obtain ⟨i0, hi, hz, hz1, hz2⟩ := info_parts S3.info_u8
  refine wp_append_sq (f := oneV) s x 24 ho w1.heap.size 5 i0 _ _ Tryz.underlying24 hi hz hz1 hz2 (by rfl) (by omega) (.slice A n c) n l hs (by rw [flat_bv]; exact h.s.o) hx (sl_sq hr) (by rw [flat_bv]; exact S3.bvs_one l') h63 (by omega) h.s.b.size ?_
  intro v' w' hown hg
  obtain ⟨A2, c2, rfl⟩ := own_shape hown
  rw [flat_bv] at hown
  exact hk A2 c2 w' ⟨h.s.b.trans (below_own h.s.o hg h.s.b.size), hown⟩ (fun g e => (World.cell?_of_block (hg.block g (block_lt_of_cell (h.c g e).1) (fun e' => (h.c g e).2 e'.symm))).trans (h.c g e).1) (Kt.grown h.s.o hg h.s.b.size)
end
def slV (d : Value) (m : Nat) : Option (Option Addr × Nat) → Value
  | none => d
  | some (A, c) => .slice A m c
def ptS (d : Value) : Option Nat → Value
  | none => d
  | some b => .slice (some ⟨b, 0, none⟩) 1 1
theorem some_is {α : Type} {o : Option α} (h : o.isNone.toNat = 0) : ∃ v, o = some v := by cases o <;> simp_all

set_option maxRecDepth 100000 in
set_option maxHeartbeats 8000000 in
theorem bytes6_com {w : World} {x : Ov} {L P E : Sl} (h : Obj3 w w.heap.size x L P E) (hk : x.kind = 3) (hc : Cok x P E) :
    Calls Tryz.prog 21 #[ofV (x.at_ L P E)] w fun e w' => (∃ A n c, e = .returned (.slice A n c) ∧ OwnB w' w.heap.size A n c (bytesW x)) ∧ Below w.heap.size w w' := by
  obtain ⟨ox, w1, hb⟩ := Bxo.mk_ w x L P E
  have HB := Lib.hid hb
  rw [hb.eq]
  have HL : Hid (∀ W, Below w.heap.size w W → Obj3 W w.heap.size x L P E) := Lib.hid fun W hW => h.below hW
  obtain ⟨AL, nL, cL⟩ := L
  obtain ⟨AP, nP, cP⟩ := P
  obtain ⟨AE, nE, cE⟩ := E
  have HNA : Hid (x.num < 4294967296 ∧ x.auth < 4294967296) := Lib.hid ⟨h.nb, h.ab⟩
  have HLL : Hid (x.lv.length = nL ∧ x.ps.length = nP ∧ x.es.length = nE) := Lib.hid ⟨h.l.len, h.p.len, h.e.len⟩
  clear h hb
  go_enter Tryz.func21, Tryz.ntmps21
  go_upto_region 1 with fail
  rw [HB.out.al]
  have B1 := Lib.hid HB.out.bl
  obtain ⟨a0, a1, a2, a3, -, -, a6, a7, a8, a9, a10⟩ := HB.out.facts (Below.refl _ _)
  obtain ⟨ks, hks⟩ : ∃ K : Nat, x.style = (K : Int) := ⟨x.style.toNat, by have := hc.st; omega⟩
  have hK2 : ks < 256 := by have := hc.st; omega
  have hnP : nP ≤ 2 := hc.ps
  have hnE : nE ≤ 32 := hc.es
  have HCH := Lib.hid hc.ch
  have hno := hc.no
  have hnub : x.num < 4294967296 := HNA.out.1
  have haub : x.auth < 4294967296 := HNA.out.2
  have hw0 : IntKind.u8.wrap x.kind = 3 := by rw [hk]; rfl
  have hw1 : IntKind.u8.wrap x.style = (ks : Int) := by rw [hks, IntKind.wrap_u8]; omega
  have hw2 : IntKind.u8.wrap (nP : Int) = (nP : Int) := by rw [IntKind.wrap_u8]; omega
  have hw3 : IntKind.u8.wrap (nE : Int) = (nE : Int) := by rw [IntKind.wrap_u8]; omega
  have hw4 : IntKind.u64.wrap ((x.num : Nat) : Int) = (x.num : Int) := by rw [IntKind.wrap_u64]; omega
  have hw5 : IntKind.u64.wrap ((x.auth : Nat) : Int) = (x.auth : Int) := by rw [IntKind.wrap_u64]; omega
  have d1 : (x.kind == 1) = false := by simp [hk]
  have d2 : (x.kind == 2) = false := by simp [hk]
  have HBW : Hid (bytesW x = [UInt8.ofNat 3] ++ ([UInt8.ofNat ks] ++ x.tree.b ++ [UInt8.ofNat nP] ++ x.ps.flatMap Idv.b ++ x.base.b ++ [UInt8.ofNat nE] ++ x.es.flatMap chB ++ S3.be 4 x.num ++ S3.be 4 x.auth ++ [UInt8.ofNat x.note.size] ++ strB x.note)) := Lib.hid (by unfold bytesW comB; rw [hk, if_neg (by decide), if_neg (by decide), HLL.out.2.1, HLL.out.2.2, hks]; rfl)
  clear hk hc hks
  have S0 := Lib.hid (St6.one w1 3 (by omega))
  obtain ⟨w2, hw2z⟩ : ∃ w2, w1.alloc (.cells #[.int .u8 ((3 : Nat) : Int)] 5) = w2 := ⟨_, rfl⟩
  rw [hw2z] at S0
  have HW2 : Hid (w1.alloc (.cells #[.int .u8 3] 5) = w2) := Lib.hid hw2z
  clear hw2z
  go_upto_region 2 with fail
  rw [HW2.out]
  clear a0 a1 a2 a3 a6 a7 a8 a9 a10 HW2
  obtain ⟨a0, a1, a2, a3, -, -, a6, a7, a8, a9, a10⟩ := HB.out.facts S0.out.b
  go_upto_region 13 with fail
  clear a0 a1 a2 a3 a6 a7 a8 a9 a10
  obtain ⟨wd1, hwd⟩ : ∃ wd, w2.drew = wd := ⟨_, rfl⟩
  have BDz : Below w2.heap.size w2 wd1 := by rw [← hwd]; exact (Below.refl _ _).drew
  have St2 := Lib.hid (S0.out.below BDz)
  clear S0
  refine wp_region_noPanic (wp_region_any (by kernel_rfl) (wpAny_of_bk (S := (fun w' => Below w1.heap.size w1 w')) (m := 9) _ _ _ _ ?_))
  show wpBk _ _ _ _ _ _ 10 _ _ w2.drew
  rw [hwd]
  clear hwd BDz
  refine wpBk_takeP (i := 0) rfl (by kernel_rfl) (fun _ _ _ _ h => h) (.inl ⟨rfl, fun w' hw' => (by clear hw'; go_simp; (try rfl))⟩) ?_
  simp only [List.getElem_toArray, List.getElem_cons_zero, List.getElem_cons_succ, Act.put, List.setIfInBounds_toArray, List.set_cons_succ, List.set_cons_zero]
  refine wpBk_takeP (i := 1) rfl (by kernel_rfl) (fun _ _ _ _ h => h) (.inl ⟨rfl, fun w' hw' => (by clear hw'; go_simp; (try rfl))⟩) ?_
  simp only [List.getElem_toArray, List.getElem_cons_zero, List.getElem_cons_succ, Act.put, List.setIfInBounds_toArray, List.set_cons_succ, List.set_cons_zero]
  refine wpBk_take (i := 2) rfl (by kernel_rfl) (fun _ _ _ _ h => h) (.inl ⟨rfl, fun w' hw' => (by obtain ⟨a0, a1, a2, a3, -, -, a6, a7, a8, a9, a10⟩ := HB.out.facts hw'; clear hw'; go_simp; (try rfl))⟩) St2.out.b ?_
  simp only [List.getElem_toArray, List.getElem_cons_zero, List.getElem_cons_succ, Act.put, List.setIfInBounds_toArray, List.set_cons_succ, List.set_cons_zero]
  refine wpBk_takeP (i := 3) rfl (by kernel_rfl) (fun _ _ _ _ h => h) (.inl ⟨rfl, fun w' hw' => (by clear hw'; go_simp; (try rfl))⟩) ?_
  simp only [List.getElem_toArray, List.getElem_cons_zero, List.getElem_cons_succ, Act.put, List.setIfInBounds_toArray, List.set_cons_succ, List.set_cons_zero]
  refine wpBk_takeP (i := 6) rfl (by kernel_rfl) (fun _ _ _ _ h => h) (.inl ⟨rfl, fun w' hw' => (by clear hw'; go_simp; (try rfl))⟩) ?_
  simp only [List.getElem_toArray, List.getElem_cons_zero, List.getElem_cons_succ, Act.put, List.setIfInBounds_toArray, List.set_cons_succ, List.set_cons_zero]
  refine wpBk_takeP (i := 7) rfl (by kernel_rfl) (fun _ _ _ _ h => h) (.inl ⟨rfl, fun w' hw' => (by clear hw'; go_simp; (try rfl))⟩) ?_
  simp only [List.getElem_toArray, List.getElem_cons_zero, List.getElem_cons_succ, Act.put, List.setIfInBounds_toArray, List.set_cons_succ, List.set_cons_zero]
  refine wpBk_one (i := 4) rfl rfl (by kernel_rfl) (fun K hK => ?_)
  refine wp_oneB (.tmp 53) rfl _ rfl ?_
  obtain ⟨wo3, hwo⟩ : ∃ wo, wd1.alloc (.cells #[.int .u8 (ks : Int)] 5) = wo := ⟨_, rfl⟩
  have hbo : Below wd1.heap.size wd1 wo3 := by rw [← hwo]; exact (Below.refl _ _).alloc (Nat.le_refl _) _
  have SLo3 : Hid (S3.SlB wo3 wo3.heap.size (some ⟨wd1.heap.size, 0, none⟩) 1 1 [UInt8.ofNat ks]) := Lib.hid (by rw [← hwo]; exact one_sl wd1 ks (by omega))
  have St4 := Lib.hid (St2.out.below hbo)
  clear St2
  rw [hwo]
  clear hwo hbo
  refine hK _ _ ⟨fun _ _ => St4.out.b, ?_⟩
  simp only [List.getElem_toArray, List.getElem_cons_zero, List.getElem_cons_succ, Act.put, List.setIfInBounds_toArray, List.set_cons_succ, List.set_cons_zero]
  refine wpBk_one (i := 5) rfl rfl (by kernel_rfl) (fun K hK => ?_)
  refine St4.out.app (.tmp 50) (.tmp 54) rfl rfl rfl (SLo3.out) (by omega) ?_
  intro A5 c5 wp5 hst hkt
  have St5 := Lib.hid hst
  clear hst hkt St4
  refine hK _ _ ⟨fun _ _ => St5.out.b, ?_⟩
  simp only [List.getElem_toArray, List.getElem_cons_zero, List.getElem_cons_succ, Act.put, List.setIfInBounds_toArray, List.set_cons_succ, List.set_cons_zero]
  refine wpBk_one (i := 8) rfl rfl (by kernel_rfl) (fun K hK => ?_)
  refine St5.out.app (.tmp 55) (.tmp 57) rfl rfl rfl (id_slb (HB.out.facts St5.out.b).2.2.2.2.1) (by omega) ?_
  intro A6 c6 wp6 hst hkt
  have St6 := Lib.hid hst
  clear hst hkt St5
  refine hK _ _ ⟨fun _ _ => St6.out.b, ?_⟩
  simp only [List.getElem_toArray, List.getElem_cons_zero, List.getElem_cons_succ, Act.put, List.setIfInBounds_toArray, List.set_cons_succ, List.set_cons_zero]
  refine bk_drop 9 1 rfl (by omega) (by kernel_rfl) ?_
  simp only [List.drop_succ_cons, List.drop_zero]
  go_wp2_with fail
  refine NoPanic.normal ?_
  go_upto_region 14 with fail
  obtain ⟨wq, hwq⟩ : ∃ wq, wp6.alloc (.cells #[.int .u8 (nP : Int)] 5) = wq := ⟨_, rfl⟩
  have hbq : Below wp6.heap.size wp6 wq := by rw [← hwq]; exact (Below.refl _ _).alloc (Nat.le_refl _) _
  have SLq : Hid (S3.SlB wq wq.heap.size (some ⟨wp6.heap.size, 0, none⟩) 1 1 [UInt8.ofNat nP]) := Lib.hid (by rw [← hwq]; exact one_sl wp6 nP (by omega))
  obtain ⟨-, -, -, -, -, -, a6, -, -, -, -⟩ := HB.out.facts St6.out.b
  have St7 := Lib.hid (St6.out.below hbq)
  clear St6
  have HWQ := Lib.hid hwq
  clear hwq hbq
  go_upto_region 15 with (first
    | (at_builtin; rw [HWQ.out]; refine wpList_plain rfl fun KK hKK => St7.out.app (.tmp 59) (.tmp 64) rfl rfl rfl SLq.out (by omega) ?_; intro A4 c4 w4 hst hkt; have S4 := Lib.hid hst; clear hst hkt; refine hKK _ _ ?_)
    | fail)
  clear a6 HWQ SLq
  obtain ⟨-, -, -, -, -, -, a6, -, -, -, -⟩ := HB.out.facts S4.out.b
  have hnp0 : (0 : Int) ≤ (nP : Int) := Int.natCast_nonneg _
  have hne0 : (0 : Int) ≤ (nE : Int) := Int.natCast_nonneg _
  go_wp2_with fail
  clear a6
  obtain ⟨L4, hL4⟩ : ∃ L, (([UInt8.ofNat 3] ++ [UInt8.ofNat ks]) ++ x.tree.b) ++ [UInt8.ofNat nP] = L := ⟨_, rfl⟩
  rw [hL4] at S4
  have HL4 := Lib.hid hL4
  clear hL4
  have S4b : Hid (St6 w1 A4 35 c4 L4 w4) := S4
  clear S4
  obtain ⟨zI, hzI⟩ : ∃ z, Idv.zero = z := ⟨_, rfl⟩
  have ZI : Hid (∀ w : World, (zeroValue 27).run Tryz.prog w = .ok (.agg zI.cells.toArray) w) := Lib.hid (by rw [← hzI]; exact zero_id)
  clear hzI
  go_loopw [3, 69] (fun v i wr => ∃ (k : Nat) (A : Option Addr) (n c : Nat), k ≤ nP ∧ i = .int .i64 (k : Int) ∧ v = .slice A n c ∧ n ≤ 35 + k * 32 ∧ Hid (St6 w1 A n c (L4 ++ (x.ps.take k).flatMap Idv.b) wr)) (fun _ i _ => nP - (intOf i).toNat)
  case atStart => exact ⟨0, A4, 35, c4, Nat.zero_le _, rfl, rfl, by omega, Lib.hid (by simpa using S4b.out)⟩
  case round =>
    obtain ⟨k, A, n, c, hk, rfl, rfl, hn2, hlo⟩ := hrel
    by_cases hlt : k < nP
    · have hd : decide ((k : Int) < (nP : Int)) = true := by simp; omega
      have hk0 : (0 : Int) ≤ (k : Int) := Int.natCast_nonneg _
      have hk1 : (k : Int) < (nP : Int) := by omega
      have BR := B1.out.trans (hlo.out.b.mono B1.out.size)
      obtain ⟨b, o, rfl, hbl, hrg⟩ := (HL.out wr BR).p.at_ hlt
      have hkl : k < x.ps.length := by rw [HLL.out.2.1]; exact hlt
      have HST := Lib.hid (ids_step hkl)
      obtain ⟨r, hr⟩ : ∃ r, x.ps[k] = r := ⟨_, rfl⟩
      rw [hr] at hrg HST
      have HRG := Lib.hid hrg
      obtain ⟨T, hT⟩ : ∃ T, wr.heap.size = T := ⟨_, rfl⟩
      obtain ⟨wA, hwA⟩ : ∃ wA, wr.alloc (.cells zI.cells.toArray 27) = wA := ⟨_, rfl⟩
      obtain ⟨w5, hw5⟩ : ∃ w5, wA.setCells T 0 r.cells = w5 := ⟨_, rfl⟩
      have YA : Hid (Lies wA T 32 zI.cells) := Lib.hid (by rw [← hwA, ← hT]; have := Lies.new wr zI.cells 27; rwa [id_sz] at this)
      have RT : Hid (w5.rangeAt T 0 r.cells) := Lib.hid (by rw [← hw5]; exact (YA.out.set_ (id_sz _)).rg)
      have C5 : Below wr.heap.size wr w5 := by rw [← hw5, ← hwA]; exact below_setCells ((Below.refl _ _).alloc (Nat.le_refl _) _) (by omega) _ _
      have Sx0 := Lib.hid (hlo.out.below C5)
      have HWA := Lib.hid hwA
      have HW5 := Lib.hid hw5
      have TA := Lib.hid YA.out.th
      clear hwA hw5 YA C5 hrg hr BR hlo
      go_upto_region 18 with (first
        | ((with_reducible refine ldi (.tmp 71) ?_ ?_ b (o + k * 32) r ?_ HRG.out ?_); rfl; rfl; (first | rfl | go_simp))
        | ((with_reducible refine alt 27 ?_ ?_ zI.cells ZI.out ?_); rfl; rfl; rw [HWA.out]; (try simp only [Act.put, List.setIfInBounds_toArray, List.set_cons_succ, List.set_cons_zero, hT]))
        | ((with_reducible refine sti (.tmp 7) (.tmp 72) ?_ ?_ T 0 r ?_ ?_ TA.out ?_); rfl; rfl; rfl; rfl; rw [HW5.out])
        | fail)
      go_wp2_with (first
        | (at_builtin; refine wpList_plain rfl fun KK hKK => Sx0.out.app (.tmp 73) (.tmp 74) rfl rfl rfl (id_slb RT.out) (by omega) ?_; intro A6 c6 w6 hst hkt; have S6 := Lib.hid hst; clear hst hkt; refine hKK _ _ ?_)
        | fail)
      go_roundw
      case rel => exact ⟨k + 1, A6, _, c6, by omega, by go_num, rfl, by omega, Lib.hid (by rw [HST.out]; have h9 := S6.out; simpa only [List.append_assoc] using h9)⟩
      case measure => simp [intOf]; omega
    · have hd : decide ((k : Int) < (nP : Int)) = false := by simp; omega
      have hn99 : n ≤ 99 := by omega
      obtain ⟨L5, hL5⟩ : ∃ L, L4 ++ x.ps.flatMap Idv.b = L := ⟨_, rfl⟩
      obtain ⟨wo, hwo⟩ : ∃ wo : World, wo = wr := ⟨_, rfl⟩
      have S5 : Hid (St6 w1 A n c L5 wo) := Lib.hid (by rw [hwo, ← hL5]; have h9 := hlo.out; rwa [List.take_of_length_le (by rw [HLL.out.2.1]; omega)] at h9)
      have HL5 := Lib.hid hL5
      rw [← hwo]
      clear hwo hlo hL5 hn2
      obtain ⟨-, -, -, -, -, -, a6, a7, -, -, -⟩ := HB.out.facts S5.out.b
      go_upto_region 20 with fail
      clear hd hk hlt a6 a7
      obtain ⟨wd8, hwd⟩ : ∃ wd, wo.drew = wd := ⟨_, rfl⟩
      have BDz : Below wo.heap.size wo wd8 := by rw [← hwd]; exact (Below.refl _ _).drew
      have St9 := Lib.hid (S5.out.below BDz)
      clear S5
      refine wp_region_noPanic (wp_region_any (by kernel_rfl) (wpAny_of_bk (S := (fun w' => Below w1.heap.size w1 w')) (m := 11) _ _ _ _ ?_))
      show wpBk _ _ _ _ _ _ 12 _ _ wo.drew
      rw [hwd]
      clear hwd BDz
      refine wpBk_takeP (i := 0) rfl (by kernel_rfl) (fun _ _ _ _ h => h) (.inl ⟨rfl, fun w' hw' => (by clear hw'; go_simp; (try rfl))⟩) ?_
      simp only [List.getElem_toArray, List.getElem_cons_zero, List.getElem_cons_succ, Act.put, List.setIfInBounds_toArray, List.set_cons_succ, List.set_cons_zero]
      refine wpBk_takeP (i := 1) rfl (by kernel_rfl) (fun _ _ _ _ h => h) (.inl ⟨rfl, fun w' hw' => (by clear hw'; go_simp; (try rfl))⟩) ?_
      simp only [List.getElem_toArray, List.getElem_cons_zero, List.getElem_cons_succ, Act.put, List.setIfInBounds_toArray, List.set_cons_succ, List.set_cons_zero]
      refine wpBk_takeP (i := 2) rfl (by kernel_rfl) (fun _ _ _ _ h => h) (.inl ⟨rfl, fun w' hw' => (by clear hw'; go_simp; (try rfl))⟩) ?_
      simp only [List.getElem_toArray, List.getElem_cons_zero, List.getElem_cons_succ, Act.put, List.setIfInBounds_toArray, List.set_cons_succ, List.set_cons_zero]
      refine wpBk_takeP (i := 4) rfl (by kernel_rfl) (fun _ _ _ _ h => h) (.inl ⟨rfl, fun w' hw' => (by clear hw'; go_simp; (try rfl))⟩) ?_
      simp only [List.getElem_toArray, List.getElem_cons_zero, List.getElem_cons_succ, Act.put, List.setIfInBounds_toArray, List.set_cons_succ, List.set_cons_zero]
      refine wpBk_takeP (i := 5) rfl (by kernel_rfl) (fun _ _ _ _ h => h) (.inl ⟨rfl, fun w' hw' => (by clear hw'; go_simp; (try rfl))⟩) ?_
      simp only [List.getElem_toArray, List.getElem_cons_zero, List.getElem_cons_succ, Act.put, List.setIfInBounds_toArray, List.set_cons_succ, List.set_cons_zero]
      refine wpBk_take (i := 6) rfl (by kernel_rfl) (fun _ _ _ _ h => h) (.inl ⟨rfl, fun w' hw' => (by obtain ⟨a0, a1, a2, a3, -, -, a6, a7, a8, a9, a10⟩ := HB.out.facts hw'; clear hw'; go_simp; (try rfl))⟩) St9.out.b ?_
      simp only [List.getElem_toArray, List.getElem_cons_zero, List.getElem_cons_succ, Act.put, List.setIfInBounds_toArray, List.set_cons_succ, List.set_cons_zero]
      refine wpBk_takeP (i := 7) rfl (by kernel_rfl) (fun _ _ _ _ h => h) (.inl ⟨rfl, fun w' hw' => (by clear hw'; go_simp; (try rfl))⟩) ?_
      simp only [List.getElem_toArray, List.getElem_cons_zero, List.getElem_cons_succ, Act.put, List.setIfInBounds_toArray, List.set_cons_succ, List.set_cons_zero]
      refine wpBk_takeP (i := 8) rfl (by kernel_rfl) (fun _ _ _ _ h => h) (.inl ⟨rfl, fun w' hw' => (by clear hw'; go_simp; (try rfl))⟩) ?_
      simp only [List.getElem_toArray, List.getElem_cons_zero, List.getElem_cons_succ, Act.put, List.setIfInBounds_toArray, List.set_cons_succ, List.set_cons_zero]
      refine wpBk_free (fun old a0 l0 f l a w' => ∃ (r3 : Option (Option Addr × Nat)) (b9 : Option Nat), f = 2 + (r3.isNone.toNat + b9.isNone.toNat) ∧ l = (l0.setIfInBounds 3 r3.isSome).setIfInBounds 9 b9.isSome ∧ a = { tmps := (a0.tmps.setIfInBounds 80 (slV (old 80) (n + 32) r3)).setIfInBounds 86 (ptS (old 86) b9), defers := a0.defers } ∧ (r3 = none → Sb w1 A n c L5 nE b9 w') ∧ (∀ q, r3 = some q → St6 w1 q.1 (n + 32) q.2 (L5 ++ x.base.b) w' ∧ ∀ g, b9 = some g → w'.cell? ⟨g, 0, none⟩ = some (.int .u8 (nE : Int)))) 2 [(3, []), (9, [])] ?_ ?_ ?_ 2 ?_
      · rintro old f l a wz ⟨r3, b9, hf, rfl, -⟩
        rcases r3 with _ | _ <;> rcases b9 with _ | _ <;> first | (exfalso; simp at hf; done) | (exfalso; simp at hf; omega) | kernel_rfl
      · rintro old f l a wz ⟨r3, b9, hf, rfl, rfl, hS, hT9⟩ jp hjp hn hq
        simp only [List.mem_cons, List.not_mem_nil, or_false] at hjp
        rcases hjp with rfl | rfl
        · obtain rfl : r3 = none := by clear hS hT9 hf hq; cases r3 <;> first | rfl | exact absurd (show (false : Bool) = true from hn.symm.trans (by kernel_rfl)) (by decide)
          clear hn hq hT9
          have hs9 := hS rfl
          refine wpOp_of rfl rfl (fun K hK => ?_)
          simp only [List.getElem_toArray, List.getElem_cons_zero, List.getElem_cons_succ, Act.put, List.setIfInBounds_toArray, List.set_cons_succ, List.set_cons_zero, List.getElem_toArray]
          refine hs9.app (.tmp 77) (.tmp 79) rfl rfl rfl (id_slb (HB.out.facts hs9.s.b).2.2.2.2.2.1) (by omega) ?_
          intro A6 c6 w6 hst hcl hkt
          refine hK _ _ ⟨fun _ _ => hst.b, some (A6, c6), b9, ?_, ?_, ?_, (fun e => by cases e), fun q e => (by injection e with e; subst e; exact ⟨hst, hcl⟩)⟩
          · simp at hf ⊢; omega
          · kernel_rfl
          · kernel_rfl
        · obtain rfl : b9 = none := by clear hS hT9 hf hq; cases b9 <;> first | rfl | exact absurd (show (false : Bool) = true from hn.symm.trans (by kernel_rfl)) (by decide)
          clear hn hq
          refine wpOp_of rfl rfl (fun K hK => ?_)
          simp only [List.getElem_toArray, List.getElem_cons_zero, List.getElem_cons_succ, Act.put, List.setIfInBounds_toArray, List.set_cons_succ, List.set_cons_zero, List.getElem_toArray]
          refine wp_oneB (.tmp 85) rfl _ rfl ?_
          have hba : Below wz.heap.size wz (wz.alloc (.cells #[.int .u8 (nE : Int)] 5)) := (Below.refl _ _).alloc (Nat.le_refl _) _
          have hbw : Below w1.heap.size w1 wz := by
            rcases r3 with _ | q
            · exact (hS rfl).s.b
            · exact (hT9 q rfl).1.b
          refine hK _ _ ⟨fun _ _ => hbw.trans (hba.mono hbw.size), r3, some wz.heap.size, ?_, ?_, ?_, (fun e => (hS e).made), fun q e => ⟨(hT9 q e).1.below hba, fun g e2 => (by injection e2 with e2; subst e2; have := (Lies.new wz [.int .u8 (nE : Int)] 5).cell (j := 0) rfl; exact this)⟩⟩
          · simp at hf ⊢; omega
          · kernel_rfl
          · kernel_rfl
      · rintro old l a wz ⟨r3, b9, hf, rfl, rfl, hS, hT9⟩
        obtain ⟨⟨A6, c6⟩, rfl⟩ := some_is (o := r3) (by omega)
        obtain ⟨g9, rfl⟩ := some_is (o := b9) (by omega)
        simp only [List.getElem_toArray, List.getElem_cons_zero, List.getElem_cons_succ, Act.put, List.setIfInBounds_toArray, List.set_cons_succ, List.set_cons_zero, List.getElem_toArray, slV, ptS, Option.isSome_some]
        have S6 := Lib.hid (hT9 _ rfl).1
        have C9 := Lib.hid ((hT9 _ rfl).2 g9 rfl)
        clear hS hT9 hf
        dsimp only at S6
        refine wpBk_one (i := 10) rfl rfl (by kernel_rfl) (fun K hK => ?_)
        refine S6.out.app (.tmp 80) (.tmp 86) rfl rfl rfl (slb_one (by omega) C9.out) (by omega) ?_
        intro A10 c10 wp10 hst hkt
        have St10 := Lib.hid hst
        clear hst hkt S6
        refine hK _ _ ⟨fun _ _ => St10.out.b, ?_⟩
        simp only [List.getElem_toArray, List.getElem_cons_zero, List.getElem_cons_succ, Act.put, List.setIfInBounds_toArray, List.set_cons_succ, List.set_cons_zero]
        refine bk_drop 11 1 rfl (by omega) (by kernel_rfl) ?_
        simp only [List.drop_succ_cons, List.drop_zero]
        go_wp2_with fail
        refine NoPanic.normal ?_
        obtain ⟨L6, hL6⟩ : ∃ L, ((L5 ++ x.base.b) ++ [UInt8.ofNat nE]) = L := ⟨_, rfl⟩
        obtain ⟨n6, hn6⟩ : ∃ m, ((n + 32) + (1)) = m := ⟨_, rfl⟩
        rw [hL6, hn6] at St10
        have HL6 := Lib.hid hL6
        have hn6b : n6 ≤ 132 := by omega
        go_upto_region 21 with fail
        obtain ⟨-, -, -, -, -, -, -, a7, -, -, -⟩ := HB.out.facts St10.out.b
        go_wp2_with fail
        clear a7
        rw [hn6]
        clear hL6 hn6
        go_loopw [3, 92] (fun v i wr => ∃ (k : Nat) (A : Option Addr) (n c : Nat), k ≤ nE ∧ i = .int .i64 (k : Int) ∧ v = .slice A n c ∧ n ≤ 132 + k * 308 ∧ Hid (St6 w1 A n c (L6 ++ (x.es.take k).flatMap chB) wr)) (fun _ i _ => nE - (intOf i).toNat)
        case atStart => exact ⟨0, A10, n6, c10, Nat.zero_le _, rfl, rfl, by omega, Lib.hid (by simpa using St10.out)⟩
        case round =>
          obtain ⟨j, A, n, c, hj, rfl, rfl, hn2, hlo⟩ := hrel
          by_cases hlt2 : j < nE
          · have hd : decide ((j : Int) < (nE : Int)) = true := by simp; omega
            have hj0 : (0 : Int) ≤ (j : Int) := Int.natCast_nonneg _
            have hj1 : (j : Int) < (nE : Int) := by omega
            have BR := B1.out.trans (hlo.out.b.mono B1.out.size)
            obtain ⟨b, o, rfl, hbl, hrg⟩ := (HL.out wr BR).e.at_ hlt2
            have hkl : j < x.es.length := by rw [HLL.out.2.2]; exact hlt2
            have HST := Lib.hid (chs_step hkl)
            have hsz := HCH.out x.es[j] (List.getElem_mem hkl)
            obtain ⟨r, hr⟩ : ∃ r, x.es[j] = r := ⟨_, rfl⟩
            rw [hr] at hrg HST hsz
            obtain ⟨hsp, hst2⟩ := hsz
            obtain ⟨qi, hqi⟩ : ∃ q, r.is = q := ⟨_, rfl⟩
            have r0 : wr.cell? ⟨b, o + j * 3, none⟩ = some (.string r.p) := hrg 0 _ rfl
            have r1 : wr.cell? ⟨b, o + j * 3 + 1, none⟩ = some (.bool qi) := by have h9 : wr.cell? ⟨b, o + j * 3 + 1, none⟩ = some (.bool r.is) := hrg 1 _ rfl; rwa [hqi] at h9
            have r2 : wr.cell? ⟨b, o + j * 3 + 2, none⟩ = some (.string r.t) := hrg 2 _ rfl
            have HQI := Lib.hid hqi
            obtain ⟨T, hT⟩ : ∃ T, wr.heap.size = T := ⟨_, rfl⟩
            obtain ⟨w5, hw5⟩ : ∃ w5, wr.alloc (.cells #[.string r.p, .bool qi, .string r.t] 71) = w5 := ⟨_, rfl⟩
            have Lt0 : Hid (Lt w5 T 71 3 [.string r.p, .bool qi, .string r.t]) := Lib.hid (by rw [← hw5, ← hT]; exact ⟨Lies.new wr [.string r.p, .bool qi, .string r.t] 71, _, _, heap_alloc_new wr _⟩)
            have C5 : Below wr.heap.size wr w5 := by rw [← hw5]; exact (Below.refl _ _).alloc (Nat.le_refl _) _
            have Sx0 := Lib.hid (hlo.out.below C5)
            have HW5 := Lib.hid hw5
            have t1 := Lt0.out.ls.cell (j := 1) rfl
            clear hw5 C5 hrg hr BR hlo hqi
            cases qi
            · go_upto_region 27 with fail
              (try rw [HW5.out])
              (try rw [hT])
              clear t1 r0 r1 r2 HW5
              obtain ⟨wd11, hwd⟩ : ∃ wd, w5.drew = wd := ⟨_, rfl⟩
              have BDz : Below w5.heap.size w5 wd11 := by rw [← hwd]; exact (Below.refl _ _).drew
              have St12 := Lib.hid (Sx0.out.below BDz)
              have Lt12_T : Hid (Lt wd11 T 71 3 [.string r.p, .bool false, .string r.t]) := Lib.hid (Lt0.out.kt (Kt.fresh BDz (Nat.le_refl _)) (by decide))
              clear Sx0 Lt0
              refine wp_region_noPanic (wp_region_any (by kernel_rfl) (wpAny_of_bk (S := (fun w' => w'.cell? ⟨T, 0, none⟩ = some (.string r.p) ∧ w'.cell? ⟨T, 2, none⟩ = some (.string r.t))) (m := 12) _ _ _ _ ?_))
              show wpBk _ _ _ _ _ _ 13 _ _ w5.drew
              rw [hwd]
              clear hwd BDz
              refine wpBk_takeP (i := 0) rfl (by kernel_rfl) (fun _ _ _ _ h => h) (.inl ⟨rfl, fun w' hw' => (by clear hw'; go_simp; (try rfl))⟩) ?_
              simp only [List.getElem_toArray, List.getElem_cons_zero, List.getElem_cons_succ, Act.put, List.setIfInBounds_toArray, List.set_cons_succ, List.set_cons_zero]
              refine wpBk_takeP (i := 1) rfl (by kernel_rfl) (fun _ _ _ _ h => h) (.inl ⟨rfl, fun w' hw' => (by clear hw'; go_simp; (try rfl))⟩) ?_
              simp only [List.getElem_toArray, List.getElem_cons_zero, List.getElem_cons_succ, Act.put, List.setIfInBounds_toArray, List.set_cons_succ, List.set_cons_zero]
              refine wpBk_take (i := 2) rfl (by kernel_rfl) (fun _ _ _ _ h => h) (.inl ⟨rfl, fun w' hw' => (by have q0 := hw'.1; have q1 := hw'.2; clear hw'; go_simp; (try rfl))⟩) ⟨Lt12_T.out.ls.cell (j := 0) rfl, Lt12_T.out.ls.cell (j := 2) rfl⟩ ?_
              simp only [List.getElem_toArray, List.getElem_cons_zero, List.getElem_cons_succ, Act.put, List.setIfInBounds_toArray, List.set_cons_succ, List.set_cons_zero]
              refine wpBk_takeP (i := 5) rfl (by kernel_rfl) (fun _ _ _ _ h => h) (.inl ⟨rfl, fun w' hw' => (by clear hw'; go_simp; (try rfl))⟩) ?_
              simp only [List.getElem_toArray, List.getElem_cons_zero, List.getElem_cons_succ, Act.put, List.setIfInBounds_toArray, List.set_cons_succ, List.set_cons_zero]
              refine wpBk_takeP (i := 8) rfl (by kernel_rfl) (fun _ _ _ _ h => h) (.inl ⟨rfl, fun w' hw' => (by clear hw'; go_simp; (try rfl))⟩) ?_
              simp only [List.getElem_toArray, List.getElem_cons_zero, List.getElem_cons_succ, Act.put, List.setIfInBounds_toArray, List.set_cons_succ, List.set_cons_zero]
              refine wpBk_take (i := 9) rfl (by kernel_rfl) (fun _ _ _ _ h => h) (.inl ⟨rfl, fun w' hw' => (by have q0 := hw'.1; have q1 := hw'.2; clear hw'; go_simp; (try rfl))⟩) ⟨Lt12_T.out.ls.cell (j := 0) rfl, Lt12_T.out.ls.cell (j := 2) rfl⟩ ?_
              simp only [List.getElem_toArray, List.getElem_cons_zero, List.getElem_cons_succ, Act.put, List.setIfInBounds_toArray, List.set_cons_succ, List.set_cons_zero]
              refine wpBk_free (fun old a0 l0 f l a w' => ∃ (s3 r4 : Option (Option Addr × Nat)) (b6 : Option Nat), f = 4 + (s3.isNone.toNat + (r4.isNone.toNat + b6.isNone.toNat)) ∧ (r4.isSome = true → s3.isSome = true) ∧ l = ((l0.setIfInBounds 3 s3.isSome).setIfInBounds 4 r4.isSome).setIfInBounds 6 b6.isSome ∧ a = { tmps := ((a0.tmps.setIfInBounds 101 (slV (old 101) (1 + r.p.size) s3)).setIfInBounds 102 (slV (old 102) (n + (1 + r.p.size)) r4)).setIfInBounds 104 (ptS (old 104) b6), defers := a0.defers } ∧ Lt w' T 71 3 [.string r.p, .bool false, .string r.t] ∧ (r4 = none → Sb w1 A n c (L6 ++ (x.es.take j).flatMap chB) 0 b6 w' ∧ ∀ q, s3 = some q → S3.SlB w' w'.heap.size q.1 (1 + r.p.size) q.2 (S3.be 1 r.p.size ++ strB r.p)) ∧ (∀ q, r4 = some q → St6 w1 q.1 (n + (1 + r.p.size)) q.2 ((L6 ++ (x.es.take j).flatMap chB) ++ (S3.be 1 r.p.size ++ strB r.p)) w' ∧ ∀ g, b6 = some g → w'.cell? ⟨g, 0, none⟩ = some (.int .u8 ((0 : Nat) : Int)))) 4 [(3, []), (4, [3]), (6, [])] ?_ ?_ ?_ 3 ?_
              · rintro old f l a wz ⟨s3, r4, b6, hf, hc4, rfl, -⟩
                rcases s3 with _ | _ <;> rcases r4 with _ | _ <;> rcases b6 with _ | _ <;> first | (exfalso; simp at hc4; done) | (exfalso; simp at hf; done) | (exfalso; simp at hf; omega) | kernel_rfl
              · rintro old f l a wz ⟨s3, r4, b6, hf, hc4, rfl, rfl, hlt9, hS, hR⟩ jp hjp hn hq
                simp only [List.mem_cons, List.not_mem_nil, or_false] at hjp
                rcases hjp with rfl | rfl | rfl
                · obtain rfl : s3 = none := by clear hS hR hf hq hc4; cases s3 <;> first | rfl | exact absurd (show (false : Bool) = true from hn.symm.trans (by kernel_rfl)) (by decide)
                  obtain rfl : r4 = none := by clear hn hq hf hS hR; cases r4 <;> simp_all
                  clear hn hq hR
                  have hs9 := (hS rfl).1
                  refine wpOp_of rfl rfl (fun K hK => ?_)
                  simp only [List.getElem_toArray, List.getElem_cons_zero, List.getElem_cons_succ, Act.put, List.setIfInBounds_toArray, List.set_cons_succ, List.set_cons_zero, List.getElem_toArray]
                  refine wp_fn (f := 41) (xs := #[.string r.p, .int .i64 1]) (by first | (go_simp; done) | (go_simp; rfl)) ((some6_any r.p (by omega) 1 1 rfl (by omega) wz).mono ?_)
                  rintro e wy ⟨⟨As, cs, rfl, hos⟩, hbs⟩
                  have hlt8 := hlt9.kt (Kt.fresh hbs (Nat.le_refl _)) (by decide)
                  refine ⟨_, rfl, hK _ _ ⟨fun _ _ => ⟨hlt8.ls.cell (j := 0) rfl, hlt8.ls.cell (j := 2) rfl⟩, some (As, cs), none, b6, ?_, (fun h9 => rfl), ?_, ?_, hlt8, (fun _ => ⟨hs9.below hbs, fun q e => (by injection e with e; subst e; exact hos.sl)⟩), fun q e => (by cases e)⟩⟩
                  · simp at hf ⊢; omega
                  · kernel_rfl
                  · kernel_rfl
                · obtain rfl : r4 = none := by clear hS hR hf hq hc4; cases r4 <;> first | rfl | exact absurd (show (false : Bool) = true from hn.symm.trans (by kernel_rfl)) (by decide)
                  obtain ⟨⟨As, cs⟩, rfl⟩ : ∃ v, s3 = some v := by clear hS hR hf hn hc4; cases s3 <;> first | exact ⟨_, rfl⟩ | exact absurd (show (true : Bool) = false from hq.symm.trans (by kernel_rfl)) (by decide)
                  clear hn hq hR
                  have hs9 := (hS rfl).1
                  have hsl := (hS rfl).2 _ rfl
                  refine wpOp_of rfl rfl (fun K hK => ?_)
                  simp only [List.getElem_toArray, List.getElem_cons_zero, List.getElem_cons_succ, Act.put, List.setIfInBounds_toArray, List.set_cons_succ, List.set_cons_zero, List.getElem_toArray]
                  refine hs9.app (.tmp 98) (.tmp 101) rfl rfl rfl hsl (by omega) ?_
                  intro A6 c6 w6 hst hcl hkt
                  have hlt8 := hlt9.kt hkt (by decide)
                  refine hK _ _ ⟨fun _ _ => ⟨hlt8.ls.cell (j := 0) rfl, hlt8.ls.cell (j := 2) rfl⟩, some (As, cs), some (A6, c6), b6, ?_, (fun h9 => rfl), ?_, ?_, hlt8, (fun e => by cases e), fun q e => (by injection e with e; subst e; exact ⟨hst, hcl⟩)⟩
                  · simp at hf ⊢; omega
                  · kernel_rfl
                  · kernel_rfl
                · obtain rfl : b6 = none := by clear hS hR hf hq hc4; cases b6 <;> first | rfl | exact absurd (show (false : Bool) = true from hn.symm.trans (by kernel_rfl)) (by decide)
                  clear hn hq
                  refine wpOp_of rfl rfl (fun K hK => ?_)
                  simp only [List.getElem_toArray, List.getElem_cons_zero, List.getElem_cons_succ, Act.put, List.setIfInBounds_toArray, List.set_cons_succ, List.set_cons_zero, List.getElem_toArray]
                  refine wp_oneB (.tmp 103) rfl _ rfl ?_
                  have hba : Below wz.heap.size wz (wz.alloc (.cells #[.int .u8 ((0 : Nat) : Int)] 5)) := (Below.refl _ _).alloc (Nat.le_refl _) _
                  have hlt8 := hlt9.kt (Kt.fresh hba (Nat.le_refl _)) (by decide)
                  refine hK _ _ ⟨fun _ _ => ⟨hlt8.ls.cell (j := 0) rfl, hlt8.ls.cell (j := 2) rfl⟩, s3, r4, some wz.heap.size, ?_, hc4, ?_, ?_, hlt8, (fun e => ⟨(hS e).1.made, fun q e2 => ((hS e).2 q e2).below hba |>.more hba.size⟩), fun q e => ⟨(hR q e).1.below hba, fun g e2 => (by injection e2 with e2; subst e2; have := (Lies.new wz [.int .u8 ((0 : Nat) : Int)] 5).cell (j := 0) rfl; exact this)⟩⟩
                  · simp at hf ⊢; omega
                  · kernel_rfl
                  · kernel_rfl
              · rintro old l a wz ⟨s3, r4, b6, hf, hc4, rfl, rfl, hlt9, hS, hR⟩
                obtain ⟨⟨As, cs⟩, rfl⟩ := some_is (o := s3) (by omega)
                obtain ⟨⟨A6, c6⟩, rfl⟩ := some_is (o := r4) (by omega)
                obtain ⟨g9, rfl⟩ := some_is (o := b6) (by omega)
                simp only [List.getElem_toArray, List.getElem_cons_zero, List.getElem_cons_succ, Act.put, List.setIfInBounds_toArray, List.set_cons_succ, List.set_cons_zero, List.getElem_toArray, slV, ptS, Option.isSome_some]
                have S6 := Lib.hid (hR _ rfl).1
                have C9 := Lib.hid ((hR _ rfl).2 g9 rfl)
                have Lt9 := Lib.hid hlt9
                clear hS hR hf hc4 hlt9
                dsimp only at S6
                refine wpBk_one (i := 7) rfl rfl (by kernel_rfl) (fun K hK => ?_)
                refine S6.out.app (.tmp 102) (.tmp 104) rfl rfl rfl (slb_one (by omega) C9.out) (by omega) ?_
                intro A13 c13 wp13 hst hkt
                have St13 := Lib.hid hst
                have Lt13_T : Hid (Lt wp13 T 71 3 [.string r.p, .bool false, .string r.t]) := Lib.hid (Lt9.out.kt hkt (by decide))
                clear hst hkt S6 Lt9
                refine hK _ _ ⟨fun _ _ => ⟨Lt13_T.out.ls.cell (j := 0) rfl, Lt13_T.out.ls.cell (j := 2) rfl⟩, ?_⟩
                simp only [List.getElem_toArray, List.getElem_cons_zero, List.getElem_cons_succ, Act.put, List.setIfInBounds_toArray, List.set_cons_succ, List.set_cons_zero]
                refine wpBk_one (i := 10) rfl rfl (by kernel_rfl) (fun K hK => ?_)
                refine wp_fn (f := 41) (xs := #[.string r.t, .int .i64 2]) (by first | (go_simp; done) | (go_simp; rfl)) ((some6_any r.t (by omega) 2 2 rfl (by omega) wp13).mono ?_)
                rintro e ws14 ⟨⟨As14, cs14, rfl, hos⟩, hbs⟩
                have SLs14 := Lib.hid hos.sl
                have St15 := Lib.hid (St13.out.below hbs)
                have Lt15_T : Hid (Lt ws14 T 71 3 [.string r.p, .bool false, .string r.t]) := Lib.hid (Lt13_T.out.kt (Kt.fresh hbs (Nat.le_refl _)) (by decide))
                clear St13 Lt13_T
                clear hos hbs
                refine ⟨_, rfl, hK _ _ ⟨fun _ _ => ⟨Lt15_T.out.ls.cell (j := 0) rfl, Lt15_T.out.ls.cell (j := 2) rfl⟩, ?_⟩⟩
                simp only [List.getElem_toArray, List.getElem_cons_zero, List.getElem_cons_succ, Act.put, List.setIfInBounds_toArray, List.set_cons_succ, List.set_cons_zero]
                refine wpBk_one (i := 11) rfl rfl (by kernel_rfl) (fun K hK => ?_)
                refine St15.out.app (.tmp 105) (.tmp 108) rfl rfl rfl (SLs14.out) (by omega) ?_
                intro A16 c16 wp16 hst hkt
                have St16 := Lib.hid hst
                have Lt16_T : Hid (Lt wp16 T 71 3 [.string r.p, .bool false, .string r.t]) := Lib.hid (Lt15_T.out.kt hkt (by decide))
                clear hst hkt St15 Lt15_T
                refine hK _ _ ⟨fun _ _ => ⟨Lt16_T.out.ls.cell (j := 0) rfl, Lt16_T.out.ls.cell (j := 2) rfl⟩, ?_⟩
                simp only [List.getElem_toArray, List.getElem_cons_zero, List.getElem_cons_succ, Act.put, List.setIfInBounds_toArray, List.set_cons_succ, List.set_cons_zero]
                refine bk_drop 12 1 rfl (by omega) (by kernel_rfl) ?_
                simp only [List.drop_succ_cons, List.drop_zero]
                go_wp2_with fail
                refine NoPanic.normal ?_
                go_wp2_with fail
                go_roundw
                case rel =>
                  refine ⟨j + 1, A16, _, c16, by omega, by go_num, rfl, by omega, Lib.hid ?_⟩
                  have h9 := St16.out
                  rw [be1 _ (by omega)] at h9
                  rw [HST.out, show chB r = [UInt8.ofNat r.p.size] ++ strB r.p ++ [if r.is then 1 else 0] ++ S3.be 2 r.t.size ++ strB r.t from rfl, HQI.out, show (if (false : Bool) = true then (1 : UInt8) else 0) = UInt8.ofNat 0 from rfl]
                  simpa only [List.append_assoc] using h9
                case measure => simp [intOf]; omega
              exact ⟨none, none, none, rfl, (fun h9 => by cases h9), by kernel_rfl, by kernel_rfl, Lt12_T.out, (fun _ => ⟨⟨St12.out, fun g e => (by cases e)⟩, fun q e => (by cases e)⟩), fun q e => (by cases e)⟩
            · go_upto_region 27 with fail
              (try rw [HW5.out])
              (try rw [hT])
              clear t1 r0 r1 r2 HW5
              obtain ⟨wd17, hwd⟩ : ∃ wd, w5.drew = wd := ⟨_, rfl⟩
              have BDz : Below w5.heap.size w5 wd17 := by rw [← hwd]; exact (Below.refl _ _).drew
              have St18 := Lib.hid (Sx0.out.below BDz)
              have Lt18_T : Hid (Lt wd17 T 71 3 [.string r.p, .bool true, .string r.t]) := Lib.hid (Lt0.out.kt (Kt.fresh BDz (Nat.le_refl _)) (by decide))
              clear Sx0 Lt0
              refine wp_region_noPanic (wp_region_any (by kernel_rfl) (wpAny_of_bk (S := (fun w' => w'.cell? ⟨T, 0, none⟩ = some (.string r.p) ∧ w'.cell? ⟨T, 2, none⟩ = some (.string r.t))) (m := 12) _ _ _ _ ?_))
              show wpBk _ _ _ _ _ _ 13 _ _ w5.drew
              rw [hwd]
              clear hwd BDz
              refine wpBk_takeP (i := 0) rfl (by kernel_rfl) (fun _ _ _ _ h => h) (.inl ⟨rfl, fun w' hw' => (by clear hw'; go_simp; (try rfl))⟩) ?_
              simp only [List.getElem_toArray, List.getElem_cons_zero, List.getElem_cons_succ, Act.put, List.setIfInBounds_toArray, List.set_cons_succ, List.set_cons_zero]
              refine wpBk_takeP (i := 1) rfl (by kernel_rfl) (fun _ _ _ _ h => h) (.inl ⟨rfl, fun w' hw' => (by clear hw'; go_simp; (try rfl))⟩) ?_
              simp only [List.getElem_toArray, List.getElem_cons_zero, List.getElem_cons_succ, Act.put, List.setIfInBounds_toArray, List.set_cons_succ, List.set_cons_zero]
              refine wpBk_take (i := 2) rfl (by kernel_rfl) (fun _ _ _ _ h => h) (.inl ⟨rfl, fun w' hw' => (by have q0 := hw'.1; have q1 := hw'.2; clear hw'; go_simp; (try rfl))⟩) ⟨Lt18_T.out.ls.cell (j := 0) rfl, Lt18_T.out.ls.cell (j := 2) rfl⟩ ?_
              simp only [List.getElem_toArray, List.getElem_cons_zero, List.getElem_cons_succ, Act.put, List.setIfInBounds_toArray, List.set_cons_succ, List.set_cons_zero]
              refine wpBk_takeP (i := 5) rfl (by kernel_rfl) (fun _ _ _ _ h => h) (.inl ⟨rfl, fun w' hw' => (by clear hw'; go_simp; (try rfl))⟩) ?_
              simp only [List.getElem_toArray, List.getElem_cons_zero, List.getElem_cons_succ, Act.put, List.setIfInBounds_toArray, List.set_cons_succ, List.set_cons_zero]
              refine wpBk_takeP (i := 8) rfl (by kernel_rfl) (fun _ _ _ _ h => h) (.inl ⟨rfl, fun w' hw' => (by clear hw'; go_simp; (try rfl))⟩) ?_
              simp only [List.getElem_toArray, List.getElem_cons_zero, List.getElem_cons_succ, Act.put, List.setIfInBounds_toArray, List.set_cons_succ, List.set_cons_zero]
              refine wpBk_take (i := 9) rfl (by kernel_rfl) (fun _ _ _ _ h => h) (.inl ⟨rfl, fun w' hw' => (by have q0 := hw'.1; have q1 := hw'.2; clear hw'; go_simp; (try rfl))⟩) ⟨Lt18_T.out.ls.cell (j := 0) rfl, Lt18_T.out.ls.cell (j := 2) rfl⟩ ?_
              simp only [List.getElem_toArray, List.getElem_cons_zero, List.getElem_cons_succ, Act.put, List.setIfInBounds_toArray, List.set_cons_succ, List.set_cons_zero]
              refine wpBk_free (fun old a0 l0 f l a w' => ∃ (s3 r4 : Option (Option Addr × Nat)) (b6 : Option Nat), f = 4 + (s3.isNone.toNat + (r4.isNone.toNat + b6.isNone.toNat)) ∧ (r4.isSome = true → s3.isSome = true) ∧ l = ((l0.setIfInBounds 3 s3.isSome).setIfInBounds 4 r4.isSome).setIfInBounds 6 b6.isSome ∧ a = { tmps := ((a0.tmps.setIfInBounds 101 (slV (old 101) (1 + r.p.size) s3)).setIfInBounds 102 (slV (old 102) (n + (1 + r.p.size)) r4)).setIfInBounds 104 (ptS (old 104) b6), defers := a0.defers } ∧ Lt w' T 71 3 [.string r.p, .bool true, .string r.t] ∧ (r4 = none → Sb w1 A n c (L6 ++ (x.es.take j).flatMap chB) 1 b6 w' ∧ ∀ q, s3 = some q → S3.SlB w' w'.heap.size q.1 (1 + r.p.size) q.2 (S3.be 1 r.p.size ++ strB r.p)) ∧ (∀ q, r4 = some q → St6 w1 q.1 (n + (1 + r.p.size)) q.2 ((L6 ++ (x.es.take j).flatMap chB) ++ (S3.be 1 r.p.size ++ strB r.p)) w' ∧ ∀ g, b6 = some g → w'.cell? ⟨g, 0, none⟩ = some (.int .u8 ((1 : Nat) : Int)))) 4 [(3, []), (4, [3]), (6, [])] ?_ ?_ ?_ 3 ?_
              · rintro old f l a wz ⟨s3, r4, b6, hf, hc4, rfl, -⟩
                rcases s3 with _ | _ <;> rcases r4 with _ | _ <;> rcases b6 with _ | _ <;> first | (exfalso; simp at hc4; done) | (exfalso; simp at hf; done) | (exfalso; simp at hf; omega) | kernel_rfl
              · rintro old f l a wz ⟨s3, r4, b6, hf, hc4, rfl, rfl, hlt9, hS, hR⟩ jp hjp hn hq
                simp only [List.mem_cons, List.not_mem_nil, or_false] at hjp
                rcases hjp with rfl | rfl | rfl
                · obtain rfl : s3 = none := by clear hS hR hf hq hc4; cases s3 <;> first | rfl | exact absurd (show (false : Bool) = true from hn.symm.trans (by kernel_rfl)) (by decide)
                  obtain rfl : r4 = none := by clear hn hq hf hS hR; cases r4 <;> simp_all
                  clear hn hq hR
                  have hs9 := (hS rfl).1
                  refine wpOp_of rfl rfl (fun K hK => ?_)
                  simp only [List.getElem_toArray, List.getElem_cons_zero, List.getElem_cons_succ, Act.put, List.setIfInBounds_toArray, List.set_cons_succ, List.set_cons_zero, List.getElem_toArray]
                  refine wp_fn (f := 41) (xs := #[.string r.p, .int .i64 1]) (by first | (go_simp; done) | (go_simp; rfl)) ((some6_any r.p (by omega) 1 1 rfl (by omega) wz).mono ?_)
                  rintro e wy ⟨⟨As, cs, rfl, hos⟩, hbs⟩
                  have hlt8 := hlt9.kt (Kt.fresh hbs (Nat.le_refl _)) (by decide)
                  refine ⟨_, rfl, hK _ _ ⟨fun _ _ => ⟨hlt8.ls.cell (j := 0) rfl, hlt8.ls.cell (j := 2) rfl⟩, some (As, cs), none, b6, ?_, (fun h9 => rfl), ?_, ?_, hlt8, (fun _ => ⟨hs9.below hbs, fun q e => (by injection e with e; subst e; exact hos.sl)⟩), fun q e => (by cases e)⟩⟩
                  · simp at hf ⊢; omega
                  · kernel_rfl
                  · kernel_rfl
                · obtain rfl : r4 = none := by clear hS hR hf hq hc4; cases r4 <;> first | rfl | exact absurd (show (false : Bool) = true from hn.symm.trans (by kernel_rfl)) (by decide)
                  obtain ⟨⟨As, cs⟩, rfl⟩ : ∃ v, s3 = some v := by clear hS hR hf hn hc4; cases s3 <;> first | exact ⟨_, rfl⟩ | exact absurd (show (true : Bool) = false from hq.symm.trans (by kernel_rfl)) (by decide)
                  clear hn hq hR
                  have hs9 := (hS rfl).1
                  have hsl := (hS rfl).2 _ rfl
                  refine wpOp_of rfl rfl (fun K hK => ?_)
                  simp only [List.getElem_toArray, List.getElem_cons_zero, List.getElem_cons_succ, Act.put, List.setIfInBounds_toArray, List.set_cons_succ, List.set_cons_zero, List.getElem_toArray]
                  refine hs9.app (.tmp 98) (.tmp 101) rfl rfl rfl hsl (by omega) ?_
                  intro A6 c6 w6 hst hcl hkt
                  have hlt8 := hlt9.kt hkt (by decide)
                  refine hK _ _ ⟨fun _ _ => ⟨hlt8.ls.cell (j := 0) rfl, hlt8.ls.cell (j := 2) rfl⟩, some (As, cs), some (A6, c6), b6, ?_, (fun h9 => rfl), ?_, ?_, hlt8, (fun e => by cases e), fun q e => (by injection e with e; subst e; exact ⟨hst, hcl⟩)⟩
                  · simp at hf ⊢; omega
                  · kernel_rfl
                  · kernel_rfl
                · obtain rfl : b6 = none := by clear hS hR hf hq hc4; cases b6 <;> first | rfl | exact absurd (show (false : Bool) = true from hn.symm.trans (by kernel_rfl)) (by decide)
                  clear hn hq
                  refine wpOp_of rfl rfl (fun K hK => ?_)
                  simp only [List.getElem_toArray, List.getElem_cons_zero, List.getElem_cons_succ, Act.put, List.setIfInBounds_toArray, List.set_cons_succ, List.set_cons_zero, List.getElem_toArray]
                  refine wp_oneB (.tmp 103) rfl _ rfl ?_
                  have hba : Below wz.heap.size wz (wz.alloc (.cells #[.int .u8 ((1 : Nat) : Int)] 5)) := (Below.refl _ _).alloc (Nat.le_refl _) _
                  have hlt8 := hlt9.kt (Kt.fresh hba (Nat.le_refl _)) (by decide)
                  refine hK _ _ ⟨fun _ _ => ⟨hlt8.ls.cell (j := 0) rfl, hlt8.ls.cell (j := 2) rfl⟩, s3, r4, some wz.heap.size, ?_, hc4, ?_, ?_, hlt8, (fun e => ⟨(hS e).1.made, fun q e2 => ((hS e).2 q e2).below hba |>.more hba.size⟩), fun q e => ⟨(hR q e).1.below hba, fun g e2 => (by injection e2 with e2; subst e2; have := (Lies.new wz [.int .u8 ((1 : Nat) : Int)] 5).cell (j := 0) rfl; exact this)⟩⟩
                  · simp at hf ⊢; omega
                  · kernel_rfl
                  · kernel_rfl
              · rintro old l a wz ⟨s3, r4, b6, hf, hc4, rfl, rfl, hlt9, hS, hR⟩
                obtain ⟨⟨As, cs⟩, rfl⟩ := some_is (o := s3) (by omega)
                obtain ⟨⟨A6, c6⟩, rfl⟩ := some_is (o := r4) (by omega)
                obtain ⟨g9, rfl⟩ := some_is (o := b6) (by omega)
                simp only [List.getElem_toArray, List.getElem_cons_zero, List.getElem_cons_succ, Act.put, List.setIfInBounds_toArray, List.set_cons_succ, List.set_cons_zero, List.getElem_toArray, slV, ptS, Option.isSome_some]
                have S6 := Lib.hid (hR _ rfl).1
                have C9 := Lib.hid ((hR _ rfl).2 g9 rfl)
                have Lt9 := Lib.hid hlt9
                clear hS hR hf hc4 hlt9
                dsimp only at S6
                refine wpBk_one (i := 7) rfl rfl (by kernel_rfl) (fun K hK => ?_)
                refine S6.out.app (.tmp 102) (.tmp 104) rfl rfl rfl (slb_one (by omega) C9.out) (by omega) ?_
                intro A19 c19 wp19 hst hkt
                have St19 := Lib.hid hst
                have Lt19_T : Hid (Lt wp19 T 71 3 [.string r.p, .bool true, .string r.t]) := Lib.hid (Lt9.out.kt hkt (by decide))
                clear hst hkt S6 Lt9
                refine hK _ _ ⟨fun _ _ => ⟨Lt19_T.out.ls.cell (j := 0) rfl, Lt19_T.out.ls.cell (j := 2) rfl⟩, ?_⟩
                simp only [List.getElem_toArray, List.getElem_cons_zero, List.getElem_cons_succ, Act.put, List.setIfInBounds_toArray, List.set_cons_succ, List.set_cons_zero]
                refine wpBk_one (i := 10) rfl rfl (by kernel_rfl) (fun K hK => ?_)
                refine wp_fn (f := 41) (xs := #[.string r.t, .int .i64 2]) (by first | (go_simp; done) | (go_simp; rfl)) ((some6_any r.t (by omega) 2 2 rfl (by omega) wp19).mono ?_)
                rintro e ws20 ⟨⟨As20, cs20, rfl, hos⟩, hbs⟩
                have SLs20 := Lib.hid hos.sl
                have St21 := Lib.hid (St19.out.below hbs)
                have Lt21_T : Hid (Lt ws20 T 71 3 [.string r.p, .bool true, .string r.t]) := Lib.hid (Lt19_T.out.kt (Kt.fresh hbs (Nat.le_refl _)) (by decide))
                clear St19 Lt19_T
                clear hos hbs
                refine ⟨_, rfl, hK _ _ ⟨fun _ _ => ⟨Lt21_T.out.ls.cell (j := 0) rfl, Lt21_T.out.ls.cell (j := 2) rfl⟩, ?_⟩⟩
                simp only [List.getElem_toArray, List.getElem_cons_zero, List.getElem_cons_succ, Act.put, List.setIfInBounds_toArray, List.set_cons_succ, List.set_cons_zero]
                refine wpBk_one (i := 11) rfl rfl (by kernel_rfl) (fun K hK => ?_)
                refine St21.out.app (.tmp 105) (.tmp 108) rfl rfl rfl (SLs20.out) (by omega) ?_
                intro A22 c22 wp22 hst hkt
                have St22 := Lib.hid hst
                have Lt22_T : Hid (Lt wp22 T 71 3 [.string r.p, .bool true, .string r.t]) := Lib.hid (Lt21_T.out.kt hkt (by decide))
                clear hst hkt St21 Lt21_T
                refine hK _ _ ⟨fun _ _ => ⟨Lt22_T.out.ls.cell (j := 0) rfl, Lt22_T.out.ls.cell (j := 2) rfl⟩, ?_⟩
                simp only [List.getElem_toArray, List.getElem_cons_zero, List.getElem_cons_succ, Act.put, List.setIfInBounds_toArray, List.set_cons_succ, List.set_cons_zero]
                refine bk_drop 12 1 rfl (by omega) (by kernel_rfl) ?_
                simp only [List.drop_succ_cons, List.drop_zero]
                go_wp2_with fail
                refine NoPanic.normal ?_
                go_wp2_with fail
                go_roundw
                case rel =>
                  refine ⟨j + 1, A22, _, c22, by omega, by go_num, rfl, by omega, Lib.hid ?_⟩
                  have h9 := St22.out
                  rw [be1 _ (by omega)] at h9
                  rw [HST.out, show chB r = [UInt8.ofNat r.p.size] ++ strB r.p ++ [if r.is then 1 else 0] ++ S3.be 2 r.t.size ++ strB r.t from rfl, HQI.out, show (if (true : Bool) = true then (1 : UInt8) else 0) = UInt8.ofNat 1 from rfl]
                  simpa only [List.append_assoc] using h9
                case measure => simp [intOf]; omega
              exact ⟨none, none, none, rfl, (fun h9 => by cases h9), by kernel_rfl, by kernel_rfl, Lt18_T.out, (fun _ => ⟨⟨St18.out, fun g e => (by cases e)⟩, fun q e => (by cases e)⟩), fun q e => (by cases e)⟩
          · have hd : decide ((j : Int) < (nE : Int)) = false := by simp; omega
            have hn10 : n ≤ 10000 := by omega
            obtain ⟨L8, hL8⟩ : ∃ L, L6 ++ x.es.flatMap chB = L := ⟨_, rfl⟩
            obtain ⟨wp, hwp⟩ : ∃ wo : World, wo = wr := ⟨_, rfl⟩
            have S8 : Hid (St6 w1 A n c L8 wp) := Lib.hid (by rw [hwp, ← hL8]; have h9 := hlo.out; rwa [List.take_of_length_le (by rw [HLL.out.2.2]; omega)] at h9)
            have HL8 := Lib.hid hL8
            rw [← hwp]
            clear hwp hlo hL8 hn2
            go_upto_region 29 with fail
            clear hd hj hlt2
            obtain ⟨wd23, hwd⟩ : ∃ wd, wp.drew = wd := ⟨_, rfl⟩
            have BDz : Below wp.heap.size wp wd23 := by rw [← hwd]; exact (Below.refl _ _).drew
            have St24 := Lib.hid (S8.out.below BDz)
            clear S8
            refine wp_region_noPanic (wp_region_any (by kernel_rfl) (wpAny_of_bk (S := (fun w' => Below w1.heap.size w1 w')) (m := 11) _ _ _ _ ?_))
            show wpBk _ _ _ _ _ _ 12 _ _ wp.drew
            rw [hwd]
            clear hwd BDz
            refine wpBk_takeP (i := 0) rfl (by kernel_rfl) (fun _ _ _ _ h => h) (.inl ⟨rfl, fun w' hw' => (by clear hw'; go_simp; (try rfl))⟩) ?_
            simp only [List.getElem_toArray, List.getElem_cons_zero, List.getElem_cons_succ, Act.put, List.setIfInBounds_toArray, List.set_cons_succ, List.set_cons_zero]
            refine wpBk_takeP (i := 1) rfl (by kernel_rfl) (fun _ _ _ _ h => h) (.inl ⟨rfl, fun w' hw' => (by clear hw'; go_simp; (try rfl))⟩) ?_
            simp only [List.getElem_toArray, List.getElem_cons_zero, List.getElem_cons_succ, Act.put, List.setIfInBounds_toArray, List.set_cons_succ, List.set_cons_zero]
            refine wpBk_take (i := 2) rfl (by kernel_rfl) (fun _ _ _ _ h => h) (.inl ⟨rfl, fun w' hw' => (by obtain ⟨a0, a1, a2, a3, -, -, a6, a7, a8, a9, a10⟩ := HB.out.facts hw'; clear hw'; go_simp; (try rfl))⟩) St24.out.b ?_
            simp only [List.getElem_toArray, List.getElem_cons_zero, List.getElem_cons_succ, Act.put, List.setIfInBounds_toArray, List.set_cons_succ, List.set_cons_zero]
            refine wpBk_takeP (i := 3) rfl (by kernel_rfl) (fun _ _ _ _ h => h) (.inl ⟨rfl, fun w' hw' => (by clear hw'; go_simp; (try rfl))⟩) ?_
            simp only [List.getElem_toArray, List.getElem_cons_zero, List.getElem_cons_succ, Act.put, List.setIfInBounds_toArray, List.set_cons_succ, List.set_cons_zero]
            refine wpBk_takeP (i := 6) rfl (by kernel_rfl) (fun _ _ _ _ h => h) (.inl ⟨rfl, fun w' hw' => (by clear hw'; go_simp; (try rfl))⟩) ?_
            simp only [List.getElem_toArray, List.getElem_cons_zero, List.getElem_cons_succ, Act.put, List.setIfInBounds_toArray, List.set_cons_succ, List.set_cons_zero]
            refine wpBk_take (i := 7) rfl (by kernel_rfl) (fun _ _ _ _ h => h) (.inl ⟨rfl, fun w' hw' => (by obtain ⟨a0, a1, a2, a3, -, -, a6, a7, a8, a9, a10⟩ := HB.out.facts hw'; clear hw'; go_simp; (try rfl))⟩) St24.out.b ?_
            simp only [List.getElem_toArray, List.getElem_cons_zero, List.getElem_cons_succ, Act.put, List.setIfInBounds_toArray, List.set_cons_succ, List.set_cons_zero]
            refine wpBk_takeP (i := 8) rfl (by kernel_rfl) (fun _ _ _ _ h => h) (.inl ⟨rfl, fun w' hw' => (by clear hw'; go_simp; (try rfl))⟩) ?_
            simp only [List.getElem_toArray, List.getElem_cons_zero, List.getElem_cons_succ, Act.put, List.setIfInBounds_toArray, List.set_cons_succ, List.set_cons_zero]
            refine wpBk_one (i := 4) rfl rfl (by kernel_rfl) (fun K hK => ?_)
            refine wp_fn (f := 42) (xs := #[.int .u64 (x.num : Int), .int .i64 4]) (by first | (go_simp; done) | (go_simp; rfl)) ((S3.high_any 4 x.num _ _ wd23 rfl (by omega) rfl (by omega)).mono ?_)
            rintro e wh25 ⟨As25, cs25, rfl, hos, hbs⟩
            have hos2 : OwnB wh25 wd23.heap.size As25 4 cs25 (S3.be 4 x.num) := hos
            have SLs25 := Lib.hid hos2.sl
            have St26 := Lib.hid (St24.out.below hbs)
            clear St24
            clear hos hos2 hbs
            refine ⟨_, rfl, hK _ _ ⟨fun _ _ => St26.out.b, ?_⟩⟩
            simp only [List.getElem_toArray, List.getElem_cons_zero, List.getElem_cons_succ, Act.put, List.setIfInBounds_toArray, List.set_cons_succ, List.set_cons_zero]
            refine wpBk_one (i := 5) rfl rfl (by kernel_rfl) (fun K hK => ?_)
            refine St26.out.app (.tmp 111) (.tmp 115) rfl rfl rfl (SLs25.out) (by omega) ?_
            intro A27 c27 wp27 hst hkt
            have St27 := Lib.hid hst
            clear hst hkt St26
            refine hK _ _ ⟨fun _ _ => St27.out.b, ?_⟩
            simp only [List.getElem_toArray, List.getElem_cons_zero, List.getElem_cons_succ, Act.put, List.setIfInBounds_toArray, List.set_cons_succ, List.set_cons_zero]
            refine wpBk_one (i := 9) rfl rfl (by kernel_rfl) (fun K hK => ?_)
            refine wp_fn (f := 42) (xs := #[.int .u64 (x.auth : Int), .int .i64 4]) (by first | (go_simp; done) | (go_simp; rfl)) ((S3.high_any 4 x.auth _ _ wp27 rfl (by omega) rfl (by omega)).mono ?_)
            rintro e wh28 ⟨As28, cs28, rfl, hos, hbs⟩
            have hos2 : OwnB wh28 wp27.heap.size As28 4 cs28 (S3.be 4 x.auth) := hos
            have SLs28 := Lib.hid hos2.sl
            have St29 := Lib.hid (St27.out.below hbs)
            clear St27
            clear hos hos2 hbs
            refine ⟨_, rfl, hK _ _ ⟨fun _ _ => St29.out.b, ?_⟩⟩
            simp only [List.getElem_toArray, List.getElem_cons_zero, List.getElem_cons_succ, Act.put, List.setIfInBounds_toArray, List.set_cons_succ, List.set_cons_zero]
            refine wpBk_one (i := 10) rfl rfl (by kernel_rfl) (fun K hK => ?_)
            refine St29.out.app (.tmp 116) (.tmp 120) rfl rfl rfl (SLs28.out) (by omega) ?_
            intro A30 c30 wp30 hst hkt
            have St30 := Lib.hid hst
            clear hst hkt St29
            refine hK _ _ ⟨fun _ _ => St30.out.b, ?_⟩
            simp only [List.getElem_toArray, List.getElem_cons_zero, List.getElem_cons_succ, Act.put, List.setIfInBounds_toArray, List.set_cons_succ, List.set_cons_zero]
            refine bk_drop 11 1 rfl (by omega) (by kernel_rfl) ?_
            simp only [List.drop_succ_cons, List.drop_zero]
            go_wp2_with fail
            refine NoPanic.normal ?_
            obtain ⟨-, -, -, -, -, -, -, -, -, -, a10⟩ := HB.out.facts St30.out.b
            go_wp2_with fail
            refine (some6_any x.note (by omega) 1 1 rfl (by omega) wp30).mono ?_
            rintro e wx ⟨⟨As, cs, rfl, hos⟩, hbx⟩
            dsimp only
            have SLx := Lib.hid hos.sl
            have Sx := Lib.hid (St30.out.below hbx)
            clear hos hbx a10
            go_wp2_with (first
              | (at_builtin; refine wpList_plain rfl fun KK hKK => Sx.out.app (.tmp 122) (.tmp 125) rfl rfl rfl SLx.out (by omega) ?_; intro Az cz wz hst hkt; have SZ := Lib.hid hst; clear hst hkt; refine hKK _ _ ?_)
              | fail)
            go_ret
            refine ⟨⟨Az, _, cz, rfl, ?_⟩, B1.out.trans (SZ.out.b.mono B1.out.size)⟩
            have h9 := own_base SZ.out.o B1.out.size
            rw [be1 _ (by omega), ← HL8.out, ← HL6.out, ← HL5.out, ← HL4.out] at h9
            rw [HBW.out]
            show World.ownsRow _ _ _ _ _ _ (S3.bvs _)
            simpa only [List.append_assoc] using h9
      exact ⟨none, none, rfl, by kernel_rfl, by kernel_rfl, (fun _ => ⟨St9.out, fun g e => (by cases e)⟩), fun q e => (by cases e)⟩
end Go.Proofs.YtcofkhmgmemkmaaGreatDoor
