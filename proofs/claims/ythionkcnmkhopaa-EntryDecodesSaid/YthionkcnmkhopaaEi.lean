/-
  COMMANDS: the reference's bytes.
-/
import Derived.Test.YthionkcnmkhopaaEh
import Derived.Lib.ConvBytes
namespace Go.Proofs.Ythionkcnmkhopaa
set_option linter.unusedVariables false
set_option linter.unusedSimpArgs false
open Go.RowKit Go.WideShapes Go.ChangeShapes Go.Deep
attribute [local irreducible] wpQuiet

theorem wp_fn {P : Program} {o : Oper} {a : Act} {w : World} {K : Act → World → Prop} {Q : Exit → Act → World → Prop} {f : FuncId} {xs : Array Value} (hr : (execOp a.eval o).run P w = .ok (.enter f xs) w)
    (h : Calls P f xs w fun e w' => ∃ v, e = .returned v ∧ K (a.put o.dst v) w') : o.wp P a w K Q := by
  unfold Oper.wp
  rw [hr, Oper.upon_enter]
  refine h.mono ?_
  rintro e w' ⟨v, rfl, hk⟩
  exact hk
theorem wp_valw {P : Program} {o : Oper} {a : Act} {w w' : World} {K : Act → World → Prop} {Q : Exit → Act → World → Prop} {v : Value} (hr : (execOp a.eval o).run P w = .ok (.value v) w') (h : K (a.put o.dst v) w') : o.wp P a w K Q := by
  unfold Oper.wp
  rw [hr]
  exact h
theorem conv_str (W : World) (s : ByteArray) (hs : s.size ≤ 1000000) : ∃ C W', (convert 9 25 (.string s)).run Try.prog W = .ok (.slice (some ⟨W.heap.size, 0, none⟩) s.size C) W' ∧ Below W.heap.size W W' ∧ SlB W' W'.heap.size (some ⟨W.heap.size, 0, none⟩) s.size C (strB s) := by
  refine ⟨_, _, Lib.run_convert_string_bytes W 9 25 5 s Try.underlying9 Try.underlying25 Try.underlying5, ⟨rfl, rfl, rfl, by rw [Lib.bytesWorld_size]; omega, fun k hk => Lib.bytesWorld_at_old W _ s k hk⟩, strB_len s, grownCap_ge _ _ _ _, grownCap_le_maxLen _ _ _ _ (by unfold maxLen; omega), (fun e => by cases e), fun _ => ⟨_, 0, rfl, by rw [Lib.bytesWorld_size]; omega, fun j hj => ?_⟩⟩
  have hj2 : j < s.size := by rw [strB_len] at hj; exact hj
  have h := Lib.bytesWorld_cell W 5 s j hj2
  rw [Nat.zero_add, h]
  unfold bv strB
  rw [List.getD_eq_getElem?_getD, List.getElem?_eq_getElem (by simpa using hj2)]
  rfl
theorem run_cs {op : Oper} {a : Act} {W W' : World} {s : ByteArray} {v : Value} (x : Operand) (ho : op.op = .convert 9 25 x) (hx : a.eval x = .string s) (h : (convert 9 25 (.string s)).run Try.prog W = .ok v W') : (execOp a.eval op).run Try.prog W = .ok (.value v) W' := by
  unfold execOp
  simp only [ho, hx, Sem.run_bind, h, Result.andThen_ok, Sem.run_pure]
theorem SlB.othr {W W' : World} {B n c k : Nat} {A : Option Addr} {l : List UInt8} (h : SlB W B A n c l) (hg : W.grownBy W' (some k)) (hB : B ≤ W.heap.size) (hn : ∀ b o, A = some ⟨b, o, none⟩ → b ≠ k) : SlB W' B A n c l := by
  refine ⟨h.len, h.cap, h.max, h.non, fun h0 => ?_⟩
  obtain ⟨b, o, rfl, hb, hc⟩ := h.pos h0
  exact ⟨b, o, rfl, hb, fun j hj => (World.cell?_of_block (hg.block b (by omega) (by have := hn b o rfl; simpa using this))).trans (hc j hj)⟩
theorem SlB.othn {W W' : World} {B n c : Nat} {r : Option Nat} {A : Option Addr} {l : List UInt8} (h : SlB W B A n c l) (hg : W.grownBy W' r) (hB : B ≤ W.heap.size) (hn : ∀ b o k, A = some ⟨b, o, none⟩ → r = some k → b ≠ k) : SlB W' B A n c l := by
  refine ⟨h.len, h.cap, h.max, h.non, fun h0 => ?_⟩
  obtain ⟨b, o, rfl, hb, hc⟩ := h.pos h0
  exact ⟨b, o, rfl, hb, fun j hj => (World.cell?_of_block (hg.block b (by omega) (fun e => hn b o b rfl e.symm rfl))).trans (hc j hj)⟩
/-- One byte behind a row. -/
theorem Ky.wp1 {w W : World} {x : Cf} {A : Option Addr} {m c g : Nat} {l : List UInt8} {k : UInt8} (h : Ky w x W A m c l) (hm : m ≤ 1000000) {op : Oper} {a : Act} {K : Act → World → Prop} {Q : Exit → Act → World → Prop} (s y : Operand)
    (ho : op.op = .call { callee := .builtin .append, args := #[s, y], argTypes := #[25, 25] }) (hs : a.eval s = .slice A m c) (hy : a.eval y = .slice (some ⟨g, 0, none⟩) 1 1) (hr : SlB W W.heap.size (some ⟨g, 0, none⟩) 1 1 [k])
    (hk : ∀ A' c' W', Ky w x W' A' (m + 1) c' (l ++ [k]) → W.grownBy W' (Value.ownBlock (.slice A m c)) → K (a.put op.dst (.slice A' (m + 1) c')) W') : op.wp Try.prog a W K Q := by
  obtain ⟨i0, hi, hz, hz1, hz2⟩ := info_parts info_u8
  obtain ⟨ad, e, hc⟩ := hr.src (by omega)
  injection e with e
  subst e
  refine wp_append_own (w := W) s y 25 ho (w.heap.size + 1) 5 i0 (.int .u8 0) 1 1 Try.underlying25 hi hz hz1 hz2 rfl (by omega) (.slice A m c) m (bvs l) hs h.own _ 1 1 (bvs [k]) hy rfl hc (bvs_one _) (by unfold maxLen; omega) (by omega) h.z ?_
  intro v' w' h1 h2 _
  rw [← bvs_app] at h1
  obtain ⟨A', c', rfl, hy'⟩ := h.app h1 h2
  exact hk A' c' w' hy' h2
theorem two_byte (W : World) (k c : Nat) (hk : k < 256) (hc : c < 256) : SlB (W.alloc (.cells #[.int .u8 (k : Int), .int .u8 (c : Int)] 5)) (W.heap.size + 1) (some ⟨W.heap.size, 0, none⟩) 2 2 [UInt8.ofNat k, UInt8.ofNat c] := by
  have := lit_sl W [UInt8.ofNat k, UInt8.ofNat c] (by simp)
  rwa [show bvs [UInt8.ofNat k, UInt8.ofNat c] = [.int .u8 (k : Int), .int .u8 (c : Int)] from by rw [← byte_small hk, ← byte_small hc]; rfl] at this
theorem Kc.al {w W : World} {x : Cf} (h : Kc w x W) (o : Obj) : Kc w x (W.alloc o) := h.step ((Below.refl _ _).alloc (Nat.le_refl _) _)
theorem Ky.step {w W W' : World} {x : Cf} {A : Option Addr} {m c : Nat} {l : List UInt8} (h : Ky w x W A m c l) (hb : Below W.heap.size W W') : Ky w x W' A m c l :=
  ⟨h.k.step hb, Ow.below h.own hb (Nat.le_refl _), Nat.le_trans h.z hb.size⟩
theorem Ky.both {w W W' : World} {x : Cf} {A : Option Addr} {m c : Nat} {l : List UInt8} (k : Kc w x W) (hz : w.heap.size + 1 ≤ W.heap.size) (hb : Below W.heap.size W W') (ho : Ow W' W.heap.size A m c l) : Ky w x W' A m c l :=
  ⟨k.step hb, OwnB.base_ ho hz, Nat.le_trans hz hb.size⟩
set_option maxHeartbeats 4000000 in
set_option maxRecDepth 100000 in
theorem Bytes_any (w : World) (x : Cf) (A : Option Addr) (n c : Nat) (d : List UInt8) (hdv : x.dv = .slice A n c) (hs : SlB w w.heap.size A n c d) (hk : 0 ≤ x.kind ∧ x.kind < 256) (hc : 0 ≤ x.client ∧ x.client < 256) (hq : x.seq < 4294967296) (hb : x.branch.size < 256) (hn : n < 65536) :
    Calls Try.prog 13 #[cfV x] w fun e w' => (∃ A' m c', e = .returned (.slice A' m c') ∧ OwnB w' w.heap.size A' m c' (layC x d)) ∧ Below w.heap.size w w' := by
  obtain ⟨w1, hw1, K1⟩ := Kc.new w x
  have HW := Lib.hid hw1
  have s1 : w1.heap.size = w.heap.size + 1 := by rw [← hw1]; simp
  clear hw1
  obtain ⟨i0, hi, hz, hz1, hz2⟩ := info_parts info_u8
  obtain ⟨kk, hkk⟩ : ∃ k : Nat, x.kind = (k : Int) := ⟨x.kind.toNat, by omega⟩
  obtain ⟨cc, hcc⟩ : ∃ k : Nat, x.client = (k : Int) := ⟨x.client.toNat, by omega⟩
  have hk8 : kk < 256 := by omega
  have hc8 : cc < 256 := by omega
  have wk : IntKind.u8.wrap (kk : Int) = (kk : Int) := by rw [IntKind.wrap_u8]; omega
  have wc : IntKind.u8.wrap (cc : Int) = (cc : Int) := by rw [IntKind.wrap_u8]; omega
  have wb : IntKind.u8.wrap ((x.branch.size : Nat) : Int) = (x.branch.size : Int) := by rw [IntKind.wrap_u8]; omega
  have wq : IntKind.u64.wrap ((x.seq : Nat) : Int) = (x.seq : Int) := by rw [IntKind.wrap_u64]; omega
  have wn : IntKind.u64.wrap ((n : Nat) : Int) = (n : Int) := by rw [IntKind.wrap_u64]; omega
  have LY : Hid (layC x d = ((((((([UInt8.ofNat kk, UInt8.ofNat cc] ++ be 4 x.seq) ++ [UInt8.ofNat x.branch.size]) ++ strB x.branch) ++ x.old.b) ++ x.new.b) ++ be 2 n) ++ d)) := Lib.hid (by
    unfold layC
    rw [hkk, hcc, hs.len]
    rfl)
  have HDV := Lib.hid hdv
  have HKK := Lib.hid hkk
  have HCC := Lib.hid hcc
  have HS : Hid (∀ W, Kc w x W → SlB W W.heap.size A n c d) := Lib.hid fun W hW => (hs.below hW.b).more hW.b.size
  clear hdv hs hkk hcc hk hc
  have KD0 : Hid (Kc w x w1.drew) := Lib.hid (K1.out.step ((Below.refl _ _).drew))
  obtain ⟨wD, hwD⟩ : ∃ v, w1.drew = v := ⟨_, rfl⟩
  have z1 : wD.heap.size = w.heap.size + 1 := by rw [← hwD]; exact s1
  have KD : Hid (Kc w x wD) := Lib.hid (by rw [← hwD]; exact KD0.out)
  have HWD := Lib.hid hwD
  clear hwD
  go_enter Try.func13, Try.ntmps13
  go_upto_region 1 with fail
  rw [HW.out]
  clear HW
  go_cut [3] (fun s wx => ∃ A6 c6, s = .slice A6 (2 + 4) c6 ∧ Hid (Ky w x wx A6 (2 + 4) c6 ([UInt8.ofNat kk, UInt8.ofNat cc] ++ be 4 x.seq)))
  case first =>
    refine wp_region_noPanic ?_
    refine wp_region_held_drew (S := (Kc w x)) (by kernel_rfl) KD0.out (fun _ => ?_)
    rw [HWD.out]
    refine wpAnyH_take (i := 0) rfl (by kernel_rfl) (by kernel_rfl) (by kernel_rfl) (fun _ _ _ h => h) (.inl ⟨rfl, fun w' hw' => (by clear hw'; go_simp; rfl)⟩) KD.out ?_
    simp only [List.getElem_toArray, List.getElem_cons_zero, List.getElem_cons_succ, Act.put, List.setIfInBounds_toArray, List.set_cons_succ, List.set_cons_zero]
    refine wpAnyH_take (i := 1) rfl (by kernel_rfl) (by kernel_rfl) (by kernel_rfl) (fun _ _ _ h => h) (.inl ⟨rfl, fun w' hw' => (by obtain ⟨a0, a1, a2, a3, _, _, a6⟩ := cf_lies hw'.l; rw [HKK.out] at a0; clear hw'; go_simp; rfl)⟩) KD.out ?_
    simp only [List.getElem_toArray, List.getElem_cons_zero, List.getElem_cons_succ, Act.put, List.setIfInBounds_toArray, List.set_cons_succ, List.set_cons_zero]
    refine wpAnyH_take (i := 2) rfl (by kernel_rfl) (by kernel_rfl) (by kernel_rfl) (fun _ _ _ h => h) (.inl ⟨rfl, fun w' hw' => (by clear hw'; go_simp; rfl)⟩) KD.out ?_
    simp only [List.getElem_toArray, List.getElem_cons_zero, List.getElem_cons_succ, Act.put, List.setIfInBounds_toArray, List.set_cons_succ, List.set_cons_zero]
    refine wpAnyH_take (i := 3) rfl (by kernel_rfl) (by kernel_rfl) (by kernel_rfl) (fun _ _ _ h => h) (.inl ⟨rfl, fun w' hw' => (by clear hw'; go_simp; rfl)⟩) KD.out ?_
    simp only [List.getElem_toArray, List.getElem_cons_zero, List.getElem_cons_succ, Act.put, List.setIfInBounds_toArray, List.set_cons_succ, List.set_cons_zero]
    refine wpAnyH_take (i := 4) rfl (by kernel_rfl) (by kernel_rfl) (by kernel_rfl) (fun _ _ _ h => h) (.inl ⟨rfl, fun w' hw' => (by obtain ⟨a0, a1, a2, a3, _, _, a6⟩ := cf_lies hw'.l; rw [HCC.out] at a1; clear hw'; go_simp; rfl)⟩) KD.out ?_
    simp only [List.getElem_toArray, List.getElem_cons_zero, List.getElem_cons_succ, Act.put, List.setIfInBounds_toArray, List.set_cons_succ, List.set_cons_zero]
    refine wpAnyH_take (i := 5) rfl (by kernel_rfl) (by kernel_rfl) (by kernel_rfl) (fun _ _ _ h => h) (.inl ⟨rfl, fun w' hw' => (by clear hw'; go_simp; rfl)⟩) KD.out ?_
    simp only [List.getElem_toArray, List.getElem_cons_zero, List.getElem_cons_succ, Act.put, List.setIfInBounds_toArray, List.set_cons_succ, List.set_cons_zero]
    refine wpAnyH_take (i := 7) rfl (by kernel_rfl) (by kernel_rfl) (by kernel_rfl) (fun _ _ _ h => h) (.inl ⟨rfl, fun w' hw' => (by clear hw'; go_simp; rfl)⟩) KD.out ?_
    simp only [List.getElem_toArray, List.getElem_cons_zero, List.getElem_cons_succ, Act.put, List.setIfInBounds_toArray, List.set_cons_succ, List.set_cons_zero]
    refine wpAnyH_take (i := 8) rfl (by kernel_rfl) (by kernel_rfl) (by kernel_rfl) (fun _ _ _ h => h) (.inl ⟨rfl, fun w' hw' => (by obtain ⟨a0, a1, a2, a3, _, _, a6⟩ := cf_lies hw'.l;  clear hw'; go_simp; rfl)⟩) KD.out ?_
    simp only [List.getElem_toArray, List.getElem_cons_zero, List.getElem_cons_succ, Act.put, List.setIfInBounds_toArray, List.set_cons_succ, List.set_cons_zero]
    refine wpAnyH_take (i := 9) rfl (by kernel_rfl) (by kernel_rfl) (by kernel_rfl) (fun _ _ _ h => h) (.inl ⟨rfl, fun w' hw' => (by clear hw'; go_simp; rfl)⟩) KD.out ?_
    simp only [List.getElem_toArray, List.getElem_cons_zero, List.getElem_cons_succ, Act.put, List.setIfInBounds_toArray, List.set_cons_succ, List.set_cons_zero]
    refine wpAnyH_ready (rs := [6, 10]) (by kernel_rfl) (by simp) (AllReadyH.cons rfl (fun K hK => ?_) (AllReadyH.cons rfl (fun K hK => ?_) AllReadyH.nil))
    · rw [if_pos (by rfl)]
      go_simp
      have KA : Hid (Kc w x (wD.alloc (.cells #[.int .u8 (kk : Int), .int .u8 (cc : Int)] 5))) := Lib.hid (KD.out.al _)
      have SA := two_byte wD kk cc hk8 hc8
      obtain ⟨wA, hwA⟩ : ∃ v, wD.alloc (.cells #[.int .u8 (kk : Int), .int .u8 (cc : Int)] 5) = v := ⟨_, rfl⟩
      have zwA : wA.heap.size = wD.heap.size + 1 := by rw [← hwA]; simp
      have bwA : Below wD.heap.size wD wA := by rw [← hwA]; exact (Below.refl _ _).alloc (Nat.le_refl _) _
      refine hK.out _ _ KA.out (fun _ => ?_)
      rw [hwA] at KA SA ⊢
      (try simp only [List.getElem_toArray, List.getElem_cons_zero, List.getElem_cons_succ, Act.put, List.setIfInBounds_toArray, List.set_cons_succ, List.set_cons_zero])
      refine wpAnyH_ready (rs := [10]) (by kernel_rfl) (by simp) (AllReadyH.cons rfl (fun K hK => ?_) AllReadyH.nil)
      rw [if_pos (by rfl)]
      refine wp_fn (f := 23) (xs := #[.int .u64 (x.seq : Int), .int .i64 4]) (by first | (go_simp; done) | (go_simp; rfl)) ((high_any 4 x.seq _ _ wA rfl (by omega) rfl (by omega)).mono ?_)
      rintro q w7 ⟨A7, c7, rfl, ho7, hb7⟩
      have K7 : Hid (Kc w x w7) := Lib.hid (KA.out.step hb7)
      refine ⟨_, rfl, hK.out _ _ K7.out (fun _ => ?_)⟩
      simp only [List.getElem_toArray, List.getElem_cons_zero, List.getElem_cons_succ, Act.put, List.setIfInBounds_toArray, List.set_cons_succ, List.set_cons_zero]
      have z7 := hb7.size
      refine wpAnyH_ready (rs := [11]) (by kernel_rfl) (by simp) (AllReadyH.cons rfl (fun K hK => ?_) AllReadyH.nil)
      rw [if_pos (by rfl)]
      refine wp_fn (f := 22) (xs := #[.slice (some ⟨wD.heap.size, 0, none⟩) 2 2, .slice A7 4 c7]) (by first | (go_simp; done) | (go_simp; rfl)) ((both_any (SA.below (hb7.mono (by omega))) (ho7.sl (Nat.le_refl _)) (by omega) (Nat.le_refl _) (by omega)).mono ?_)
      rintro q w8 ⟨A8, c8, rfl, ho8, hb8⟩
      have K8 : Hid (Kc w x w8) := Lib.hid (K7.out.step hb8)
      refine ⟨_, rfl, hK.out _ _ K8.out (fun _ => ?_)⟩
      simp only [List.getElem_toArray, List.getElem_cons_zero, List.getElem_cons_succ, Act.put, List.setIfInBounds_toArray, List.set_cons_succ, List.set_cons_zero]
      refine wpAnyH_take (i := 12) rfl (by kernel_rfl) (by kernel_rfl) (by kernel_rfl) (fun _ _ _ h => h) (.inl ⟨rfl, fun w' hw' => (by clear hw'; go_simp; rfl)⟩) K8.out ?_
      simp only [List.getElem_toArray, List.getElem_cons_zero, List.getElem_cons_succ, Act.put, List.setIfInBounds_toArray, List.set_cons_succ, List.set_cons_zero]
      refine wpAnyH_done (by kernel_rfl) ?_ _
      refine NoPanic.normal ?_
      go_wp2_with fail
      go_meet
      exact ⟨A8, c8, rfl, Lib.hid (Ky.both K7.out (by omega) hb8 ho8)⟩
    · rw [if_pos (by rfl)]
      refine wp_fn (f := 23) (xs := #[.int .u64 (x.seq : Int), .int .i64 4]) (by first | (go_simp; done) | (go_simp; rfl)) ((high_any 4 x.seq _ _ wD rfl (by omega) rfl (by omega)).mono ?_)
      rintro q w7 ⟨A7, c7, rfl, ho7, hb7⟩
      have K7 : Hid (Kc w x w7) := Lib.hid (KD.out.step hb7)
      refine ⟨_, rfl, hK.out _ _ K7.out (fun _ => ?_)⟩
      simp only [List.getElem_toArray, List.getElem_cons_zero, List.getElem_cons_succ, Act.put, List.setIfInBounds_toArray, List.set_cons_succ, List.set_cons_zero]
      have z7 := hb7.size
      refine wpAnyH_ready (rs := [6]) (by kernel_rfl) (by simp) (AllReadyH.cons rfl (fun K hK => ?_) AllReadyH.nil)
      rw [if_pos (by rfl)]
      go_simp
      have KA : Hid (Kc w x (w7.alloc (.cells #[.int .u8 (kk : Int), .int .u8 (cc : Int)] 5))) := Lib.hid (K7.out.al _)
      have SA := two_byte w7 kk cc hk8 hc8
      obtain ⟨wA, hwA⟩ : ∃ v, w7.alloc (.cells #[.int .u8 (kk : Int), .int .u8 (cc : Int)] 5) = v := ⟨_, rfl⟩
      have zwA : wA.heap.size = w7.heap.size + 1 := by rw [← hwA]; simp
      have bwA : Below w7.heap.size w7 wA := by rw [← hwA]; exact (Below.refl _ _).alloc (Nat.le_refl _) _
      refine hK.out _ _ KA.out (fun _ => ?_)
      rw [hwA] at KA SA ⊢
      (try simp only [List.getElem_toArray, List.getElem_cons_zero, List.getElem_cons_succ, Act.put, List.setIfInBounds_toArray, List.set_cons_succ, List.set_cons_zero])
      refine wpAnyH_ready (rs := [11]) (by kernel_rfl) (by simp) (AllReadyH.cons rfl (fun K hK => ?_) AllReadyH.nil)
      rw [if_pos (by rfl)]
      refine wp_fn (f := 22) (xs := #[.slice (some ⟨w7.heap.size, 0, none⟩) 2 2, .slice A7 4 c7]) (by first | (go_simp; done) | (go_simp; rfl)) ((both_any SA ((ho7.sl (Nat.le_refl _)).below bwA) (by omega) (by omega) (by omega)).mono ?_)
      rintro q w8 ⟨A8, c8, rfl, ho8, hb8⟩
      have K8 : Hid (Kc w x w8) := Lib.hid (KA.out.step hb8)
      refine ⟨_, rfl, hK.out _ _ K8.out (fun _ => ?_)⟩
      simp only [List.getElem_toArray, List.getElem_cons_zero, List.getElem_cons_succ, Act.put, List.setIfInBounds_toArray, List.set_cons_succ, List.set_cons_zero]
      refine wpAnyH_take (i := 12) rfl (by kernel_rfl) (by kernel_rfl) (by kernel_rfl) (fun _ _ _ h => h) (.inl ⟨rfl, fun w' hw' => (by clear hw'; go_simp; rfl)⟩) K8.out ?_
      simp only [List.getElem_toArray, List.getElem_cons_zero, List.getElem_cons_succ, Act.put, List.setIfInBounds_toArray, List.set_cons_succ, List.set_cons_zero]
      refine wpAnyH_done (by kernel_rfl) ?_ _
      refine NoPanic.normal ?_
      go_wp2_with fail
      go_meet
      exact ⟨A8, c8, rfl, Lib.hid (Ky.both KA.out (by omega) hb8 ho8)⟩
  case rest =>
    obtain ⟨A6, c6, rfl, Y6⟩ := hcut
    have hcl := Lib.hid trivial
    obtain ⟨L6, hL6⟩ : ∃ l, [UInt8.ofNat kk, UInt8.ofNat cc] ++ be 4 x.seq = l := ⟨_, rfl⟩
    rw [hL6] at LY Y6
    clear hL6 KD KD0 HWD K1 hcl
    have YD0 : Hid (Ky w x wc.drew A6 (2 + 4) c6 L6) := Lib.hid (Y6.out.step ((Below.refl _ _).drew))
    obtain ⟨wE, hwE⟩ : ∃ v, wc.drew = v := ⟨_, rfl⟩
    have YD : Hid (Ky w x wE A6 (2 + 4) c6 L6) := Lib.hid (by rw [← hwE]; exact YD0.out)
    have KE0 := Lib.hid YD0.out.k
    have KE := Lib.hid YD.out.k
    have zE := YD.out.z
    have HWE := Lib.hid hwE
    clear hwE Y6
    go_upto_region 2 with fail
    go_cut [3] (fun s wx => ∃ A7 c7, s = .slice A7 (2 + 4 + 1 + x.branch.size) c7 ∧ Hid (Ky w x wx A7 (2 + 4 + 1 + x.branch.size) c7 ((L6 ++ [UInt8.ofNat x.branch.size]) ++ strB x.branch)))
    case first =>
      refine wp_region_noPanic ?_
      refine wp_region_held_drew (S := (Kc w x)) (by kernel_rfl) KE0.out (fun _ => ?_)
      rw [HWE.out]
      refine wpAnyH_take (i := 0) rfl (by kernel_rfl) (by kernel_rfl) (by kernel_rfl) (fun _ _ _ h => h) (.inl ⟨rfl, fun w' hw' => (by clear hw'; go_simp; rfl)⟩) KE.out ?_
      simp only [List.getElem_toArray, List.getElem_cons_zero, List.getElem_cons_succ, Act.put, List.setIfInBounds_toArray, List.set_cons_succ, List.set_cons_zero]
      refine wpAnyH_take (i := 1) rfl (by kernel_rfl) (by kernel_rfl) (by kernel_rfl) (fun _ _ _ h => h) (.inl ⟨rfl, fun w' hw' => (by clear hw'; go_simp; rfl)⟩) KE.out ?_
      simp only [List.getElem_toArray, List.getElem_cons_zero, List.getElem_cons_succ, Act.put, List.setIfInBounds_toArray, List.set_cons_succ, List.set_cons_zero]
      refine wpAnyH_take (i := 2) rfl (by kernel_rfl) (by kernel_rfl) (by kernel_rfl) (fun _ _ _ h => h) (.inl ⟨rfl, fun w' hw' => (by obtain ⟨a0, a1, a2, a3, _, _, a6⟩ := cf_lies hw'.l;  clear hw'; go_simp; rfl)⟩) KE.out ?_
      simp only [List.getElem_toArray, List.getElem_cons_zero, List.getElem_cons_succ, Act.put, List.setIfInBounds_toArray, List.set_cons_succ, List.set_cons_zero]
      refine wpAnyH_take (i := 3) rfl (by kernel_rfl) (by kernel_rfl) (by kernel_rfl) (fun _ _ _ h => h) (.inl ⟨rfl, fun w' hw' => (by clear hw'; go_simp; rfl)⟩) KE.out ?_
      simp only [List.getElem_toArray, List.getElem_cons_zero, List.getElem_cons_succ, Act.put, List.setIfInBounds_toArray, List.set_cons_succ, List.set_cons_zero]
      refine wpAnyH_take (i := 4) rfl (by kernel_rfl) (by kernel_rfl) (by kernel_rfl) (fun _ _ _ h => h) (.inl ⟨rfl, fun w' hw' => (by clear hw'; go_simp; rfl)⟩) KE.out ?_
      simp only [List.getElem_toArray, List.getElem_cons_zero, List.getElem_cons_succ, Act.put, List.setIfInBounds_toArray, List.set_cons_succ, List.set_cons_zero]
      refine wpAnyH_take (i := 7) rfl (by kernel_rfl) (by kernel_rfl) (by kernel_rfl) (fun _ _ _ h => h) (.inl ⟨rfl, fun w' hw' => (by clear hw'; go_simp; rfl)⟩) KE.out ?_
      simp only [List.getElem_toArray, List.getElem_cons_zero, List.getElem_cons_succ, Act.put, List.setIfInBounds_toArray, List.set_cons_succ, List.set_cons_zero]
      refine wpAnyH_take (i := 8) rfl (by kernel_rfl) (by kernel_rfl) (by kernel_rfl) (fun _ _ _ h => h) (.inl ⟨rfl, fun w' hw' => (by obtain ⟨a0, a1, a2, a3, _, _, a6⟩ := cf_lies hw'.l;  clear hw'; go_simp; rfl)⟩) KE.out ?_
      simp only [List.getElem_toArray, List.getElem_cons_zero, List.getElem_cons_succ, Act.put, List.setIfInBounds_toArray, List.set_cons_succ, List.set_cons_zero]
      refine wpAnyH_ready (rs := [5, 9]) (by kernel_rfl) (by simp) (AllReadyH.cons rfl (fun K hK => ?_) (AllReadyH.cons rfl (fun K hK => ?_) AllReadyH.nil))
      · rw [if_pos (by rfl)]
        go_simp
        have YA : Hid (Ky w x (wE.alloc (.cells #[.int .u8 (x.branch.size : Int)] 5)) A6 (2 + 4) c6 L6) := Lib.hid (YD.out.alloc _)
        have SA0 := one_byte wE x.branch.size hb
        obtain ⟨wA, hwA⟩ : ∃ v, wE.alloc (.cells #[.int .u8 (x.branch.size : Int)] 5) = v := ⟨_, rfl⟩
        have zwA : wA.heap.size = wE.heap.size + 1 := by rw [← hwA]; simp
        have bwA : Below wE.heap.size wE wA := by rw [← hwA]; exact (Below.refl _ _).alloc (Nat.le_refl _) _
        refine hK.out _ _ YA.out.k (fun _ => ?_)
        rw [hwA] at YA SA0 ⊢
        have SA := Lib.hid (SA0.more (Nat.le_of_eq zwA.symm))
        clear SA0
        (try simp only [List.getElem_toArray, List.getElem_cons_zero, List.getElem_cons_succ, Act.put, List.setIfInBounds_toArray, List.set_cons_succ, List.set_cons_zero])
        refine wpAnyH_ready (rs := [6, 9]) (by kernel_rfl) (by simp) (AllReadyH.cons rfl (fun K hK => ?_) (AllReadyH.cons rfl (fun K hK => ?_) AllReadyH.nil))
        · rw [if_pos (by rfl)]
          refine YA.out.wp1 (by omega) (.tmp 16) (.tmp 21) rfl rfl rfl SA.out ?_
          intro AwB cwB wB ywB gwB
          have YB := Lib.hid ywB
          clear ywB
          refine hK.out _ _ YB.out.k (fun _ => ?_)
          (try simp only [List.getElem_toArray, List.getElem_cons_zero, List.getElem_cons_succ, Act.put, List.setIfInBounds_toArray, List.set_cons_succ, List.set_cons_zero])
          refine wpAnyH_ready (rs := [9]) (by kernel_rfl) (by simp) (AllReadyH.cons rfl (fun K hK => ?_) AllReadyH.nil)
          rw [if_pos (by rfl)]
          obtain ⟨CwC, wC, hwC, bwC, SC0⟩ := conv_str wB x.branch (by omega)
          refine wp_valw (run_cs (.tmp 24) rfl rfl hwC) ?_
          have SC := Lib.hid SC0
          have zwC := bwC.size
          clear hwC SC0
          refine hK.out _ _ (YB.out.k.step bwC) (fun _ => ?_)
          (try simp only [List.getElem_toArray, List.getElem_cons_zero, List.getElem_cons_succ, Act.put, List.setIfInBounds_toArray, List.set_cons_succ, List.set_cons_zero])
          have YC := Lib.hid (YB.out.step bwC)
          refine wpAnyH_ready (rs := [10]) (by kernel_rfl) (by simp) (AllReadyH.cons rfl (fun K hK => ?_) AllReadyH.nil)
          rw [if_pos (by rfl)]
          refine wp_fn (f := 22) (xs := #[.slice AwB (2 + 4 + 1) cwB, .slice (some ⟨wB.heap.size, 0, none⟩) x.branch.size CwC]) (by first | (go_simp; done) | (go_simp; rfl)) ((both_any YC.out.own.sl SC.out (Nat.le_refl _) (Nat.le_refl _) (by omega)).mono ?_)
          rintro q wZ ⟨AZ, cZ, rfl, hoZ, hbZ⟩
          have KZ : Hid (Kc w x wZ) := Lib.hid (YC.out.k.step hbZ)
          refine ⟨_, rfl, hK.out _ _ KZ.out (fun _ => ?_)⟩
          simp only [List.getElem_toArray, List.getElem_cons_zero, List.getElem_cons_succ, Act.put, List.setIfInBounds_toArray, List.set_cons_succ, List.set_cons_zero]
          refine wpAnyH_take (i := 11) rfl (by kernel_rfl) (by kernel_rfl) (by kernel_rfl) (fun _ _ _ h => h) (.inl ⟨rfl, fun w' hw' => (by clear hw'; go_simp; rfl)⟩) KZ.out ?_
          simp only [List.getElem_toArray, List.getElem_cons_zero, List.getElem_cons_succ, Act.put, List.setIfInBounds_toArray, List.set_cons_succ, List.set_cons_zero]
          refine wpAnyH_done (by kernel_rfl) ?_ _
          refine NoPanic.normal ?_
          go_wp2_with fail
          go_meet
          exact ⟨AZ, cZ, rfl, Lib.hid (Ky.both YC.out.k YC.out.z hbZ hoZ)⟩
        · rw [if_pos (by rfl)]
          obtain ⟨CwB, wB, hwB, bwB, SC0⟩ := conv_str wA x.branch (by omega)
          refine wp_valw (run_cs (.tmp 24) rfl rfl hwB) ?_
          have SC := Lib.hid SC0
          have zwB := bwB.size
          clear hwB SC0
          refine hK.out _ _ (YA.out.k.step bwB) (fun _ => ?_)
          (try simp only [List.getElem_toArray, List.getElem_cons_zero, List.getElem_cons_succ, Act.put, List.setIfInBounds_toArray, List.set_cons_succ, List.set_cons_zero])
          have YB := Lib.hid (YA.out.step bwB)
          have SB := Lib.hid ((SA.out.below bwB).more bwB.size)
          refine wpAnyH_ready (rs := [6]) (by kernel_rfl) (by simp) (AllReadyH.cons rfl (fun K hK => ?_) AllReadyH.nil)
          rw [if_pos (by rfl)]
          refine YB.out.wp1 (by omega) (.tmp 16) (.tmp 21) rfl rfl rfl SB.out ?_
          intro AwC cwC wC ywC gwC
          have YC := Lib.hid ywC
          clear ywC
          refine hK.out _ _ YC.out.k (fun _ => ?_)
          (try simp only [List.getElem_toArray, List.getElem_cons_zero, List.getElem_cons_succ, Act.put, List.setIfInBounds_toArray, List.set_cons_succ, List.set_cons_zero])
          have SD := Lib.hid ((SC.out.othn gwC (Nat.le_refl _) (fun b o k e h => by injection e with e; injection e with e1 e2 e3; have := (YA.out.own.lt k h).2; omega)).more gwC.size)
          refine wpAnyH_ready (rs := [10]) (by kernel_rfl) (by simp) (AllReadyH.cons rfl (fun K hK => ?_) AllReadyH.nil)
          rw [if_pos (by rfl)]
          refine wp_fn (f := 22) (xs := #[.slice AwC (2 + 4 + 1) cwC, .slice (some ⟨wA.heap.size, 0, none⟩) x.branch.size CwB]) (by first | (go_simp; done) | (go_simp; rfl)) ((both_any YC.out.own.sl SD.out (Nat.le_refl _) (Nat.le_refl _) (by omega)).mono ?_)
          rintro q wZ ⟨AZ, cZ, rfl, hoZ, hbZ⟩
          have KZ : Hid (Kc w x wZ) := Lib.hid (YC.out.k.step hbZ)
          refine ⟨_, rfl, hK.out _ _ KZ.out (fun _ => ?_)⟩
          simp only [List.getElem_toArray, List.getElem_cons_zero, List.getElem_cons_succ, Act.put, List.setIfInBounds_toArray, List.set_cons_succ, List.set_cons_zero]
          refine wpAnyH_take (i := 11) rfl (by kernel_rfl) (by kernel_rfl) (by kernel_rfl) (fun _ _ _ h => h) (.inl ⟨rfl, fun w' hw' => (by clear hw'; go_simp; rfl)⟩) KZ.out ?_
          simp only [List.getElem_toArray, List.getElem_cons_zero, List.getElem_cons_succ, Act.put, List.setIfInBounds_toArray, List.set_cons_succ, List.set_cons_zero]
          refine wpAnyH_done (by kernel_rfl) ?_ _
          refine NoPanic.normal ?_
          go_wp2_with fail
          go_meet
          exact ⟨AZ, cZ, rfl, Lib.hid (Ky.both YC.out.k YC.out.z hbZ hoZ)⟩
      · rw [if_pos (by rfl)]
        obtain ⟨CwB, wB, hwB, bwB, SC0⟩ := conv_str wE x.branch (by omega)
        refine wp_valw (run_cs (.tmp 24) rfl rfl hwB) ?_
        have SC := Lib.hid SC0
        have zwB := bwB.size
        clear hwB SC0
        refine hK.out _ _ (KE.out.step bwB) (fun _ => ?_)
        (try simp only [List.getElem_toArray, List.getElem_cons_zero, List.getElem_cons_succ, Act.put, List.setIfInBounds_toArray, List.set_cons_succ, List.set_cons_zero])
        have YB := Lib.hid (YD.out.step bwB)
        refine wpAnyH_ready (rs := [5]) (by kernel_rfl) (by simp) (AllReadyH.cons rfl (fun K hK => ?_) AllReadyH.nil)
        rw [if_pos (by rfl)]
        go_simp
        have YA : Hid (Ky w x (wB.alloc (.cells #[.int .u8 (x.branch.size : Int)] 5)) A6 (2 + 4) c6 L6) := Lib.hid (YB.out.alloc _)
        have SA0 := one_byte wB x.branch.size hb
        obtain ⟨wA, hwA⟩ : ∃ v, wB.alloc (.cells #[.int .u8 (x.branch.size : Int)] 5) = v := ⟨_, rfl⟩
        have zwA : wA.heap.size = wB.heap.size + 1 := by rw [← hwA]; simp
        have bwA : Below wB.heap.size wB wA := by rw [← hwA]; exact (Below.refl _ _).alloc (Nat.le_refl _) _
        refine hK.out _ _ YA.out.k (fun _ => ?_)
        rw [hwA] at YA SA0 ⊢
        have SA := Lib.hid (SA0.more (Nat.le_of_eq zwA.symm))
        clear SA0
        (try simp only [List.getElem_toArray, List.getElem_cons_zero, List.getElem_cons_succ, Act.put, List.setIfInBounds_toArray, List.set_cons_succ, List.set_cons_zero])
        refine wpAnyH_ready (rs := [6]) (by kernel_rfl) (by simp) (AllReadyH.cons rfl (fun K hK => ?_) AllReadyH.nil)
        have SC2 := Lib.hid ((SC.out.below bwA).more bwA.size)
        clear SC
        have SC := SC2
        rw [if_pos (by rfl)]
        refine YA.out.wp1 (by omega) (.tmp 16) (.tmp 21) rfl rfl rfl SA.out ?_
        intro AwC cwC wC ywC gwC
        have YC := Lib.hid ywC
        clear ywC
        refine hK.out _ _ YC.out.k (fun _ => ?_)
        (try simp only [List.getElem_toArray, List.getElem_cons_zero, List.getElem_cons_succ, Act.put, List.setIfInBounds_toArray, List.set_cons_succ, List.set_cons_zero])
        have SD := Lib.hid ((SC.out.othn gwC (Nat.le_refl _) (fun b o k e h => by injection e with e; injection e with e1 e2 e3; have := (YD.out.own.lt k h).2; omega)).more gwC.size)
        refine wpAnyH_ready (rs := [10]) (by kernel_rfl) (by simp) (AllReadyH.cons rfl (fun K hK => ?_) AllReadyH.nil)
        rw [if_pos (by rfl)]
        refine wp_fn (f := 22) (xs := #[.slice AwC (2 + 4 + 1) cwC, .slice (some ⟨wE.heap.size, 0, none⟩) x.branch.size CwB]) (by first | (go_simp; done) | (go_simp; rfl)) ((both_any YC.out.own.sl SD.out (Nat.le_refl _) (Nat.le_refl _) (by omega)).mono ?_)
        rintro q wZ ⟨AZ, cZ, rfl, hoZ, hbZ⟩
        have KZ : Hid (Kc w x wZ) := Lib.hid (YC.out.k.step hbZ)
        refine ⟨_, rfl, hK.out _ _ KZ.out (fun _ => ?_)⟩
        simp only [List.getElem_toArray, List.getElem_cons_zero, List.getElem_cons_succ, Act.put, List.setIfInBounds_toArray, List.set_cons_succ, List.set_cons_zero]
        refine wpAnyH_take (i := 11) rfl (by kernel_rfl) (by kernel_rfl) (by kernel_rfl) (fun _ _ _ h => h) (.inl ⟨rfl, fun w' hw' => (by clear hw'; go_simp; rfl)⟩) KZ.out ?_
        simp only [List.getElem_toArray, List.getElem_cons_zero, List.getElem_cons_succ, Act.put, List.setIfInBounds_toArray, List.set_cons_succ, List.set_cons_zero]
        refine wpAnyH_done (by kernel_rfl) ?_ _
        refine NoPanic.normal ?_
        go_wp2_with fail
        go_meet
        exact ⟨AZ, cZ, rfl, Lib.hid (Ky.both YC.out.k YC.out.z hbZ hoZ)⟩
    case rest =>
      obtain ⟨A7, c7, rfl, Y7⟩ := hcut
      obtain ⟨L7, hL7⟩ : ∃ l, (L6 ++ [UInt8.ofNat x.branch.size]) ++ strB x.branch = l := ⟨_, rfl⟩
      rw [hL7] at LY Y7
      clear hL7
      have O7 := Lib.hid Y7.out.k.old
      go_upto_region 4 with (first
        | (go_at_call 22; refine (both_any Y7.out.own.sl O7.out (Nat.le_refl _) (Nat.le_refl _) (by omega)).mono ?_; rintro q w8 ⟨A8, c8, rfl, ho8, hb8⟩; have Y8 := Lib.hid (Ky.both Y7.out.k Y7.out.z hb8 ho8); clear ho8 hb8)
        | fail)
      have O8 := Lib.hid Y8.out.k.new_
      go_upto_region 5 with (first
        | (go_at_call 22; refine (both_any Y8.out.own.sl O8.out (Nat.le_refl _) (Nat.le_refl _) (by omega)).mono ?_; rintro q w9 ⟨A9, c9, rfl, ho9, hb9⟩; have Y9 := Lib.hid (Ky.both Y8.out.k Y8.out.z hb9 ho9); clear ho9 hb9)
        | fail)
      obtain ⟨_, _, _, _, _, _, e9⟩ := cf_lies Y9.out.k.l
      rw [HDV.out] at e9
      go_upto_region 6 with (first
        | (go_at_call 23; refine (high_any 2 n _ _ _ rfl (by omega) rfl (by omega)).mono ?_; rintro q wx ⟨Ax, cx, rfl, hox, hbx⟩; have Yx := Lib.hid (Y9.out.step hbx); have SX := Lib.hid (hox.sl (Nat.le_refl _)); clear hox hbx)
        | (go_at_call 22; refine (both_any Yx.out.own.sl SX.out (Nat.le_refl _) (Nat.le_refl _) (by omega)).mono ?_; rintro q wy ⟨Ay, cy, rfl, hoy, hby⟩; have Yy := Lib.hid (Ky.both Yx.out.k Yx.out.z hby hoy); clear hoy hby)
        | fail)
      clear e9
      obtain ⟨_, _, _, _, _, _, ey⟩ := cf_lies Yy.out.k.l
      rw [HDV.out] at ey
      have SY := Lib.hid (HS.out wy Yy.out.k)
      go_wp2_with (first
        | (go_at_call 22; refine (both_any Yy.out.own.sl SY.out (Nat.le_refl _) (Nat.le_refl _) (by omega)).mono ?_; rintro q wz ⟨Az, cz, rfl, hoz, hbz⟩; have Yz := Lib.hid (Ky.both Yy.out.k Yy.out.z hbz hoz); clear hoz hbz)
        | fail)
      go_ret
      exact ⟨⟨Az, _, cz, rfl, by rw [LY.out]; exact Yz.out.own.base_ (by omega)⟩, Yz.out.k.b⟩
end Go.Proofs.Ythionkcnmkhopaa
