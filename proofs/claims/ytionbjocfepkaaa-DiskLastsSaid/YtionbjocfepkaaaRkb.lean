/-
  CONTRACTS OF THE STATEMENTS' HELPERS: should, part b.
-/
import Derived.Test.YtionbjocfepkaaaRk
namespace Go.Proofs.Ytionbjocfepkaaa
set_option linter.unusedVariables false
set_option linter.unusedSimpArgs false
open Go.RowKit Go.WideShapes Go.ChangeShapes Go.Deep


set_option maxRecDepth 100000 in
set_option maxHeartbeats 1500000 in
theorem should_2 {w : World} {A : Option Addr} {l c : Nat} {es : List En} (h : Ew w A l c es) (hl : l ≤ 1000000) {s : Rs} (hs : s.Ok) (hd : s.done ≤ 4611686018427387904) (N : Int) (hN : N ≤ 2048) (kind n : Int) (b : UInt8) {B : Nat} {KA : Option Addr} {kl kc : Nat} {ks : List Bool} (hk : SlV w B KA kl kc (bls ks)) (hB : B ≤ w.heap.size) (hkd : whichI kind = 2) :
    Calls Try.prog 10 #[s.val N (.slice A l c), actV kind n b KA kl kc] w (ShPost w A N (s.begin N n true).1 (if (s.begin N n true).2 = 0 then es ++ [⟨n.toNat, actB b, false⟩] else es) Zb (s.begin N n true).2) := by
  have hrd := fun (w0 : World) (h0 : Ew w0 A l c es) => write_ref h0 hl hs hd N n (actB_len b)
  obtain ⟨s', hs'⟩ : ∃ s', (s.begin N n true).1 = s' := ⟨_, rfl⟩
  obtain ⟨er, her⟩ : ∃ er, (s.begin N n true).2 = er := ⟨_, rfl⟩
  rw [hs', her] at hrd
  rw [hs', her]
  generalize (if er = 0 then es ++ [⟨n.toNat, actB b, false⟩] else es) = es' at hrd ⊢
  obtain ⟨dead, fu, fa, done⟩ := s
  obtain ⟨dead', fu', fa', done'⟩ := s'
  have HRD := Lib.hid hrd
  clear hrd hs' her
  have HEW := Lib.hid h
  have HK := Lib.hid hkd
  have HKS := Lib.hid hk
  have S0 := Lib.hid (Sh.start w N (.slice A l c) dead fu fa done kind n b KA kl kc)
  have HZ := Lib.hid Zb_len
  have HLT := Lib.hid (fun x (hx : A = some x) => h.lt hx)
  have c0 := S0.out.a.cell (j := 0) rfl
  have c1 := S0.out.a.cell (j := 1) rfl
  have c2 := S0.out.a.cell (j := 2) rfl
  have c3 := S0.out.a.cell (j := 3) rfl
  clear h hs hd hkd hk
  obtain ⟨bq, hbq⟩ : ∃ bq, Zb = bq := ⟨_, rfl⟩
  rw [hbq] at S0 HZ ⊢
  clear hbq
  go_enter Try.func10, Try.ntmps10
  go_wp2_with (first
    | (with_reducible refine al_block rfl rfl ?_)
    | (go_at_call 13; refine (which_any kind n b KA kl kc _).mono ?_; rintro e w2 ⟨rfl, hb2⟩; rw [HK.out]; have S1 := Lib.hid (S0.out.next hb2); have e0 := S1.out.a.cell (j := 0) rfl; have e1 := S1.out.a.cell (j := 1) rfl; have e2 := S1.out.a.cell (j := 2) rfl; have e3 := S1.out.a.cell (j := 3) rfl; clear hb2)
    | fail)
  have SD := Lib.hid S1.out.drew
  refine wp_region_bk 4 7 9 (fun w' => w'.rangeAt w.heap.size 0 (rfL N (.slice A l c) dead fu fa done) ∧ w'.rangeAt (w.heap.size + 1) 0 (acL kind n b KA kl kc) ∧ w'.cell? ⟨w.heap.size + 1, 1, none⟩ = some (.int .i64 n)) (by kernel_rfl) (by kernel_rfl) ⟨SD.out.x.rg, SD.out.a.rg, SD.out.a.cell (j := 1) rfl⟩ ?_
  simp only [List.take_succ_cons, List.take_zero, List.drop_succ_cons, List.drop_zero]
  refine ⟨_, yieldsIf_load_mid rfl 30 _ rfl w.heap.size 0 rfl (rfL N (.slice A l c) dead fu fa done) _ (fun w' hw' => hw'.1) Try.underlying30 rfl ref_size, ?_⟩
  refine ⟨_, .inl ⟨rfl, fun w' hw' => (by go_simp; rfl)⟩, ?_⟩
  refine ⟨_, .inl ⟨rfl, fun w' hw' => (by have hc := hw'.2.2; clear hw'; go_simp; rfl)⟩, ?_⟩
  refine ⟨_, yieldsIf_load_mid rfl 35 _ rfl (w.heap.size + 1) 0 rfl (acL kind n b KA kl kc) _ (fun w' hw' => hw'.2.1) Try.underlying35 rfl ac_size, ?_⟩
  rw [wpHead_nil]
  rw [wpMid_cons]
  refine ⟨rfl, ?_⟩
  refine wp_fn (f := 14) (xs := #[actV kind n b KA kl kc]) (by go_simp) ((block_any kind n b KA kl kc _).mono ?_)
  rintro e w3 ⟨rfl, hb3⟩
  have S2 := Lib.hid (SD.out.next hb3)
  clear hb3
  refine ⟨_, rfl, ⟨S2.out.x.rg, S2.out.a.rg, S2.out.a.cell (j := 1) rfl⟩, ?_⟩
  rw [wpMid_cons]
  refine ⟨rfl, ?_⟩
  refine wp_fn (f := 29) (xs := #[rfV N (.slice A l c) dead fu fa done, .int .i64 n, .agg (bvs (actB b)).toArray]) (by go_simp) ((HRD.out _ (HEW.out.below S2.out.below)).mono ?_)
  rintro e w4 ⟨A', m', c', rfl, hew, hA, hb4⟩
  have hz2 := S2.out.size
  have HE := Lib.hid hew
  have HA := Lib.hid (fun x hx => (hA x hx).imp id fun (h : w3.heap.size ≤ x.block) => Nat.le_trans hz2 h)
  have S3 := Lib.hid (S2.out.next hb4)
  clear hew hA hb4
  refine ⟨_, rfl, ⟨S3.out.x.rg, S3.out.a.rg, S3.out.a.cell (j := 1) rfl⟩, ?_⟩
  rw [wpMid_cons]
  refine ⟨rfl, ?_⟩
  simp only [Act.put, List.setIfInBounds_toArray, List.set_cons_succ, List.set_cons_zero]
  refine wp_val (by go_simp; rfl) ?_
  refine ⟨⟨S3.out.x.rg, S3.out.a.rg, S3.out.a.cell (j := 1) rfl⟩, ?_⟩
  rw [wpMid_nil]
  simp only [Act.put, List.setIfInBounds_toArray, List.set_cons_succ, List.set_cons_zero]
  refine ⟨_, .inl ⟨rfl, fun w' _ => (by go_simp; rfl)⟩, ?_⟩
  simp only [Act.put, List.setIfInBounds_toArray, List.set_cons_succ, List.set_cons_zero]
  refine ⟨_, .inl ⟨rfl, fun w' _ => (by go_simp; rfl)⟩, ?_⟩
  rw [wpHead_nil]
  simp only [Act.put, List.setIfInBounds_toArray, List.set_cons_succ, List.set_cons_zero]
  have S4 := Lib.hid (S3.out.setx (x' := rfL N (.slice A' m' c') dead' fu' fa' done') rfl)
  have HM := Lib.hid ((Mv.refl (shS w) w4).setCells (b := w.heap.size) (.inl ⟨Nat.le_refl _, by omega⟩) 0 (rfL N (.slice A' m' c') dead' fu' fa' done'))
  go_wp2_with (first
    | (with_reducible refine st_ref rfl _ _ rfl w.heap.size N A' m' c' dead' fu' fa' done' rfl rfl S3.out.x.th ?_))
  refine NoPanic.normal ?_
  go_wp2
  generalize w4.setCells w.heap.size 0 (rfL N (.slice A' m' c') dead' fu' fa' done') = wx at S4 HM ⊢
  have SX := Lib.hid S4.out
  have SY : Hid (Sh w (rfL N (.slice A' m' c') dead' fu' fa' done') (acL kind n b KA kl kc) (rfL N (.slice A' m' c') dead' fu' fa' done') bq bq ((((((wx.setCell ⟨w.heap.size + 1 + 1, 0, none⟩ (.int .i64 N)).setCell ⟨w.heap.size + 1 + 1, 1, none⟩ (.slice A' m' c')).setCell ⟨w.heap.size + 1 + 1, 2, none⟩ (.bool dead')).setCell ⟨w.heap.size + 1 + 1, 3, none⟩ (.int .i64 fu')).setCell ⟨w.heap.size + 1 + 1, 4, none⟩ (.int .i64 fa')).setCell ⟨w.heap.size + 1 + 1, 5, none⟩ (.int .i64 done'))) := Lib.hid (SX.out.sety (y' := rfL N (.slice A' m' c') dead' fu' fa' done') rfl)
  have DSX := Lib.hid SX.out.drew
  have HK0 := Lib.hid (show wx.drew.cell? ⟨w.heap.size, 0, none⟩ = some (.int .i64 N) ∧ wx.drew.cell? ⟨w.heap.size, 1, none⟩ = some (.slice A' m' c') ∧ wx.drew.cell? ⟨w.heap.size, 2, none⟩ = some (.bool dead') ∧ wx.drew.cell? ⟨w.heap.size, 3, none⟩ = some (.int .i64 fu') ∧ wx.drew.cell? ⟨w.heap.size, 4, none⟩ = some (.int .i64 fa') ∧ wx.drew.cell? ⟨w.heap.size, 5, none⟩ = some (.int .i64 done') ∧ wx.drew.rangeAt (w.heap.size + 1 + 1 + 1 + 1) 0 (bvs bq) ∧ wx.drew.there (w.heap.size + 1 + 1 + 1) 0 64 from ⟨DSX.out.x.cell (j := 0) rfl, DSX.out.x.cell (j := 1) rfl, DSX.out.x.cell (j := 2) rfl, DSX.out.x.cell (j := 3) rfl, DSX.out.x.cell (j := 4) rfl, DSX.out.x.cell (j := 5) rfl, DSX.out.q.rg, DSX.out.z.th⟩)
  have DSY := Lib.hid SY.out.drew
  have HK1 := Lib.hid (show ((((((wx.setCell ⟨w.heap.size + 1 + 1, 0, none⟩ (.int .i64 N)).setCell ⟨w.heap.size + 1 + 1, 1, none⟩ (.slice A' m' c')).setCell ⟨w.heap.size + 1 + 1, 2, none⟩ (.bool dead')).setCell ⟨w.heap.size + 1 + 1, 3, none⟩ (.int .i64 fu')).setCell ⟨w.heap.size + 1 + 1, 4, none⟩ (.int .i64 fa')).setCell ⟨w.heap.size + 1 + 1, 5, none⟩ (.int .i64 done')).drew.cell? ⟨w.heap.size, 0, none⟩ = some (.int .i64 N) ∧ ((((((wx.setCell ⟨w.heap.size + 1 + 1, 0, none⟩ (.int .i64 N)).setCell ⟨w.heap.size + 1 + 1, 1, none⟩ (.slice A' m' c')).setCell ⟨w.heap.size + 1 + 1, 2, none⟩ (.bool dead')).setCell ⟨w.heap.size + 1 + 1, 3, none⟩ (.int .i64 fu')).setCell ⟨w.heap.size + 1 + 1, 4, none⟩ (.int .i64 fa')).setCell ⟨w.heap.size + 1 + 1, 5, none⟩ (.int .i64 done')).drew.cell? ⟨w.heap.size, 1, none⟩ = some (.slice A' m' c') ∧ ((((((wx.setCell ⟨w.heap.size + 1 + 1, 0, none⟩ (.int .i64 N)).setCell ⟨w.heap.size + 1 + 1, 1, none⟩ (.slice A' m' c')).setCell ⟨w.heap.size + 1 + 1, 2, none⟩ (.bool dead')).setCell ⟨w.heap.size + 1 + 1, 3, none⟩ (.int .i64 fu')).setCell ⟨w.heap.size + 1 + 1, 4, none⟩ (.int .i64 fa')).setCell ⟨w.heap.size + 1 + 1, 5, none⟩ (.int .i64 done')).drew.cell? ⟨w.heap.size, 2, none⟩ = some (.bool dead') ∧ ((((((wx.setCell ⟨w.heap.size + 1 + 1, 0, none⟩ (.int .i64 N)).setCell ⟨w.heap.size + 1 + 1, 1, none⟩ (.slice A' m' c')).setCell ⟨w.heap.size + 1 + 1, 2, none⟩ (.bool dead')).setCell ⟨w.heap.size + 1 + 1, 3, none⟩ (.int .i64 fu')).setCell ⟨w.heap.size + 1 + 1, 4, none⟩ (.int .i64 fa')).setCell ⟨w.heap.size + 1 + 1, 5, none⟩ (.int .i64 done')).drew.cell? ⟨w.heap.size, 3, none⟩ = some (.int .i64 fu') ∧ ((((((wx.setCell ⟨w.heap.size + 1 + 1, 0, none⟩ (.int .i64 N)).setCell ⟨w.heap.size + 1 + 1, 1, none⟩ (.slice A' m' c')).setCell ⟨w.heap.size + 1 + 1, 2, none⟩ (.bool dead')).setCell ⟨w.heap.size + 1 + 1, 3, none⟩ (.int .i64 fu')).setCell ⟨w.heap.size + 1 + 1, 4, none⟩ (.int .i64 fa')).setCell ⟨w.heap.size + 1 + 1, 5, none⟩ (.int .i64 done')).drew.cell? ⟨w.heap.size, 4, none⟩ = some (.int .i64 fa') ∧ ((((((wx.setCell ⟨w.heap.size + 1 + 1, 0, none⟩ (.int .i64 N)).setCell ⟨w.heap.size + 1 + 1, 1, none⟩ (.slice A' m' c')).setCell ⟨w.heap.size + 1 + 1, 2, none⟩ (.bool dead')).setCell ⟨w.heap.size + 1 + 1, 3, none⟩ (.int .i64 fu')).setCell ⟨w.heap.size + 1 + 1, 4, none⟩ (.int .i64 fa')).setCell ⟨w.heap.size + 1 + 1, 5, none⟩ (.int .i64 done')).drew.cell? ⟨w.heap.size, 5, none⟩ = some (.int .i64 done') ∧ ((((((wx.setCell ⟨w.heap.size + 1 + 1, 0, none⟩ (.int .i64 N)).setCell ⟨w.heap.size + 1 + 1, 1, none⟩ (.slice A' m' c')).setCell ⟨w.heap.size + 1 + 1, 2, none⟩ (.bool dead')).setCell ⟨w.heap.size + 1 + 1, 3, none⟩ (.int .i64 fu')).setCell ⟨w.heap.size + 1 + 1, 4, none⟩ (.int .i64 fa')).setCell ⟨w.heap.size + 1 + 1, 5, none⟩ (.int .i64 done')).drew.rangeAt (w.heap.size + 1 + 1 + 1 + 1) 0 (bvs bq) ∧ ((((((wx.setCell ⟨w.heap.size + 1 + 1, 0, none⟩ (.int .i64 N)).setCell ⟨w.heap.size + 1 + 1, 1, none⟩ (.slice A' m' c')).setCell ⟨w.heap.size + 1 + 1, 2, none⟩ (.bool dead')).setCell ⟨w.heap.size + 1 + 1, 3, none⟩ (.int .i64 fu')).setCell ⟨w.heap.size + 1 + 1, 4, none⟩ (.int .i64 fa')).setCell ⟨w.heap.size + 1 + 1, 5, none⟩ (.int .i64 done')).drew.there (w.heap.size + 1 + 1 + 1) 0 64 from ⟨DSY.out.x.cell (j := 0) rfl, DSY.out.x.cell (j := 1) rfl, DSY.out.x.cell (j := 2) rfl, DSY.out.x.cell (j := 3) rfl, DSY.out.x.cell (j := 4) rfl, DSY.out.x.cell (j := 5) rfl, DSY.out.q.rg, DSY.out.z.th⟩)
  have SZ : Hid (Sh w _ _ _ _ _ (((((((wx.setCell ⟨w.heap.size + 1 + 1, 0, none⟩ (.int .i64 N)).setCell ⟨w.heap.size + 1 + 1, 1, none⟩ (.slice A' m' c')).setCell ⟨w.heap.size + 1 + 1, 2, none⟩ (.bool dead')).setCell ⟨w.heap.size + 1 + 1, 3, none⟩ (.int .i64 fu')).setCell ⟨w.heap.size + 1 + 1, 4, none⟩ (.int .i64 fa')).setCell ⟨w.heap.size + 1 + 1, 5, none⟩ (.int .i64 done')).drew.setCells (w.heap.size + 1 + 1 + 1) 0 (bvs bq))) := Lib.hid (DSY.out.setz HZ.out)
  have HK2 := Lib.hid (show (((((((wx.setCell ⟨w.heap.size + 1 + 1, 0, none⟩ (.int .i64 N)).setCell ⟨w.heap.size + 1 + 1, 1, none⟩ (.slice A' m' c')).setCell ⟨w.heap.size + 1 + 1, 2, none⟩ (.bool dead')).setCell ⟨w.heap.size + 1 + 1, 3, none⟩ (.int .i64 fu')).setCell ⟨w.heap.size + 1 + 1, 4, none⟩ (.int .i64 fa')).setCell ⟨w.heap.size + 1 + 1, 5, none⟩ (.int .i64 done')).drew.setCells (w.heap.size + 1 + 1 + 1) 0 (bvs bq)).cell? ⟨w.heap.size, 0, none⟩ = some (.int .i64 N) ∧ (((((((wx.setCell ⟨w.heap.size + 1 + 1, 0, none⟩ (.int .i64 N)).setCell ⟨w.heap.size + 1 + 1, 1, none⟩ (.slice A' m' c')).setCell ⟨w.heap.size + 1 + 1, 2, none⟩ (.bool dead')).setCell ⟨w.heap.size + 1 + 1, 3, none⟩ (.int .i64 fu')).setCell ⟨w.heap.size + 1 + 1, 4, none⟩ (.int .i64 fa')).setCell ⟨w.heap.size + 1 + 1, 5, none⟩ (.int .i64 done')).drew.setCells (w.heap.size + 1 + 1 + 1) 0 (bvs bq)).cell? ⟨w.heap.size, 1, none⟩ = some (.slice A' m' c') ∧ (((((((wx.setCell ⟨w.heap.size + 1 + 1, 0, none⟩ (.int .i64 N)).setCell ⟨w.heap.size + 1 + 1, 1, none⟩ (.slice A' m' c')).setCell ⟨w.heap.size + 1 + 1, 2, none⟩ (.bool dead')).setCell ⟨w.heap.size + 1 + 1, 3, none⟩ (.int .i64 fu')).setCell ⟨w.heap.size + 1 + 1, 4, none⟩ (.int .i64 fa')).setCell ⟨w.heap.size + 1 + 1, 5, none⟩ (.int .i64 done')).drew.setCells (w.heap.size + 1 + 1 + 1) 0 (bvs bq)).cell? ⟨w.heap.size, 2, none⟩ = some (.bool dead') ∧ (((((((wx.setCell ⟨w.heap.size + 1 + 1, 0, none⟩ (.int .i64 N)).setCell ⟨w.heap.size + 1 + 1, 1, none⟩ (.slice A' m' c')).setCell ⟨w.heap.size + 1 + 1, 2, none⟩ (.bool dead')).setCell ⟨w.heap.size + 1 + 1, 3, none⟩ (.int .i64 fu')).setCell ⟨w.heap.size + 1 + 1, 4, none⟩ (.int .i64 fa')).setCell ⟨w.heap.size + 1 + 1, 5, none⟩ (.int .i64 done')).drew.setCells (w.heap.size + 1 + 1 + 1) 0 (bvs bq)).cell? ⟨w.heap.size, 3, none⟩ = some (.int .i64 fu') ∧ (((((((wx.setCell ⟨w.heap.size + 1 + 1, 0, none⟩ (.int .i64 N)).setCell ⟨w.heap.size + 1 + 1, 1, none⟩ (.slice A' m' c')).setCell ⟨w.heap.size + 1 + 1, 2, none⟩ (.bool dead')).setCell ⟨w.heap.size + 1 + 1, 3, none⟩ (.int .i64 fu')).setCell ⟨w.heap.size + 1 + 1, 4, none⟩ (.int .i64 fa')).setCell ⟨w.heap.size + 1 + 1, 5, none⟩ (.int .i64 done')).drew.setCells (w.heap.size + 1 + 1 + 1) 0 (bvs bq)).cell? ⟨w.heap.size, 4, none⟩ = some (.int .i64 fa') ∧ (((((((wx.setCell ⟨w.heap.size + 1 + 1, 0, none⟩ (.int .i64 N)).setCell ⟨w.heap.size + 1 + 1, 1, none⟩ (.slice A' m' c')).setCell ⟨w.heap.size + 1 + 1, 2, none⟩ (.bool dead')).setCell ⟨w.heap.size + 1 + 1, 3, none⟩ (.int .i64 fu')).setCell ⟨w.heap.size + 1 + 1, 4, none⟩ (.int .i64 fa')).setCell ⟨w.heap.size + 1 + 1, 5, none⟩ (.int .i64 done')).drew.setCells (w.heap.size + 1 + 1 + 1) 0 (bvs bq)).cell? ⟨w.heap.size, 5, none⟩ = some (.int .i64 done') ∧ (((((((wx.setCell ⟨w.heap.size + 1 + 1, 0, none⟩ (.int .i64 N)).setCell ⟨w.heap.size + 1 + 1, 1, none⟩ (.slice A' m' c')).setCell ⟨w.heap.size + 1 + 1, 2, none⟩ (.bool dead')).setCell ⟨w.heap.size + 1 + 1, 3, none⟩ (.int .i64 fu')).setCell ⟨w.heap.size + 1 + 1, 4, none⟩ (.int .i64 fa')).setCell ⟨w.heap.size + 1 + 1, 5, none⟩ (.int .i64 done')).drew.setCells (w.heap.size + 1 + 1 + 1) 0 (bvs bq)).rangeAt (w.heap.size + 1 + 1 + 1 + 1) 0 (bvs bq) ∧ (((((((wx.setCell ⟨w.heap.size + 1 + 1, 0, none⟩ (.int .i64 N)).setCell ⟨w.heap.size + 1 + 1, 1, none⟩ (.slice A' m' c')).setCell ⟨w.heap.size + 1 + 1, 2, none⟩ (.bool dead')).setCell ⟨w.heap.size + 1 + 1, 3, none⟩ (.int .i64 fu')).setCell ⟨w.heap.size + 1 + 1, 4, none⟩ (.int .i64 fa')).setCell ⟨w.heap.size + 1 + 1, 5, none⟩ (.int .i64 done')).drew.setCells (w.heap.size + 1 + 1 + 1) 0 (bvs bq)).there (w.heap.size + 1 + 1 + 1) 0 64 from ⟨SZ.out.x.cell (j := 0) rfl, SZ.out.x.cell (j := 1) rfl, SZ.out.x.cell (j := 2) rfl, SZ.out.x.cell (j := 3) rfl, SZ.out.x.cell (j := 4) rfl, SZ.out.x.cell (j := 5) rfl, SZ.out.q.rg, SZ.out.z.th⟩)
  have hu := Try.underlying37
  have hi : (Try.prog.info? 37).map (·.size) = some (bvs bq).length := size_of HZ.out
  have h64 : (bvs bq).length = 64 := by rw [bvs_len, HZ.out]
  have hall := bvs_one bq
  have g0 : wx.cell? ⟨w.heap.size + 1 + 1, 0, none⟩ = some _ := S4.out.y.cell (j := 0) rfl
  have g1 : wx.cell? ⟨w.heap.size + 1 + 1, 1, none⟩ = some _ := S4.out.y.cell (j := 1) rfl
  have g2 : wx.cell? ⟨w.heap.size + 1 + 1, 2, none⟩ = some _ := S4.out.y.cell (j := 2) rfl
  have g3 : wx.cell? ⟨w.heap.size + 1 + 1, 3, none⟩ = some _ := S4.out.y.cell (j := 3) rfl
  have g4 : wx.cell? ⟨w.heap.size + 1 + 1, 4, none⟩ = some _ := S4.out.y.cell (j := 4) rfl
  have g5 : wx.cell? ⟨w.heap.size + 1 + 1, 5, none⟩ = some _ := S4.out.y.cell (j := 5) rfl
  have f0 : wx.frozen? ⟨w.heap.size + 1 + 1, 0, none⟩ = false := S4.out.y.frozen (j := 0) (by omega)
  have f1 : wx.frozen? ⟨w.heap.size + 1 + 1, 1, none⟩ = false := S4.out.y.frozen (j := 1) (by omega)
  have f2 : wx.frozen? ⟨w.heap.size + 1 + 1, 2, none⟩ = false := S4.out.y.frozen (j := 2) (by omega)
  have f3 : wx.frozen? ⟨w.heap.size + 1 + 1, 3, none⟩ = false := S4.out.y.frozen (j := 3) (by omega)
  have f4 : wx.frozen? ⟨w.heap.size + 1 + 1, 4, none⟩ = false := S4.out.y.frozen (j := 4) (by omega)
  have f5 : wx.frozen? ⟨w.heap.size + 1 + 1, 5, none⟩ = false := S4.out.y.frozen (j := 5) (by omega)
  go_region_held3 (fun w' => w'.cell? ⟨w.heap.size, 0, none⟩ = some (.int .i64 N) ∧ w'.cell? ⟨w.heap.size, 1, none⟩ = some (.slice A' m' c') ∧ w'.cell? ⟨w.heap.size, 2, none⟩ = some (.bool dead') ∧ w'.cell? ⟨w.heap.size, 3, none⟩ = some (.int .i64 fu') ∧ w'.cell? ⟨w.heap.size, 4, none⟩ = some (.int .i64 fa') ∧ w'.cell? ⟨w.heap.size, 5, none⟩ = some (.int .i64 done') ∧ w'.rangeAt (w.heap.size + 1 + 1 + 1 + 1) 0 (bvs bq) ∧ w'.there (w.heap.size + 1 + 1 + 1) 0 64)
    (first | with_reducible exact HK0.out | with_reducible exact HK1.out | with_reducible exact HK2.out)
    (fail)
  go_wp2
  exact bodyPost_ret (results_ccs rfl _ _ (w.heap.size + 2) (w.heap.size + 3) (rfL N (.slice A' m' c') dead' fu' fa' done') (bvs bq) _ _ rfl SZ.out.y.rg Try.underlying30 rfl ref_size rfl SZ.out.z.rg Try.underlying37 rfl (size_of HZ.out)) rfl ⟨A', m', c', rfl, HE.out.mv (mv_tail HM.out _ _ _ _ _ _ _) (fun x hx hS => by have h1 := HA.out x hx; unfold shS at hS; rcases h1 with h1 | h1; have h2 := HLT.out x (h1 ▸ hx); omega; omega), fun x hx => (HA.out x hx).imp id fun h1 => by omega, SZ.out.below⟩
end Go.Proofs.Ytionbjocfepkaaa
