/-
  CONTRACTS OF THE STATEMENTS' HELPERS: should, part g.
-/
import Derived.Test.YtionbjocfepkaaaRk
namespace Go.Proofs.Ytionbjocfepkaaa
set_option linter.unusedVariables false
set_option linter.unusedSimpArgs false
open Go.RowKit Go.WideShapes Go.ChangeShapes Go.Deep


set_option maxRecDepth 100000 in
set_option maxHeartbeats 1500000 in
theorem should_5d {w : World} {A : Option Addr} {l c : Nat} {es : List En} (h : Ew w A l c es) (hl : l ≤ 1000000) {s : Rs} (hs : s.Ok) (hd : s.done ≤ 4611686018427387904) (N : Int) (hN : N ≤ 2048) (kind n : Int) (b : UInt8) {B : Nat} {KA : Option Addr} {kl kc : Nat} {ks : List Bool} (hk : SlV w B KA kl kc (bls ks)) (hB : B ≤ w.heap.size) (hkd : whichI kind = 5) (hdd : s.dead = true) :
    Calls Try.prog 10 #[s.val N (.slice A l c), actV kind n b KA kl kc] w (ShPost w A N s es Zb 9) := by
  obtain ⟨dead, fu, fa, done⟩ := s
  simp only at hdd
  subst hdd
  have HEW := Lib.hid h
  have HK := Lib.hid hkd
  have HKS := Lib.hid hk
  have S0 := Lib.hid (Sh.start w N (.slice A l c) true fu fa done kind n b KA kl kc)
  have HZ := Lib.hid Zb_len
  have HLT := Lib.hid (fun x (hx : A = some x) => h.lt hx)
  have c0 := S0.out.a.cell (j := 0) rfl
  have c1 := S0.out.a.cell (j := 1) rfl
  have c2 := S0.out.a.cell (j := 2) rfl
  have c3 := S0.out.a.cell (j := 3) rfl
  clear h hs hd hkd hk
  obtain ⟨bq, hbq⟩ : ∃ bq, Zb = bq := ⟨_, rfl⟩
  rw [hbq] at S0 HZ ⊢
  clear hbq
  go_enter Try.func10, Try.ntmps10
  go_wp2_with (first
    | (with_reducible refine al_block rfl rfl ?_)
    | (go_at_call 13; refine (which_any kind n b KA kl kc _).mono ?_; rintro e w2 ⟨rfl, hb2⟩; rw [HK.out]; have S1 := Lib.hid (S0.out.next hb2); have e0 := S1.out.a.cell (j := 0) rfl; have e1 := S1.out.a.cell (j := 1) rfl; have e2 := S1.out.a.cell (j := 2) rfl; have e3 := S1.out.a.cell (j := 3) rfl; have x2 := S1.out.x.cell (j := 2) rfl; clear hb2)
    | fail)
  have S4 := Lib.hid S1.out
  have HE := Lib.hid (HEW.out.below S1.out.below)
  have HM := Lib.hid (Mv.refl (shS w) w2)
  clear e0 e1 e2 e3 x2 S1
  generalize w2 = wx at S4 HM HE ⊢
  have SX := Lib.hid S4.out
  have SY : Hid (Sh w (rfL N (.slice A l c) true fu fa done) (acL kind n b KA kl kc) (rfL N (.slice A l c) true fu fa done) bq bq ((((((wx.setCell ⟨w.heap.size + 1 + 1, 0, none⟩ (.int .i64 N)).setCell ⟨w.heap.size + 1 + 1, 1, none⟩ (.slice A l c)).setCell ⟨w.heap.size + 1 + 1, 2, none⟩ (.bool true)).setCell ⟨w.heap.size + 1 + 1, 3, none⟩ (.int .i64 fu)).setCell ⟨w.heap.size + 1 + 1, 4, none⟩ (.int .i64 fa)).setCell ⟨w.heap.size + 1 + 1, 5, none⟩ (.int .i64 done))) := Lib.hid (SX.out.sety (y' := rfL N (.slice A l c) true fu fa done) rfl)
  have DSX := Lib.hid SX.out.drew
  have HK0 := Lib.hid (show wx.drew.cell? ⟨w.heap.size, 0, none⟩ = some (.int .i64 N) ∧ wx.drew.cell? ⟨w.heap.size, 1, none⟩ = some (.slice A l c) ∧ wx.drew.cell? ⟨w.heap.size, 2, none⟩ = some (.bool true) ∧ wx.drew.cell? ⟨w.heap.size, 3, none⟩ = some (.int .i64 fu) ∧ wx.drew.cell? ⟨w.heap.size, 4, none⟩ = some (.int .i64 fa) ∧ wx.drew.cell? ⟨w.heap.size, 5, none⟩ = some (.int .i64 done) ∧ wx.drew.rangeAt (w.heap.size + 1 + 1 + 1 + 1) 0 (bvs bq) ∧ wx.drew.there (w.heap.size + 1 + 1 + 1) 0 64 from ⟨DSX.out.x.cell (j := 0) rfl, DSX.out.x.cell (j := 1) rfl, DSX.out.x.cell (j := 2) rfl, DSX.out.x.cell (j := 3) rfl, DSX.out.x.cell (j := 4) rfl, DSX.out.x.cell (j := 5) rfl, DSX.out.q.rg, DSX.out.z.th⟩)
  have DSY := Lib.hid SY.out.drew
  have HK1 := Lib.hid (show ((((((wx.setCell ⟨w.heap.size + 1 + 1, 0, none⟩ (.int .i64 N)).setCell ⟨w.heap.size + 1 + 1, 1, none⟩ (.slice A l c)).setCell ⟨w.heap.size + 1 + 1, 2, none⟩ (.bool true)).setCell ⟨w.heap.size + 1 + 1, 3, none⟩ (.int .i64 fu)).setCell ⟨w.heap.size + 1 + 1, 4, none⟩ (.int .i64 fa)).setCell ⟨w.heap.size + 1 + 1, 5, none⟩ (.int .i64 done)).drew.cell? ⟨w.heap.size, 0, none⟩ = some (.int .i64 N) ∧ ((((((wx.setCell ⟨w.heap.size + 1 + 1, 0, none⟩ (.int .i64 N)).setCell ⟨w.heap.size + 1 + 1, 1, none⟩ (.slice A l c)).setCell ⟨w.heap.size + 1 + 1, 2, none⟩ (.bool true)).setCell ⟨w.heap.size + 1 + 1, 3, none⟩ (.int .i64 fu)).setCell ⟨w.heap.size + 1 + 1, 4, none⟩ (.int .i64 fa)).setCell ⟨w.heap.size + 1 + 1, 5, none⟩ (.int .i64 done)).drew.cell? ⟨w.heap.size, 1, none⟩ = some (.slice A l c) ∧ ((((((wx.setCell ⟨w.heap.size + 1 + 1, 0, none⟩ (.int .i64 N)).setCell ⟨w.heap.size + 1 + 1, 1, none⟩ (.slice A l c)).setCell ⟨w.heap.size + 1 + 1, 2, none⟩ (.bool true)).setCell ⟨w.heap.size + 1 + 1, 3, none⟩ (.int .i64 fu)).setCell ⟨w.heap.size + 1 + 1, 4, none⟩ (.int .i64 fa)).setCell ⟨w.heap.size + 1 + 1, 5, none⟩ (.int .i64 done)).drew.cell? ⟨w.heap.size, 2, none⟩ = some (.bool true) ∧ ((((((wx.setCell ⟨w.heap.size + 1 + 1, 0, none⟩ (.int .i64 N)).setCell ⟨w.heap.size + 1 + 1, 1, none⟩ (.slice A l c)).setCell ⟨w.heap.size + 1 + 1, 2, none⟩ (.bool true)).setCell ⟨w.heap.size + 1 + 1, 3, none⟩ (.int .i64 fu)).setCell ⟨w.heap.size + 1 + 1, 4, none⟩ (.int .i64 fa)).setCell ⟨w.heap.size + 1 + 1, 5, none⟩ (.int .i64 done)).drew.cell? ⟨w.heap.size, 3, none⟩ = some (.int .i64 fu) ∧ ((((((wx.setCell ⟨w.heap.size + 1 + 1, 0, none⟩ (.int .i64 N)).setCell ⟨w.heap.size + 1 + 1, 1, none⟩ (.slice A l c)).setCell ⟨w.heap.size + 1 + 1, 2, none⟩ (.bool true)).setCell ⟨w.heap.size + 1 + 1, 3, none⟩ (.int .i64 fu)).setCell ⟨w.heap.size + 1 + 1, 4, none⟩ (.int .i64 fa)).setCell ⟨w.heap.size + 1 + 1, 5, none⟩ (.int .i64 done)).drew.cell? ⟨w.heap.size, 4, none⟩ = some (.int .i64 fa) ∧ ((((((wx.setCell ⟨w.heap.size + 1 + 1, 0, none⟩ (.int .i64 N)).setCell ⟨w.heap.size + 1 + 1, 1, none⟩ (.slice A l c)).setCell ⟨w.heap.size + 1 + 1, 2, none⟩ (.bool true)).setCell ⟨w.heap.size + 1 + 1, 3, none⟩ (.int .i64 fu)).setCell ⟨w.heap.size + 1 + 1, 4, none⟩ (.int .i64 fa)).setCell ⟨w.heap.size + 1 + 1, 5, none⟩ (.int .i64 done)).drew.cell? ⟨w.heap.size, 5, none⟩ = some (.int .i64 done) ∧ ((((((wx.setCell ⟨w.heap.size + 1 + 1, 0, none⟩ (.int .i64 N)).setCell ⟨w.heap.size + 1 + 1, 1, none⟩ (.slice A l c)).setCell ⟨w.heap.size + 1 + 1, 2, none⟩ (.bool true)).setCell ⟨w.heap.size + 1 + 1, 3, none⟩ (.int .i64 fu)).setCell ⟨w.heap.size + 1 + 1, 4, none⟩ (.int .i64 fa)).setCell ⟨w.heap.size + 1 + 1, 5, none⟩ (.int .i64 done)).drew.rangeAt (w.heap.size + 1 + 1 + 1 + 1) 0 (bvs bq) ∧ ((((((wx.setCell ⟨w.heap.size + 1 + 1, 0, none⟩ (.int .i64 N)).setCell ⟨w.heap.size + 1 + 1, 1, none⟩ (.slice A l c)).setCell ⟨w.heap.size + 1 + 1, 2, none⟩ (.bool true)).setCell ⟨w.heap.size + 1 + 1, 3, none⟩ (.int .i64 fu)).setCell ⟨w.heap.size + 1 + 1, 4, none⟩ (.int .i64 fa)).setCell ⟨w.heap.size + 1 + 1, 5, none⟩ (.int .i64 done)).drew.there (w.heap.size + 1 + 1 + 1) 0 64 from ⟨DSY.out.x.cell (j := 0) rfl, DSY.out.x.cell (j := 1) rfl, DSY.out.x.cell (j := 2) rfl, DSY.out.x.cell (j := 3) rfl, DSY.out.x.cell (j := 4) rfl, DSY.out.x.cell (j := 5) rfl, DSY.out.q.rg, DSY.out.z.th⟩)
  have SZ : Hid (Sh w _ _ _ _ _ (((((((wx.setCell ⟨w.heap.size + 1 + 1, 0, none⟩ (.int .i64 N)).setCell ⟨w.heap.size + 1 + 1, 1, none⟩ (.slice A l c)).setCell ⟨w.heap.size + 1 + 1, 2, none⟩ (.bool true)).setCell ⟨w.heap.size + 1 + 1, 3, none⟩ (.int .i64 fu)).setCell ⟨w.heap.size + 1 + 1, 4, none⟩ (.int .i64 fa)).setCell ⟨w.heap.size + 1 + 1, 5, none⟩ (.int .i64 done)).drew.setCells (w.heap.size + 1 + 1 + 1) 0 (bvs bq))) := Lib.hid (DSY.out.setz HZ.out)
  have HK2 := Lib.hid (show (((((((wx.setCell ⟨w.heap.size + 1 + 1, 0, none⟩ (.int .i64 N)).setCell ⟨w.heap.size + 1 + 1, 1, none⟩ (.slice A l c)).setCell ⟨w.heap.size + 1 + 1, 2, none⟩ (.bool true)).setCell ⟨w.heap.size + 1 + 1, 3, none⟩ (.int .i64 fu)).setCell ⟨w.heap.size + 1 + 1, 4, none⟩ (.int .i64 fa)).setCell ⟨w.heap.size + 1 + 1, 5, none⟩ (.int .i64 done)).drew.setCells (w.heap.size + 1 + 1 + 1) 0 (bvs bq)).cell? ⟨w.heap.size, 0, none⟩ = some (.int .i64 N) ∧ (((((((wx.setCell ⟨w.heap.size + 1 + 1, 0, none⟩ (.int .i64 N)).setCell ⟨w.heap.size + 1 + 1, 1, none⟩ (.slice A l c)).setCell ⟨w.heap.size + 1 + 1, 2, none⟩ (.bool true)).setCell ⟨w.heap.size + 1 + 1, 3, none⟩ (.int .i64 fu)).setCell ⟨w.heap.size + 1 + 1, 4, none⟩ (.int .i64 fa)).setCell ⟨w.heap.size + 1 + 1, 5, none⟩ (.int .i64 done)).drew.setCells (w.heap.size + 1 + 1 + 1) 0 (bvs bq)).cell? ⟨w.heap.size, 1, none⟩ = some (.slice A l c) ∧ (((((((wx.setCell ⟨w.heap.size + 1 + 1, 0, none⟩ (.int .i64 N)).setCell ⟨w.heap.size + 1 + 1, 1, none⟩ (.slice A l c)).setCell ⟨w.heap.size + 1 + 1, 2, none⟩ (.bool true)).setCell ⟨w.heap.size + 1 + 1, 3, none⟩ (.int .i64 fu)).setCell ⟨w.heap.size + 1 + 1, 4, none⟩ (.int .i64 fa)).setCell ⟨w.heap.size + 1 + 1, 5, none⟩ (.int .i64 done)).drew.setCells (w.heap.size + 1 + 1 + 1) 0 (bvs bq)).cell? ⟨w.heap.size, 2, none⟩ = some (.bool true) ∧ (((((((wx.setCell ⟨w.heap.size + 1 + 1, 0, none⟩ (.int .i64 N)).setCell ⟨w.heap.size + 1 + 1, 1, none⟩ (.slice A l c)).setCell ⟨w.heap.size + 1 + 1, 2, none⟩ (.bool true)).setCell ⟨w.heap.size + 1 + 1, 3, none⟩ (.int .i64 fu)).setCell ⟨w.heap.size + 1 + 1, 4, none⟩ (.int .i64 fa)).setCell ⟨w.heap.size + 1 + 1, 5, none⟩ (.int .i64 done)).drew.setCells (w.heap.size + 1 + 1 + 1) 0 (bvs bq)).cell? ⟨w.heap.size, 3, none⟩ = some (.int .i64 fu) ∧ (((((((wx.setCell ⟨w.heap.size + 1 + 1, 0, none⟩ (.int .i64 N)).setCell ⟨w.heap.size + 1 + 1, 1, none⟩ (.slice A l c)).setCell ⟨w.heap.size + 1 + 1, 2, none⟩ (.bool true)).setCell ⟨w.heap.size + 1 + 1, 3, none⟩ (.int .i64 fu)).setCell ⟨w.heap.size + 1 + 1, 4, none⟩ (.int .i64 fa)).setCell ⟨w.heap.size + 1 + 1, 5, none⟩ (.int .i64 done)).drew.setCells (w.heap.size + 1 + 1 + 1) 0 (bvs bq)).cell? ⟨w.heap.size, 4, none⟩ = some (.int .i64 fa) ∧ (((((((wx.setCell ⟨w.heap.size + 1 + 1, 0, none⟩ (.int .i64 N)).setCell ⟨w.heap.size + 1 + 1, 1, none⟩ (.slice A l c)).setCell ⟨w.heap.size + 1 + 1, 2, none⟩ (.bool true)).setCell ⟨w.heap.size + 1 + 1, 3, none⟩ (.int .i64 fu)).setCell ⟨w.heap.size + 1 + 1, 4, none⟩ (.int .i64 fa)).setCell ⟨w.heap.size + 1 + 1, 5, none⟩ (.int .i64 done)).drew.setCells (w.heap.size + 1 + 1 + 1) 0 (bvs bq)).cell? ⟨w.heap.size, 5, none⟩ = some (.int .i64 done) ∧ (((((((wx.setCell ⟨w.heap.size + 1 + 1, 0, none⟩ (.int .i64 N)).setCell ⟨w.heap.size + 1 + 1, 1, none⟩ (.slice A l c)).setCell ⟨w.heap.size + 1 + 1, 2, none⟩ (.bool true)).setCell ⟨w.heap.size + 1 + 1, 3, none⟩ (.int .i64 fu)).setCell ⟨w.heap.size + 1 + 1, 4, none⟩ (.int .i64 fa)).setCell ⟨w.heap.size + 1 + 1, 5, none⟩ (.int .i64 done)).drew.setCells (w.heap.size + 1 + 1 + 1) 0 (bvs bq)).rangeAt (w.heap.size + 1 + 1 + 1 + 1) 0 (bvs bq) ∧ (((((((wx.setCell ⟨w.heap.size + 1 + 1, 0, none⟩ (.int .i64 N)).setCell ⟨w.heap.size + 1 + 1, 1, none⟩ (.slice A l c)).setCell ⟨w.heap.size + 1 + 1, 2, none⟩ (.bool true)).setCell ⟨w.heap.size + 1 + 1, 3, none⟩ (.int .i64 fu)).setCell ⟨w.heap.size + 1 + 1, 4, none⟩ (.int .i64 fa)).setCell ⟨w.heap.size + 1 + 1, 5, none⟩ (.int .i64 done)).drew.setCells (w.heap.size + 1 + 1 + 1) 0 (bvs bq)).there (w.heap.size + 1 + 1 + 1) 0 64 from ⟨SZ.out.x.cell (j := 0) rfl, SZ.out.x.cell (j := 1) rfl, SZ.out.x.cell (j := 2) rfl, SZ.out.x.cell (j := 3) rfl, SZ.out.x.cell (j := 4) rfl, SZ.out.x.cell (j := 5) rfl, SZ.out.q.rg, SZ.out.z.th⟩)
  have hu := Try.underlying37
  have hi : (Try.prog.info? 37).map (·.size) = some (bvs bq).length := size_of HZ.out
  have h64 : (bvs bq).length = 64 := by rw [bvs_len, HZ.out]
  have hall := bvs_one bq
  have g0 : wx.cell? ⟨w.heap.size + 1 + 1, 0, none⟩ = some _ := S4.out.y.cell (j := 0) rfl
  have g1 : wx.cell? ⟨w.heap.size + 1 + 1, 1, none⟩ = some _ := S4.out.y.cell (j := 1) rfl
  have g2 : wx.cell? ⟨w.heap.size + 1 + 1, 2, none⟩ = some _ := S4.out.y.cell (j := 2) rfl
  have g3 : wx.cell? ⟨w.heap.size + 1 + 1, 3, none⟩ = some _ := S4.out.y.cell (j := 3) rfl
  have g4 : wx.cell? ⟨w.heap.size + 1 + 1, 4, none⟩ = some _ := S4.out.y.cell (j := 4) rfl
  have g5 : wx.cell? ⟨w.heap.size + 1 + 1, 5, none⟩ = some _ := S4.out.y.cell (j := 5) rfl
  have f0 : wx.frozen? ⟨w.heap.size + 1 + 1, 0, none⟩ = false := S4.out.y.frozen (j := 0) (by omega)
  have f1 : wx.frozen? ⟨w.heap.size + 1 + 1, 1, none⟩ = false := S4.out.y.frozen (j := 1) (by omega)
  have f2 : wx.frozen? ⟨w.heap.size + 1 + 1, 2, none⟩ = false := S4.out.y.frozen (j := 2) (by omega)
  have f3 : wx.frozen? ⟨w.heap.size + 1 + 1, 3, none⟩ = false := S4.out.y.frozen (j := 3) (by omega)
  have f4 : wx.frozen? ⟨w.heap.size + 1 + 1, 4, none⟩ = false := S4.out.y.frozen (j := 4) (by omega)
  have f5 : wx.frozen? ⟨w.heap.size + 1 + 1, 5, none⟩ = false := S4.out.y.frozen (j := 5) (by omega)
  go_region_held3 (fun w' => w'.cell? ⟨w.heap.size, 0, none⟩ = some (.int .i64 N) ∧ w'.cell? ⟨w.heap.size, 1, none⟩ = some (.slice A l c) ∧ w'.cell? ⟨w.heap.size, 2, none⟩ = some (.bool true) ∧ w'.cell? ⟨w.heap.size, 3, none⟩ = some (.int .i64 fu) ∧ w'.cell? ⟨w.heap.size, 4, none⟩ = some (.int .i64 fa) ∧ w'.cell? ⟨w.heap.size, 5, none⟩ = some (.int .i64 done) ∧ w'.rangeAt (w.heap.size + 1 + 1 + 1 + 1) 0 (bvs bq) ∧ w'.there (w.heap.size + 1 + 1 + 1) 0 64)
    (first | with_reducible exact HK0.out | with_reducible exact HK1.out | with_reducible exact HK2.out)
    (fail)
  go_wp2
  exact bodyPost_ret (results_ccs rfl _ _ (w.heap.size + 2) (w.heap.size + 3) (rfL N (.slice A l c) true fu fa done) (bvs bq) _ _ rfl SZ.out.y.rg Try.underlying30 rfl ref_size rfl SZ.out.z.rg Try.underlying37 rfl (size_of HZ.out)) rfl ⟨A, l, c, rfl, HE.out.mv (mv_tail HM.out _ _ _ _ _ _ _) (fun x hx hS => by unfold shS at hS; have h2 := HLT.out x hx; omega), fun x hx => .inl rfl, SZ.out.below⟩
end Go.Proofs.Ytionbjocfepkaaa
