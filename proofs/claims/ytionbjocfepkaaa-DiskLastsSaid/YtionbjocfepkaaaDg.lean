/-
  CONTRACTS OF PACKAGE disk: Read whole.
-/
import Derived.Test.YtionbjocfepkaaaDf
namespace Go.Proofs.Ytionbjocfepkaaa
set_option linter.unusedVariables false
open Go.RowKit Go.WideShapes Go.ChangeShapes

theorem there_alloc2 {w : World} {b o n : Nat} (h : w.there b o n) (ob : Obj) : (w.alloc ob).there b o n := World.there_alloc h ob

/-- What Read has made when it calls operate. -/
structure RdW (w : World) (d : Value) (i : Int) (w' : World) : Prop where
  below : Below w.heap.size w w'
  size : w.heap.size + 1 + 1 + 1 < w'.heap.size
  c0 : w'.cell? ⟨w.heap.size, 0, none⟩ = some d
  c1 : w'.cell? ⟨w.heap.size + 1, 0, none⟩ = some (.int .i64 i)
  t2 : w'.there (w.heap.size + 1 + 1) 0 64
  t3 : w'.there (w.heap.size + 1 + 1 + 1) 0 64
  r3 : w'.rangeAt (w.heap.size + 1 + 1 + 1) 0 (bvs Zb)
theorem Z64_range (w : World) : (w.alloc (.cells Z64 37)).rangeAt w.heap.size 0 (bvs Zb) :=
  rowIs_range (Z64_new w) 0 _ fun j v hv => by
    obtain ⟨hj, rfl⟩ := bvs_at _ _ _ hv
    rw [Zb_len] at hj
    exact ⟨by omega, by rw [Zb_at]⟩
theorem RdW.mk_ (w : World) (d : Value) (i : Int) (hd : ∀ cs, d ≠ .agg cs) : RdW w d i ((((w.alloc (.cells #[d] 24)).alloc (.cells #[.int .i64 i] 3)).alloc (.cells Z64 37)).alloc (.cells Z64 37)) := by
  obtain ⟨hb, h0, h1⟩ := box2 w d (.int .i64 i) 24 3
  have e2 : ((w.alloc (.cells #[d] 24)).alloc (.cells #[.int .i64 i] 3)).heap.size = w.heap.size + 1 + 1 := by simp
  have e3 : (((w.alloc (.cells #[d] 24)).alloc (.cells #[.int .i64 i] 3)).alloc (.cells Z64 37)).heap.size = w.heap.size + 1 + 1 + 1 := by simp
  have T2 := Z64_there ((w.alloc (.cells #[d] 24)).alloc (.cells #[.int .i64 i] 3))
  have T3 := Z64_there (((w.alloc (.cells #[d] 24)).alloc (.cells #[.int .i64 i] 3)).alloc (.cells Z64 37))
  have R3 := Z64_range (((w.alloc (.cells #[d] 24)).alloc (.cells #[.int .i64 i] 3)).alloc (.cells Z64 37))
  rw [e2] at T2
  rw [e3] at T3 R3
  exact ⟨(hb.alloc (by simp; omega) _).alloc (by simp; omega) _, by simp, (cell_alloc_old (by simp; omega)).trans ((cell_alloc_old (by simp; omega)).trans h0), (cell_alloc_old (by simp <;> omega)).trans ((cell_alloc_old (by simp)).trans h1), World.there_alloc T2 _, T3, R3⟩
theorem RdW.drew {w : World} {d : Value} {i : Int} {w' : World} (h : RdW w d i w') : RdW w d i w'.drew := ⟨h.below.drew, h.size, h.c0, h.c1, h.t2, h.t3, h.r3⟩

theorem results_cell_tmp {P : Program} {fn : Func} {p t : Tmp} {ty : TypeId} (h : fn.results = #[.cell p ty, .tmp t]) (tmps : Array Value) (w : World) (b o : Nat) (cs : List Value) (d : TypeDesc)
    (hp : tmps.getD p undef = .pointer (some ⟨b, o, none⟩)) (hc : w.rangeAt b o cs)
    (hu : P.underlying ty = some d) (hd : d.isRow = true) (hi : (P.info? ty).map (·.size) = some cs.length) :
    (results fn tmps).run P w = .ok (.tuple #[.agg cs.toArray, tmps.getD t undef]) w := by
  have hp' : tmps[p]?.getD undef = .pointer (some ⟨b, o, none⟩) := by simpa using hp
  simp [results, h, hp', asAddr, run_loadVar_mid w b o ty cs d hc hu hd hi]

set_option maxRecDepth 100000 in
/-- Read, whatever operate comes to. -/
theorem read_by {w : World} (d : Value) (hd : ∀ cs, d ≠ .agg cs) (hdp : ∃ p, d = .pointer p) (i : Int) (b : Bool) (x : Int) (l : List UInt8) (hl : l.length = 64) (R : World → Prop)
    (hhas : ∀ w', Below w.heap.size w w' → Calls Try.prog 41 #[d, .int .i64 i] w' fun e w'' => e = .returned (.bool b) ∧ w'' = w')
    (hop : ∀ w', RdW w d i w' → Calls Try.prog 43 #[d, .bool b, .func (.func 44) #[] #[rp w.heap.size, rp (w.heap.size + 1), rp (w.heap.size + 1 + 1 + 1)]] w' fun e w'' =>
      e = .returned (.int .i64 x) ∧ w''.rangeAt (w.heap.size + 1 + 1 + 1) 0 (bvs l) ∧ w''.there (w.heap.size + 1 + 1) 0 64 ∧ R w'') :
    Calls Try.prog 21 #[d, .int .i64 i] w fun e w' => e = .returned (.tuple #[.agg (bvs l).toArray, .int .i64 x]) ∧ ∃ w2, R w2 ∧ w' = w2.setCells (w.heap.size + 1 + 1) 0 (bvs l) := by
  obtain ⟨p, rfl⟩ := hdp
  have hr := RdW.mk_ w (.pointer p) i hd
  have hr' := hr.drew
  have c0 := hr.c0
  have c1 := hr.c1
  have HR := Lib.hid hr'
  have hbe := hr.below
  have HHAS := Lib.hid hhas
  have HOP := Lib.hid hop
  have HL := Lib.hid hl
  clear hr hr' hhas hop hl
  go_enter Try.func21, Try.ntmps21
  go_wp2_with (with_reducible refine al_block rfl rfl ?_)
  refine wp_region_tail 5 (by kernel_rfl) (by kernel_rfl) ?_
  simp only [List.take_succ_cons, List.take_zero, List.drop_succ_cons, List.drop_zero]
  still_step
  still_step
  still_step
  still_call (HHAS.out _ hbe.drew)
  still_step
  refine wpStill_nil ?_
  go_wp2_with (first
    | (go_at_call 43; refine (HOP.out _ HR.out).mono ?_; rintro e w2 ⟨rfl, hrg, hth, hq⟩)
    | (with_reducible refine ld_block rfl _ rfl (w.heap.size + 1 + 1 + 1) 0 l HL rfl hrg ?_)
    | (with_reducible refine st_block rfl _ _ rfl (w.heap.size + 1 + 1) 0 l HL rfl rfl hth ?_))
  exact bodyPost_ret (results_cell_tmp rfl _ _ (w.heap.size + 1 + 1) 0 (bvs l) _ rfl (there_set HL.out hth) Try.underlying37 rfl (size_of HL.out)) rfl ⟨rfl, w2, hq, rfl⟩
end Go.Proofs.Ytionbjocfepkaaa
