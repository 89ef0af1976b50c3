/-
  OBJECTS: the reader's leaf and change.
  OBJECTS: the reader's rows.
-/
import Derived.Test.YtcofkhmgmemkmaaGreatDoorK29
namespace Go.Proofs.YtcofkhmgmemkmaaGreatDoor
set_option linter.unusedVariables false
set_option linter.unusedSimpArgs false
open Go.RowKit Go.WideShapes Go.ChangeShapes Go.Deep Go.Shelf
attribute [local irreducible] wpQuiet

def leafR (s : St) : Lf × St := (⟨wordV s, idT (wordS s)⟩, (wordS s).s 32)
def chgR (s : St) : Ch × St := (⟨wordV s, (wordS s).num 1 == 1, textV ((wordS s).s 1)⟩, textS ((wordS s).s 1))
theorem RdS.below {w w' : World} {g : Nat} {s : St} (h : RdS w g s) (hb : Below w.heap.size w w') : RdS w' g s := ⟨h.1.below hb h.1.lt, h.2⟩
theorem res_lfi {fn : Func} {p : Tmp} (h : fn.results = #[.cell p 68]) (tmps : Array Value) (w : World) (b : Nat) (l : Lf) (hp : tmps.getD p undef = .pointer (some ⟨b, 0, none⟩)) (hc : w.rangeAt b 0 l.cells) :
    (results fn tmps).run Tryz.prog w = .ok (.agg l.cells.toArray) w :=
  results_cell_mid h tmps w b 0 l.cells _ hp hc Tryz.underlying68 rfl (by rw [lf_sz]; exact size_lf)
theorem size_ch : (Tryz.prog.info? 71).map (·.size) = some 3 := by kernel_rfl
theorem res_chi {fn : Func} {p : Tmp} (h : fn.results = #[.cell p 71]) (tmps : Array Value) (w : World) (b : Nat) (l : Ch) (hp : tmps.getD p undef = .pointer (some ⟨b, 0, none⟩)) (hc : w.rangeAt b 0 l.cells) :
    (results fn tmps).run Tryz.prog w = .ok (.agg l.cells.toArray) w :=
  results_cell_mid h tmps w b 0 l.cells _ hp hc Tryz.underlying71 rfl size_ch
set_option maxRecDepth 100000 in
theorem leafr_any {w : World} {g : Nat} {s : St} (h : RdS w g s) :
    Calls Tryz.prog 31 #[.agg #[S3.rp g]] w fun x w' => x = .returned (.agg (leafR s).1.cells.toArray) ∧ RdS w' g (leafR s).2 ∧ w.grownBy w' (some g) := by
  have hgl := h.1.lt
  obtain ⟨zl, hzl⟩ : ∃ z, zLf = z := ⟨_, rfl⟩
  have ZZ : Hid (∀ w : World, (zeroValue 68).run Tryz.prog w = .ok (.agg zl.cells.toArray) w) := Lib.hid (by rw [← hzl]; exact zero_lf)
  obtain ⟨w1, hw1⟩ : ∃ w1, w.alloc (.cells #[S3.rp g] 58) = w1 := ⟨_, rfl⟩
  have s1 : w1.heap.size = w.heap.size + 1 := by rw [← hw1]; simp
  obtain ⟨w2, hw2⟩ : ∃ w2, w1.alloc (.cells zl.cells.toArray 68) = w2 := ⟨_, rfl⟩
  have s2 : w2.heap.size = w.heap.size + 2 := by rw [← hw2]; simp; omega
  have b1 : Below w.heap.size w w1 := by rw [← hw1]; exact (Below.refl _ _).alloc (Nat.le_refl _) _
  have b12 : Below w1.heap.size w1 w2 := by rw [← hw2]; exact (Below.refl _ _).alloc (Nat.le_refl _) _
  have B2 : Hid (Below w.heap.size w w2) := Lib.hid (b1.trans (b12.mono b1.size))
  have K2 : w2.cell? ⟨w.heap.size, 0, none⟩ = some (S3.rp g) := by
    refine (World.cell?_of_block (b12.block w.heap.size (by omega))).trans ?_
    rw [← hw1]; exact (Boxed.new w 58 (S3.rp g)).cell
  have Y2 : Hid (Lies w2 (w.heap.size + 1) 33 zl.cells) := Lib.hid (by
    have := Lies.new w1 zl.cells 68
    rwa [lf_sz, hw2, s1] at this)
  have R2 : Hid (RdS w2 g s) := Lib.hid (h.below B2.out)
  obtain ⟨wv, hwv⟩ : ∃ v, wordV s = v := ⟨_, rfl⟩
  obtain ⟨sw, hsw⟩ : ∃ v, wordS s = v := ⟨_, rfl⟩
  obtain ⟨iv, hiv⟩ : ∃ v, idT sw = v := ⟨_, rfl⟩
  have C1 : Hid (∀ W, RdS W g s → Calls Tryz.prog 37 #[.agg #[S3.rp g]] W fun x w' => x = .returned (.string wv) ∧ RdS w' g sw ∧ W.grownBy w' (some g)) := Lib.hid fun W hW => by
    rw [← hwv, ← hsw]; exact word_any hW
  have C2 : Hid (∀ W, RdS W g sw → Calls Tryz.prog 32 #[.agg #[S3.rp g]] W fun x w' => x = .returned (idV iv) ∧ RdS w' g (sw.s 32) ∧ W.grownBy w' (some g)) := Lib.hid fun W hW => by
    rw [← hiv]; exact idr_any hW
  obtain ⟨lf, hlf⟩ : ∃ x : Lf, (⟨wv, iv⟩ : Lf) = x := ⟨_, rfl⟩
  have BL : Hid (Tryz.prog.built 68 [(0, .string wv), (1, idV iv)] = some lf.cells.toArray) := Lib.hid (by rw [← hlf]; exact built_lf ⟨wv, iv⟩)
  have hlr : leafR s = (lf, sw.s 32) := by unfold leafR; rw [hwv, hsw, hiv, hlf]
  rw [hlr]
  have HW1 := Lib.hid hw1
  have HW2 := Lib.hid hw2
  clear hw1 hw2 b1 b12 h hwv hsw hiv hlf hlr hzl
  go_enter Tryz.func31, Tryz.ntmps31
  go_upto_region 1 with (first
    | ((with_reducible refine alt 68 ?_ ?_ zl.cells ZZ.out ?_); rfl; rfl; rw [HW1.out, HW2.out]; (try simp only [Act.put, List.setIfInBounds_toArray, List.set_cons_succ, List.set_cons_zero, s1]))
    | fail)
  go_wp2_with fail
  refine (C1.out w2 R2.out).mono ?_
  rintro e w3 ⟨rfl, hR3, hG3⟩
  dsimp only
  have R3 := Lib.hid hR3
  have G3 := Lib.hid hG3
  have K3 := cell_grown hG3 (by omega) (by omega) K2
  have Y3 : Hid (Lies w3 (w.heap.size + 1) 33 zl.cells) := Lib.hid (Y2.out.kp (hG3.block _ (by omega) (by simp <;> omega)) hG3.size)
  have z3 := hG3.size
  clear hR3 hG3 K2
  go_wp2_with fail
  refine (C2.out w3 R3.out).mono ?_
  rintro e w4 ⟨rfl, hR4, hG4⟩
  dsimp only
  have R4 := Lib.hid hR4
  have G4 := Lib.hid hG4
  have Y4 : Hid (Lies w4 (w.heap.size + 1) 33 zl.cells) := Lib.hid (Y3.out.kp (hG4.block _ (by omega) (by simp <;> omega)) hG4.size)
  have z4 := hG4.size
  clear hR4 hG4 K3
  have T4 := Lib.hid Y4.out.th
  obtain ⟨w5, hw5⟩ : ∃ w5, w4.setCells (w.heap.size + 1) 0 lf.cells = w5 := ⟨_, rfl⟩
  have N5 : Hid (w5.rangeAt (w.heap.size + 1) 0 lf.cells) := Lib.hid (by rw [← hw5]; exact (Y4.out.set_ (lf_sz _)).rg)
  have B5 : Hid (Below (w.heap.size + 1) w4 w5) := Lib.hid (by rw [← hw5]; exact below_setCells (Below.refl _ _) (Nat.le_refl _) _ _)
  have HW5 := Lib.hid hw5
  clear hw5
  go_wp2_with (first
    | ((with_reducible refine bdt 68 [(0, .tmp 6), (1, .tmp 8)] ?_ ?_ lf.cells.toArray ?_ ?_); rfl; rfl; exact BL.out)
    | ((with_reducible refine stl (.tmp 2) (.tmp 9) ?_ ?_ (w.heap.size + 1) 0 lf ?_ ?_ T4.out ?_); rfl; rfl; rfl; rfl; rw [HW5.out])
    | fail)
  refine bodyPost_ret (res_lfi rfl _ _ (w.heap.size + 1) lf rfl N5.out) rfl ⟨rfl, ⟨R4.out.1.below B5.out (by omega), R4.out.2⟩, only_then (S3.only_trans (S3.only_of_below B2.out _) (S3.only_trans G3.out G4.out)) (B5.out.mono (by omega))⟩
theorem built_chg (p : ByteArray) (b : Bool) (t : ByteArray) : Tryz.prog.built 71 [(0, .string p), (1, .bool b), (2, .string t)] = some (Ch.cells ⟨p, b, t⟩).toArray := by kernel_rfl
set_option maxRecDepth 100000 in
theorem chgr_any {w : World} {g : Nat} {s : St} (h : RdS w g s) :
    Calls Tryz.prog 35 #[.agg #[S3.rp g]] w fun x w' => x = .returned (.agg (chgR s).1.cells.toArray) ∧ RdS w' g (chgR s).2 ∧ w.grownBy w' (some g) := by
  have hgl := h.1.lt
  obtain ⟨zl, hzl⟩ : ∃ z, (⟨⟨#[]⟩, false, ⟨#[]⟩⟩ : Ch) = z := ⟨_, rfl⟩
  have ZZ : Hid (∀ w : World, (zeroValue 71).run Tryz.prog w = .ok (.agg zl.cells.toArray) w) := Lib.hid (by rw [← hzl]; exact zero_chg)
  obtain ⟨w1, hw1⟩ : ∃ w1, w.alloc (.cells #[S3.rp g] 58) = w1 := ⟨_, rfl⟩
  have s1 : w1.heap.size = w.heap.size + 1 := by rw [← hw1]; simp
  obtain ⟨w2, hw2⟩ : ∃ w2, w1.alloc (.cells zl.cells.toArray 71) = w2 := ⟨_, rfl⟩
  have s2 : w2.heap.size = w.heap.size + 2 := by rw [← hw2]; simp; omega
  have b1 : Below w.heap.size w w1 := by rw [← hw1]; exact (Below.refl _ _).alloc (Nat.le_refl _) _
  have b12 : Below w1.heap.size w1 w2 := by rw [← hw2]; exact (Below.refl _ _).alloc (Nat.le_refl _) _
  have B2 : Hid (Below w.heap.size w w2) := Lib.hid (b1.trans (b12.mono b1.size))
  have K2 : w2.cell? ⟨w.heap.size, 0, none⟩ = some (S3.rp g) := by
    refine (World.cell?_of_block (b12.block w.heap.size (by omega))).trans ?_
    rw [← hw1]; exact (Boxed.new w 58 (S3.rp g)).cell
  have Y2 : Hid (Lies w2 (w.heap.size + 1) 3 zl.cells) := Lib.hid (by
    have := Lies.new w1 zl.cells 71
    rw [hw2, s1] at this; exact this)
  have R2 : Hid (RdS w2 g s) := Lib.hid (h.below B2.out)
  obtain ⟨wv, hwv⟩ : ∃ v, wordV s = v := ⟨_, rfl⟩
  obtain ⟨sw, hsw⟩ : ∃ v, wordS s = v := ⟨_, rfl⟩
  obtain ⟨nn, hnn⟩ : ∃ v, sw.num 1 = v := ⟨_, rfl⟩
  obtain ⟨bq, hbq⟩ : ∃ v, (nn == 1) = v := ⟨_, rfl⟩
  obtain ⟨su, hsu⟩ : ∃ v, sw.s 1 = v := ⟨_, rfl⟩
  obtain ⟨tv, htv⟩ : ∃ v, textV su = v := ⟨_, rfl⟩
  have hcq : ((nn : Int) == 1) = bq := by rw [← hbq, Bool.eq_iff_iff]; simp only [beq_iff_eq]; omega
  have C1 : Hid (∀ W, RdS W g s → Calls Tryz.prog 37 #[.agg #[S3.rp g]] W fun x w' => x = .returned (.string wv) ∧ RdS w' g sw ∧ W.grownBy w' (some g)) := Lib.hid fun W hW => by
    rw [← hwv, ← hsw]; exact word_any hW
  have C2 : Hid (∀ W, RdS W g sw → Calls Tryz.prog 28 #[S3.rp g] W fun x w' => x = .returned (.int .u8 (nn : Int)) ∧ RdS w' g su ∧ W.grownBy w' (some g)) := Lib.hid fun W hW => by
    rw [← hnn, ← hsu]; exact (S3.take_u8 hW.1).mono fun e w' h => ⟨h.1, ⟨h.2.1, Nat.le_trans (s_len sw 1) hW.2⟩, h.2.2⟩
  have C3 : Hid (∀ W, RdS W g su → Calls Tryz.prog 29 #[.agg #[S3.rp g]] W fun x w' => x = .returned (.string tv) ∧ RdS w' g (textS su) ∧ W.grownBy w' (some g)) := Lib.hid fun W hW => by
    rw [← htv]; exact text_any hW
  obtain ⟨lf, hlf⟩ : ∃ x : Ch, (⟨wv, bq, tv⟩ : Ch) = x := ⟨_, rfl⟩
  have BL : Hid (Tryz.prog.built 71 [(0, .string wv), (1, .bool bq), (2, .string tv)] = some lf.cells.toArray) := Lib.hid (by rw [← hlf]; exact built_chg wv bq tv)
  have hlr : chgR s = (lf, textS su) := by unfold chgR; rw [hwv, hsw, hnn, hsu, htv, hbq, hlf]
  rw [hlr]
  have HW1 := Lib.hid hw1
  have HW2 := Lib.hid hw2
  clear hw1 hw2 b1 b12 h hwv hsw hnn hbq hsu htv hlf hlr hzl
  go_enter Tryz.func35, Tryz.ntmps35
  go_upto_region 1 with (first
    | ((with_reducible refine alt 71 ?_ ?_ zl.cells ZZ.out ?_); rfl; rfl; rw [HW1.out, HW2.out]; (try simp only [Act.put, List.setIfInBounds_toArray, List.set_cons_succ, List.set_cons_zero, s1]))
    | fail)
  go_wp2_with fail
  refine (C1.out w2 R2.out).mono ?_
  rintro e w3 ⟨rfl, hR3, hG3⟩
  dsimp only
  have R3 := Lib.hid hR3
  have G3 := Lib.hid hG3
  have K3 := cell_grown hG3 (by omega) (by omega) K2
  have Y3 : Hid (Lies w3 (w.heap.size + 1) 3 zl.cells) := Lib.hid (Y2.out.kp (hG3.block _ (by omega) (by simp <;> omega)) hG3.size)
  have z3 := hG3.size
  clear hR3 hG3 K2
  go_wp2_with fail
  refine (C2.out w3 R3.out).mono ?_
  rintro e w4 ⟨rfl, hR4, hG4⟩
  dsimp only
  have R4 := Lib.hid hR4
  have G4 := Lib.hid hG4
  have K4 := cell_grown hG4 (by omega) (by omega) K3
  have Y4 : Hid (Lies w4 (w.heap.size + 1) 3 zl.cells) := Lib.hid (Y3.out.kp (hG4.block _ (by omega) (by simp <;> omega)) hG4.size)
  have z4 := hG4.size
  clear hR4 hG4 K3
  go_wp2_with fail
  refine (C3.out w4 R4.out).mono ?_
  rintro e w5 ⟨rfl, hR5, hG5⟩
  dsimp only
  have R5 := Lib.hid hR5
  have G5 := Lib.hid hG5
  have K5 := cell_grown hG5 (by omega) (by omega) K4
  have Y5 : Hid (Lies w5 (w.heap.size + 1) 3 zl.cells) := Lib.hid (Y4.out.kp (hG5.block _ (by omega) (by simp <;> omega)) hG5.size)
  have z5 := hG5.size
  clear hR5 hG5 K4
  have T5 := Lib.hid Y5.out.th
  obtain ⟨w6, hw6⟩ : ∃ w6, w5.setCells (w.heap.size + 1) 0 lf.cells = w6 := ⟨_, rfl⟩
  have N6 : Hid (w6.rangeAt (w.heap.size + 1) 0 lf.cells) := Lib.hid (by rw [← hw6]; exact (Y5.out.set_ rfl).rg)
  have B6 : Hid (Below (w.heap.size + 1) w5 w6) := Lib.hid (by rw [← hw6]; exact below_setCells (Below.refl _ _) (Nat.le_refl _) _ _)
  have HW6 := Lib.hid hw6
  clear hw6 K5
  go_wp2_with (first
    | ((with_reducible refine bdt 71 [(0, .tmp 11), (1, .tmp 12), (2, .tmp 14)] ?_ ?_ lf.cells.toArray ?_ ?_); rfl; rfl; exact BL.out)
    | ((with_reducible refine stc (.tmp 2) (.tmp 15) ?_ ?_ (w.heap.size + 1) 0 lf ?_ ?_ T5.out ?_); rfl; rfl; rfl; rfl; rw [HW6.out])
    | fail)
  refine bodyPost_ret (res_chi rfl _ _ (w.heap.size + 1) lf rfl N6.out) rfl ⟨rfl, ⟨R5.out.1.below B6.out (by omega), R5.out.2⟩, only_then (S3.only_trans (S3.only_of_below B2.out _) (S3.only_trans G3.out (S3.only_trans G4.out G5.out))) (B6.out.mono (by omega))⟩
end Go.Proofs.YtcofkhmgmemkmaaGreatDoor
namespace Go.Proofs.YtcofkhmgmemkmaaGreatDoor
set_option linter.unusedVariables false
set_option linter.unusedSimpArgs false
open Go.RowKit Go.WideShapes Go.ChangeShapes Go.Deep Go.Shelf
attribute [local irreducible] wpQuiet

/-- k of them, one behind the other. -/
def itS {α : Type} (f : St → α × St) : Nat → St → St
  | 0, s => s
  | k + 1, s => (f (itS f k s)).2
def itL {α : Type} (f : St → α × St) : Nat → St → List α
  | 0, _ => []
  | k + 1, s => itL f k s ++ [(f (itS f k s)).1]
theorem itL_len {α : Type} (f : St → α × St) : ∀ (k : Nat) (s : St), (itL f k s).length = k
  | 0, _ => rfl
  | k + 1, s => by simp [itL, itL_len f k s]
def idR (s : St) : Idv × St := (idT s, s.s 32)
theorem chr_sz (c : Ch) : c.cells.length = 3 := rfl
theorem ch_ones (l : List Ch) : ∀ u ∈ l.flatMap Ch.cells, u.oneCell' = true := fun u hu => by
  obtain ⟨i, _, hi⟩ := List.mem_flatMap.1 hu
  simp [Ch.cells] at hi
  rcases hi with rfl | rfl | rfl <;> rfl
theorem idr_ones (l : List Idv) : ∀ u ∈ l.flatMap Idv.cells, u.oneCell' = true := fun u hu => by
  obtain ⟨i, _, hi⟩ := List.mem_flatMap.1 hu
  exact S3.bvs_one _ u hi
theorem info_idr : (Tryz.prog.info? 27).map (fun i => (i.zero, i.size, i.bytes)) = some (some (.agg Idv.zero.cells.toArray), 32, 32) := by kernel_rfl
theorem info_chv : (Tryz.prog.info? 71).map (fun i => (i.zero, i.size, i.bytes)) = some (some (.agg (Ch.cells ⟨⟨#[]⟩, false, ⟨#[]⟩⟩).toArray), 3, 40) := by kernel_rfl
theorem idzr_sz : (Value.agg Idv.zero.cells.toArray).cells.size = 32 := by rfl
theorem chz_sz : (Value.agg (Ch.cells ⟨⟨#[]⟩, false, ⟨#[]⟩⟩).toArray).cells.size = 3 := by rfl
set_option maxRecDepth 100000 in
set_option maxHeartbeats 4000000 in
theorem rowsL_any {w : World} {g : Nat} {s : St} (h : RdS w g s) :
    Calls Tryz.prog 30 #[.agg #[S3.rp g], .func (.func 31) #[.agg #[S3.rp g]] #[]] w fun x w' => ∃ A c, x = .returned (.slice A (s.num 1) c) ∧ w'.ownsRow w.heap.size 68 33 (.slice A (s.num 1) c) (s.num 1) ((itL leafR (s.num 1) (s.s 1)).flatMap Lf.cells) ∧ RdS w' g (itS leafR (s.num 1) (s.s 1)) ∧ w.grownBy w' (some g) := by
  have hgl := h.1.lt
  obtain ⟨w1, hw1⟩ : ∃ w1, w.alloc (.cells #[S3.rp g] 58) = w1 := ⟨_, rfl⟩
  have s1 : w1.heap.size = w.heap.size + 1 := by rw [← hw1]; simp
  have B1 : Hid (Below w.heap.size w w1) := Lib.hid (by rw [← hw1]; exact (Below.refl _ _).alloc (Nat.le_refl _) _)
  have K1 : w1.cell? ⟨w.heap.size, 0, none⟩ = some (S3.rp g) := by rw [← hw1]; exact (Boxed.new w 58 (S3.rp g)).cell
  have R1 : Hid (RdS w1 g s) := Lib.hid (h.below B1.out)
  obtain ⟨n, hn⟩ : ∃ n, s.num 1 = n := ⟨_, rfl⟩
  have hn8 : n < 256 := by rw [← hn]; exact num_le _ _
  obtain ⟨su, hsu⟩ : ∃ v, s.s 1 = v := ⟨_, rfl⟩
  rw [hn, hsu]
  have C2 : Hid (∀ W, RdS W g s → Calls Tryz.prog 28 #[S3.rp g] W fun x w' => x = .returned (.int .u8 (n : Int)) ∧ RdS w' g su ∧ W.grownBy w' (some g)) := Lib.hid fun W hW => by
    rw [← hn, ← hsu]; exact (S3.take_u8 hW.1).mono fun e w' h => ⟨h.1, ⟨h.2.1, Nat.le_trans (s_len s 1) hW.2⟩, h.2.2⟩
  have CF : Hid (∀ W s', RdS W g s' → Calls Tryz.prog 31 #[.agg #[S3.rp g]] W fun x w' => x = .returned (.agg (leafR s').1.cells.toArray) ∧ RdS w' g (leafR s').2 ∧ W.grownBy w' (some g)) := Lib.hid fun W s' hW => leafr_any hW
  have HW1 := Lib.hid hw1
  clear hw1 h hn hsu
  go_enter Tryz.func30, Tryz.ntmps30
  go_upto_region 1 with fail
  rw [HW1.out]
  go_wp2_with fail
  refine (C2.out w1 R1.out).mono ?_
  rintro e w2 ⟨rfl, hR2, hG2⟩
  dsimp only
  have R2 := Lib.hid hR2
  have G2 : Hid (w.grownBy w2 (some g)) := Lib.hid (S3.only_trans (S3.only_of_below B1.out _) hG2)
  clear hR2 hG2 K1
  go_wp2_with fail
  go_loopw [5, 9] (fun v i wr => ∃ (k : Nat) (A : Option Addr) (c : Nat), k ≤ n ∧ i = .int .u8 (k : Int) ∧ v = .slice A k c ∧ Hid (wr.ownsRow w.heap.size 68 33 (.slice A k c) k ((itL leafR k su).flatMap Lf.cells)) ∧ Hid (RdS wr g (itS leafR k su)) ∧ Hid (w.grownBy wr (some g))) (fun _ i _ => n - (intOf i).toNat)
  case atStart => exact ⟨0, none, 0, Nat.zero_le _, rfl, rfl, Lib.hid (World.ownsRow_nil _ _ _ _), R2, G2⟩
  case round =>
    obtain ⟨k, A, c, hk, rfl, rfl, ho, hr, hg⟩ := hrel
    by_cases hlt : k < n
    · have hd : decide ((k : Int) < (n : Int)) = true := by simp; omega
      have hk0 : (0 : Int) ≤ (k : Int) := Int.natCast_nonneg _
      have hk1 : (k : Int) < (n : Int) := by omega
      have hwr : IntKind.u8.wrap ((k : Int) + 1) = (k : Int) + 1 := IntWalk.u8_in _ (by omega)
      obtain ⟨el, hel⟩ : ∃ e, (leafR (itS leafR k su)).1 = e := ⟨_, rfl⟩
      obtain ⟨sk, hsk⟩ : ∃ e, (leafR (itS leafR k su)).2 = e := ⟨_, rfl⟩
      have HS : Hid (itS leafR (k + 1) su = sk) := Lib.hid hsk
      have HL : Hid ((itL leafR (k + 1) su).flatMap Lf.cells = (itL leafR k su).flatMap Lf.cells ++ el.cells) := Lib.hid (by rw [← hel]; simp [itL])
      have CK : Hid (Calls Tryz.prog 31 #[.agg #[S3.rp g]] wr fun x w' => x = .returned (.agg el.cells.toArray) ∧ RdS w' g sk ∧ wr.grownBy w' (some g)) := Lib.hid (by
        rw [← hel, ← hsk]; exact CF.out wr _ hr.out)
      clear hel hsk
      go_wp2_with fail
      refine CK.out.mono ?_
      rintro e w3 ⟨rfl, hR3, hG3⟩
      dsimp only
      have R3 := Lib.hid hR3
      have G3 : Hid (w.grownBy w3 (some g)) := Lib.hid (S3.only_trans hg.out hG3)
      have O3 : Hid (w3.ownsRow w.heap.size 68 33 (.slice A k c) k ((itL leafR k su).flatMap Lf.cells)) := Lib.hid (own_keep ho.out fun b e => by
        obtain ⟨h1, h2, _⟩ := own_ty ho.out b e
        exact hG3.block b h2 (by simp <;> omega))
      clear hR3 hG3
      have hs3 := G3.out.size
      obtain ⟨i0, hi, hz, hz1, hz2⟩ := info_parts info_lf
      go_wp2_with (first
        | ((with_reducible refine oneL Tryz.underlying25 hi hz (k := 33) (by omega) (by omega) hz1 lfz_sz (.tmp 13) ?_ ?_ el.cells (lf_sz _) ?_ ?_); rfl; rfl; rfl; (try simp only [Act.put, List.setIfInBounds_toArray, List.set_cons_succ, List.set_cons_zero]))
        | (at_builtin; refine wpList_append_own (w3.alloc (.cells el.cells.toArray 68)) ?_ (.tmp 11) (.tmp 14) 25 ?_ w.heap.size 68 i0 (.agg zLf.cells.toArray) 33 48 Tryz.underlying25 hi hz hz1 hz2 lfz_sz (by omega) (.slice A k c) k ((itL leafR k su).flatMap Lf.cells) ?_ (O3.out.alloc _) ⟨w3.heap.size, 0, none⟩ 1 1 el.cells ?_ (lf_sz _) (World.news_of_block (heap_alloc_new w3 _)) (fun u hu => lf_ones [el] u (by simpa using hu)) (by unfold maxLen; omega) (by omega) (by simp; omega) ?_; rfl; rfl; rfl; rfl; intro v6 w6 own6 hg6 _; obtain ⟨A6, c6, hv6⟩ := own_shape own6; subst hv6; have O6 := Lib.hid own6; have G6 := Lib.hid hg6; clear own6 hg6)
        | fail)
      have g36 : w3.grownBy w6 (Value.slice A k c).ownBlock := S3.only_trans (S3.only_of_below ((Below.refl _ _).alloc (Nat.le_refl _) _) _) G6.out
      have hob : ∀ b, (Value.slice A k c).ownBlock = some b → w.heap.size ≤ b := fun b e => (own_ty O3.out b e).1
      go_roundw
      case rel =>
        refine ⟨k + 1, A6, c6, by omega, by go_num, rfl, Lib.hid (by rw [HL.out]; exact O6.out), Lib.hid ?_, Lib.hid ?_⟩
        · rw [HS.out]
          exact ⟨R3.out.1.keep fun j hj => g36.block j (by have := R3.out.1.lt; omega) (fun e => by have := hob j e.symm; omega), R3.out.2⟩
        · exact only_then G3.out ⟨g36.os, g36.tape, g36.output, g36.size, fun j hj => g36.block j (by omega) (fun e => by have := hob j e.symm; omega)⟩
      case measure => simp [intOf]; omega
    · have hd : decide ((k : Int) < (n : Int)) = false := by simp; omega
      obtain rfl : k = n := by omega
      go_wp2_with fail
      go_ret
      exact ⟨A, c, rfl, ho.out, hr.out, hg.out⟩
set_option maxRecDepth 100000 in
set_option maxHeartbeats 4000000 in
theorem rowsI_any {w : World} {g : Nat} {s : St} (h : RdS w g s) :
    Calls Tryz.prog 33 #[.agg #[S3.rp g], .func (.func 32) #[.agg #[S3.rp g]] #[]] w fun x w' => ∃ A c, x = .returned (.slice A (s.num 1) c) ∧ w'.ownsRow w.heap.size 27 32 (.slice A (s.num 1) c) (s.num 1) ((itL idR (s.num 1) (s.s 1)).flatMap Idv.cells) ∧ RdS w' g (itS idR (s.num 1) (s.s 1)) ∧ w.grownBy w' (some g) := by
  have hgl := h.1.lt
  obtain ⟨w1, hw1⟩ : ∃ w1, w.alloc (.cells #[S3.rp g] 58) = w1 := ⟨_, rfl⟩
  have s1 : w1.heap.size = w.heap.size + 1 := by rw [← hw1]; simp
  have B1 : Hid (Below w.heap.size w w1) := Lib.hid (by rw [← hw1]; exact (Below.refl _ _).alloc (Nat.le_refl _) _)
  have K1 : w1.cell? ⟨w.heap.size, 0, none⟩ = some (S3.rp g) := by rw [← hw1]; exact (Boxed.new w 58 (S3.rp g)).cell
  have R1 : Hid (RdS w1 g s) := Lib.hid (h.below B1.out)
  obtain ⟨n, hn⟩ : ∃ n, s.num 1 = n := ⟨_, rfl⟩
  have hn8 : n < 256 := by rw [← hn]; exact num_le _ _
  obtain ⟨su, hsu⟩ : ∃ v, s.s 1 = v := ⟨_, rfl⟩
  rw [hn, hsu]
  have C2 : Hid (∀ W, RdS W g s → Calls Tryz.prog 28 #[S3.rp g] W fun x w' => x = .returned (.int .u8 (n : Int)) ∧ RdS w' g su ∧ W.grownBy w' (some g)) := Lib.hid fun W hW => by
    rw [← hn, ← hsu]; exact (S3.take_u8 hW.1).mono fun e w' h => ⟨h.1, ⟨h.2.1, Nat.le_trans (s_len s 1) hW.2⟩, h.2.2⟩
  have CF : Hid (∀ W s', RdS W g s' → Calls Tryz.prog 32 #[.agg #[S3.rp g]] W fun x w' => x = .returned (.agg (idR s').1.cells.toArray) ∧ RdS w' g (idR s').2 ∧ W.grownBy w' (some g)) := Lib.hid fun W s' hW => idr_any hW
  have HW1 := Lib.hid hw1
  clear hw1 h hn hsu
  go_enter Tryz.func33, Tryz.ntmps33
  go_upto_region 1 with fail
  rw [HW1.out]
  go_wp2_with fail
  refine (C2.out w1 R1.out).mono ?_
  rintro e w2 ⟨rfl, hR2, hG2⟩
  dsimp only
  have R2 := Lib.hid hR2
  have G2 : Hid (w.grownBy w2 (some g)) := Lib.hid (S3.only_trans (S3.only_of_below B1.out _) hG2)
  clear hR2 hG2 K1
  go_wp2_with fail
  go_loopw [5, 9] (fun v i wr => ∃ (k : Nat) (A : Option Addr) (c : Nat), k ≤ n ∧ i = .int .u8 (k : Int) ∧ v = .slice A k c ∧ Hid (wr.ownsRow w.heap.size 27 32 (.slice A k c) k ((itL idR k su).flatMap Idv.cells)) ∧ Hid (RdS wr g (itS idR k su)) ∧ Hid (w.grownBy wr (some g))) (fun _ i _ => n - (intOf i).toNat)
  case atStart => exact ⟨0, none, 0, Nat.zero_le _, rfl, rfl, Lib.hid (World.ownsRow_nil _ _ _ _), R2, G2⟩
  case round =>
    obtain ⟨k, A, c, hk, rfl, rfl, ho, hr, hg⟩ := hrel
    by_cases hlt : k < n
    · have hd : decide ((k : Int) < (n : Int)) = true := by simp; omega
      have hk0 : (0 : Int) ≤ (k : Int) := Int.natCast_nonneg _
      have hk1 : (k : Int) < (n : Int) := by omega
      have hwr : IntKind.u8.wrap ((k : Int) + 1) = (k : Int) + 1 := IntWalk.u8_in _ (by omega)
      obtain ⟨el, hel⟩ : ∃ e, (idR (itS idR k su)).1 = e := ⟨_, rfl⟩
      obtain ⟨sk, hsk⟩ : ∃ e, (idR (itS idR k su)).2 = e := ⟨_, rfl⟩
      have HS : Hid (itS idR (k + 1) su = sk) := Lib.hid hsk
      have HL : Hid ((itL idR (k + 1) su).flatMap Idv.cells = (itL idR k su).flatMap Idv.cells ++ el.cells) := Lib.hid (by rw [← hel]; simp [itL])
      have CK : Hid (Calls Tryz.prog 32 #[.agg #[S3.rp g]] wr fun x w' => x = .returned (.agg el.cells.toArray) ∧ RdS w' g sk ∧ wr.grownBy w' (some g)) := Lib.hid (by
        rw [← hel, ← hsk]; exact CF.out wr _ hr.out)
      clear hel hsk
      go_wp2_with fail
      refine CK.out.mono ?_
      rintro e w3 ⟨rfl, hR3, hG3⟩
      dsimp only
      have R3 := Lib.hid hR3
      have G3 : Hid (w.grownBy w3 (some g)) := Lib.hid (S3.only_trans hg.out hG3)
      have O3 : Hid (w3.ownsRow w.heap.size 27 32 (.slice A k c) k ((itL idR k su).flatMap Idv.cells)) := Lib.hid (own_keep ho.out fun b e => by
        obtain ⟨h1, h2, _⟩ := own_ty ho.out b e
        exact hG3.block b h2 (by simp <;> omega))
      clear hR3 hG3
      have hs3 := G3.out.size
      obtain ⟨i0, hi, hz, hz1, hz2⟩ := info_parts info_idr
      go_wp2_with (first
        | ((with_reducible refine oneL Tryz.underlying28 hi hz (k := 32) (by omega) (by omega) hz1 idzr_sz (.tmp 13) ?_ ?_ el.cells (id_sz _) ?_ ?_); rfl; rfl; rfl; (try simp only [Act.put, List.setIfInBounds_toArray, List.set_cons_succ, List.set_cons_zero]))
        | (at_builtin; refine wpList_append_own (w3.alloc (.cells el.cells.toArray 27)) ?_ (.tmp 11) (.tmp 14) 28 ?_ w.heap.size 27 i0 (.agg Idv.zero.cells.toArray) 32 32 Tryz.underlying28 hi hz hz1 hz2 idzr_sz (by omega) (.slice A k c) k ((itL idR k su).flatMap Idv.cells) ?_ (O3.out.alloc _) ⟨w3.heap.size, 0, none⟩ 1 1 el.cells ?_ (id_sz _) (World.news_of_block (heap_alloc_new w3 _)) (fun u hu => idr_ones [el] u (by simpa using hu)) (by unfold maxLen; omega) (by omega) (by simp; omega) ?_; rfl; rfl; rfl; rfl; intro v6 w6 own6 hg6 _; obtain ⟨A6, c6, hv6⟩ := own_shape own6; subst hv6; have O6 := Lib.hid own6; have G6 := Lib.hid hg6; clear own6 hg6)
        | fail)
      have g36 : w3.grownBy w6 (Value.slice A k c).ownBlock := S3.only_trans (S3.only_of_below ((Below.refl _ _).alloc (Nat.le_refl _) _) _) G6.out
      have hob : ∀ b, (Value.slice A k c).ownBlock = some b → w.heap.size ≤ b := fun b e => (own_ty O3.out b e).1
      go_roundw
      case rel =>
        refine ⟨k + 1, A6, c6, by omega, by go_num, rfl, Lib.hid (by rw [HL.out]; exact O6.out), Lib.hid ?_, Lib.hid ?_⟩
        · rw [HS.out]
          exact ⟨R3.out.1.keep fun j hj => g36.block j (by have := R3.out.1.lt; omega) (fun e => by have := hob j e.symm; omega), R3.out.2⟩
        · exact only_then G3.out ⟨g36.os, g36.tape, g36.output, g36.size, fun j hj => g36.block j (by omega) (fun e => by have := hob j e.symm; omega)⟩
      case measure => simp [intOf]; omega
    · have hd : decide ((k : Int) < (n : Int)) = false := by simp; omega
      obtain rfl : k = n := by omega
      go_wp2_with fail
      go_ret
      exact ⟨A, c, rfl, ho.out, hr.out, hg.out⟩
set_option maxRecDepth 100000 in
set_option maxHeartbeats 4000000 in
theorem rowsC_any {w : World} {g : Nat} {s : St} (h : RdS w g s) :
    Calls Tryz.prog 34 #[.agg #[S3.rp g], .func (.func 35) #[.agg #[S3.rp g]] #[]] w fun x w' => ∃ A c, x = .returned (.slice A (s.num 1) c) ∧ w'.ownsRow w.heap.size 71 3 (.slice A (s.num 1) c) (s.num 1) ((itL chgR (s.num 1) (s.s 1)).flatMap Ch.cells) ∧ RdS w' g (itS chgR (s.num 1) (s.s 1)) ∧ w.grownBy w' (some g) := by
  have hgl := h.1.lt
  obtain ⟨w1, hw1⟩ : ∃ w1, w.alloc (.cells #[S3.rp g] 58) = w1 := ⟨_, rfl⟩
  have s1 : w1.heap.size = w.heap.size + 1 := by rw [← hw1]; simp
  have B1 : Hid (Below w.heap.size w w1) := Lib.hid (by rw [← hw1]; exact (Below.refl _ _).alloc (Nat.le_refl _) _)
  have K1 : w1.cell? ⟨w.heap.size, 0, none⟩ = some (S3.rp g) := by rw [← hw1]; exact (Boxed.new w 58 (S3.rp g)).cell
  have R1 : Hid (RdS w1 g s) := Lib.hid (h.below B1.out)
  obtain ⟨n, hn⟩ : ∃ n, s.num 1 = n := ⟨_, rfl⟩
  have hn8 : n < 256 := by rw [← hn]; exact num_le _ _
  obtain ⟨su, hsu⟩ : ∃ v, s.s 1 = v := ⟨_, rfl⟩
  rw [hn, hsu]
  have C2 : Hid (∀ W, RdS W g s → Calls Tryz.prog 28 #[S3.rp g] W fun x w' => x = .returned (.int .u8 (n : Int)) ∧ RdS w' g su ∧ W.grownBy w' (some g)) := Lib.hid fun W hW => by
    rw [← hn, ← hsu]; exact (S3.take_u8 hW.1).mono fun e w' h => ⟨h.1, ⟨h.2.1, Nat.le_trans (s_len s 1) hW.2⟩, h.2.2⟩
  have CF : Hid (∀ W s', RdS W g s' → Calls Tryz.prog 35 #[.agg #[S3.rp g]] W fun x w' => x = .returned (.agg (chgR s').1.cells.toArray) ∧ RdS w' g (chgR s').2 ∧ W.grownBy w' (some g)) := Lib.hid fun W s' hW => chgr_any hW
  have HW1 := Lib.hid hw1
  clear hw1 h hn hsu
  go_enter Tryz.func34, Tryz.ntmps34
  go_upto_region 1 with fail
  rw [HW1.out]
  go_wp2_with fail
  refine (C2.out w1 R1.out).mono ?_
  rintro e w2 ⟨rfl, hR2, hG2⟩
  dsimp only
  have R2 := Lib.hid hR2
  have G2 : Hid (w.grownBy w2 (some g)) := Lib.hid (S3.only_trans (S3.only_of_below B1.out _) hG2)
  clear hR2 hG2 K1
  go_wp2_with fail
  go_loopw [5, 9] (fun v i wr => ∃ (k : Nat) (A : Option Addr) (c : Nat), k ≤ n ∧ i = .int .u8 (k : Int) ∧ v = .slice A k c ∧ Hid (wr.ownsRow w.heap.size 71 3 (.slice A k c) k ((itL chgR k su).flatMap Ch.cells)) ∧ Hid (RdS wr g (itS chgR k su)) ∧ Hid (w.grownBy wr (some g))) (fun _ i _ => n - (intOf i).toNat)
  case atStart => exact ⟨0, none, 0, Nat.zero_le _, rfl, rfl, Lib.hid (World.ownsRow_nil _ _ _ _), R2, G2⟩
  case round =>
    obtain ⟨k, A, c, hk, rfl, rfl, ho, hr, hg⟩ := hrel
    by_cases hlt : k < n
    · have hd : decide ((k : Int) < (n : Int)) = true := by simp; omega
      have hk0 : (0 : Int) ≤ (k : Int) := Int.natCast_nonneg _
      have hk1 : (k : Int) < (n : Int) := by omega
      have hwr : IntKind.u8.wrap ((k : Int) + 1) = (k : Int) + 1 := IntWalk.u8_in _ (by omega)
      obtain ⟨el, hel⟩ : ∃ e, (chgR (itS chgR k su)).1 = e := ⟨_, rfl⟩
      obtain ⟨sk, hsk⟩ : ∃ e, (chgR (itS chgR k su)).2 = e := ⟨_, rfl⟩
      have HS : Hid (itS chgR (k + 1) su = sk) := Lib.hid hsk
      have HL : Hid ((itL chgR (k + 1) su).flatMap Ch.cells = (itL chgR k su).flatMap Ch.cells ++ el.cells) := Lib.hid (by rw [← hel]; simp [itL])
      have CK : Hid (Calls Tryz.prog 35 #[.agg #[S3.rp g]] wr fun x w' => x = .returned (.agg el.cells.toArray) ∧ RdS w' g sk ∧ wr.grownBy w' (some g)) := Lib.hid (by
        rw [← hel, ← hsk]; exact CF.out wr _ hr.out)
      clear hel hsk
      go_wp2_with fail
      refine CK.out.mono ?_
      rintro e w3 ⟨rfl, hR3, hG3⟩
      dsimp only
      have R3 := Lib.hid hR3
      have G3 : Hid (w.grownBy w3 (some g)) := Lib.hid (S3.only_trans hg.out hG3)
      have O3 : Hid (w3.ownsRow w.heap.size 71 3 (.slice A k c) k ((itL chgR k su).flatMap Ch.cells)) := Lib.hid (own_keep ho.out fun b e => by
        obtain ⟨h1, h2, _⟩ := own_ty ho.out b e
        exact hG3.block b h2 (by simp <;> omega))
      clear hR3 hG3
      have hs3 := G3.out.size
      obtain ⟨i0, hi, hz, hz1, hz2⟩ := info_parts info_chv
      go_wp2_with (first
        | ((with_reducible refine oneL Tryz.underlying29 hi hz (k := 3) (by omega) (by omega) hz1 chz_sz (.tmp 13) ?_ ?_ el.cells (chr_sz _) ?_ ?_); rfl; rfl; rfl; (try simp only [Act.put, List.setIfInBounds_toArray, List.set_cons_succ, List.set_cons_zero]))
        | (at_builtin; refine wpList_append_own (w3.alloc (.cells el.cells.toArray 71)) ?_ (.tmp 11) (.tmp 14) 29 ?_ w.heap.size 71 i0 (.agg (⟨⟨#[]⟩, false, ⟨#[]⟩⟩ : Ch).cells.toArray) 3 40 Tryz.underlying29 hi hz hz1 hz2 chz_sz (by omega) (.slice A k c) k ((itL chgR k su).flatMap Ch.cells) ?_ (O3.out.alloc _) ⟨w3.heap.size, 0, none⟩ 1 1 el.cells ?_ (chr_sz _) (World.news_of_block (heap_alloc_new w3 _)) (fun u hu => ch_ones [el] u (by simpa using hu)) (by unfold maxLen; omega) (by omega) (by simp; omega) ?_; rfl; rfl; rfl; rfl; intro v6 w6 own6 hg6 _; obtain ⟨A6, c6, hv6⟩ := own_shape own6; subst hv6; have O6 := Lib.hid own6; have G6 := Lib.hid hg6; clear own6 hg6)
        | fail)
      have g36 : w3.grownBy w6 (Value.slice A k c).ownBlock := S3.only_trans (S3.only_of_below ((Below.refl _ _).alloc (Nat.le_refl _) _) _) G6.out
      have hob : ∀ b, (Value.slice A k c).ownBlock = some b → w.heap.size ≤ b := fun b e => (own_ty O3.out b e).1
      go_roundw
      case rel =>
        refine ⟨k + 1, A6, c6, by omega, by go_num, rfl, Lib.hid (by rw [HL.out]; exact O6.out), Lib.hid ?_, Lib.hid ?_⟩
        · rw [HS.out]
          exact ⟨R3.out.1.keep fun j hj => g36.block j (by have := R3.out.1.lt; omega) (fun e => by have := hob j e.symm; omega), R3.out.2⟩
        · exact only_then G3.out ⟨g36.os, g36.tape, g36.output, g36.size, fun j hj => g36.block j (by omega) (fun e => by have := hob j e.symm; omega)⟩
      case measure => simp [intOf]; omega
    · have hd : decide ((k : Int) < (n : Int)) = false := by simp; omega
      obtain rfl : k = n := by omega
      go_wp2_with fail
      go_ret
      exact ⟨A, c, rfl, ho.out, hr.out, hg.out⟩
end Go.Proofs.YtcofkhmgmemkmaaGreatDoor
