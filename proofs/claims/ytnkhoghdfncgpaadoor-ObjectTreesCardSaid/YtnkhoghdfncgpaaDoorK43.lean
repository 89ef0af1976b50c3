/-
  STAGE 6's STATEMENTS: a map that can be played in time.
  OBJECTS: a map's parts, their texts by their Ids, and its tree (pure).
-/
import Derived.Test.YtnkhoghdfncgpaaDoorK42
namespace Go.Proofs.YtnkhoghdfncgpaaDoor
set_option linter.unusedVariables false
set_option linter.unusedSimpArgs false
open Go.RowKit Go.WideShapes Go.ChangeShapes Go.Deep Go.Shelf
attribute [local irreducible] wpQuiet

def cutR (r : Rw) : Rw := ⟨cutB 49 r.p, cutB 257 r.t⟩
def textsR (rs : List Rw) : List Rw := (rs.take 33).map cutR
theorem rw_one1 (r : Rw) : r.cells.toArray.all (·.oneCell') = true := by simp [Rw.cells, Value.oneCell']
set_option maxRecDepth 100000 in
set_option maxHeartbeats 8000000 in
theorem otexts_any {w : World} {A : Option Addr} {n c : Nat} {rs : List Rw} (h : SqR w w.heap.size A n c rs) :
    Calls Tryd.prog 16 #[.agg #[.slice A n c]] w fun e w' => (∃ A' n' c', e = .returned (.agg #[.slice A' n' c']) ∧ SqR w' w'.heap.size A' n' c' (textsR rs) ∧ w'.ownsRow w.heap.size 62 2 (.slice A' n' c') n' ((textsR rs).flatMap Rw.cells) ∧ n' ≤ 33) ∧ Below w.heap.size w w' := by
  obtain ⟨X, hX⟩ : ∃ X, w.heap.size = X := ⟨_, rfl⟩
  obtain ⟨w0, hw0⟩ : ∃ w0, ((w.alloc (.cells #[.slice A n c] 50)).alloc (.cells #[.slice none 0 0] 50)).alloc (.cells #[.slice none 0 0] 50) = w0 := ⟨_, rfl⟩
  have B0 : Hid (Below w.heap.size w w0 ∧ w0.heap.size = X + 3) := Lib.hid (by rw [← hw0]; exact ⟨(((Below.refl _ _).alloc (Nat.le_refl _) _).alloc (by simp) _).alloc (by simp; omega) _, by simp [hX]⟩)
  have X0 : Hid (Lies w0 X 1 [.slice A n c]) := Lib.hid (by rw [← hw0, ← hX]; exact ((Lies.new w [.slice A n c] 50).alloc _).alloc _)
  have X1 : Hid (Lies w0 (X + 1) 1 [.slice none 0 0]) := Lib.hid (by
    rw [← hw0, ← hX]
    have := (Lies.new (w.alloc (.cells #[.slice A n c] 50)) [.slice none 0 0] 50).alloc (.cells #[.slice none 0 0] 50)
    rwa [World.size_alloc] at this)
  have X2 : Hid (Lies w0 (X + 2) 1 [.slice none 0 0]) := Lib.hid (by
    rw [← hw0, ← hX]
    have := Lies.new ((w.alloc (.cells #[.slice A n c] 50)).alloc (.cells #[.slice none 0 0] 50)) [.slice none 0 0] 50
    rwa [World.size_alloc, World.size_alloc] at this)
  have HS : Hid (∀ W, Below w.heap.size w W → SqR W W.heap.size A n c rs) := Lib.hid fun W hW => (h.below hW).more hW.size
  have hln := h.len
  have hn0 : (0 : Int) ≤ (n : Int) := Int.natCast_nonneg _
  have HW := Lib.hid hw0
  clear hw0 h
  obtain ⟨i0, hi, hz, hz1, hz2⟩ := info_parts info_row
  go_enter Tryd.func16, Tryd.ntmps16
  go_upto_region 2 with fail
  rw [HW.out]
  (try simp only [World.size_alloc])
  (try rw [hX])
  have q0 := X0.out.cell (j := 0) rfl
  go_wp2_with fail
  go_loopw [9] (fun i wr => ∃ (k : Nat) (A1 : Option Addr) (c1 : Nat), k ≤ n ∧ k ≤ 33 ∧ i = .int .i64 (k : Int) ∧ Hid (Below w.heap.size w wr ∧ X + 2 < wr.heap.size ∧ Lies wr (X + 1) 1 [.slice none 0 0] ∧ Lies wr (X + 2) 1 [.slice A1 k c1] ∧ wr.ownsRow w0.heap.size 62 2 (.slice A1 k c1) k (((rs.take k).map cutR).flatMap Rw.cells))) (fun i _ => n - (intOf i).toNat)
  case atStart => exact ⟨0, none, 0, Nat.zero_le _, by omega, rfl, Lib.hid ⟨B0.out.1, by have := B0.out.2; omega, X1.out, X2.out, by simp, .inl ⟨rfl, rfl⟩⟩⟩
  case round =>
    obtain ⟨k, A1, c1, hk, hk3, rfl, hlo⟩ := hrel
    clear q0
    by_cases hlt : k < n
    · have hd : decide ((k : Int) < (n : Int)) = true := by simp; omega
      have hk0 : (0 : Int) ≤ (k : Int) := Int.natCast_nonneg _
      have hk1 : (k : Int) < (n : Int) := by omega
      obtain ⟨b, o, rfl, hbl, hrg⟩ := (HS.out wr hlo.out.1).at_ hlt
      obtain ⟨r, hr⟩ : ∃ r, rs[k]'(by omega) = r := ⟨_, rfl⟩
      rw [hr] at hrg
      have r0 : wr.cell? ⟨b, o + k * 2, none⟩ = some (.string r.p) := hrg 0 _ rfl
      have r1 : wr.cell? ⟨b, o + k * 2 + 1, none⟩ = some (.string r.t) := hrg 1 _ rfl
      have HR := Lib.hid hr
      clear hrg hr
      obtain ⟨wq, hwq⟩ : ∃ wq, wr.alloc (.cells #[.string r.p, .string r.t] 62) = wq := ⟨_, rfl⟩
      obtain ⟨T, hT⟩ : ∃ T, wr.heap.size = T := ⟨_, rfl⟩
      have HQ : Hid (Below w.heap.size w wq ∧ X + 2 < T ∧ wq.heap.size = T + 1 ∧ Lies wq (X + 1) 1 [.slice none 0 0] ∧ Lies wq (X + 2) 1 [.slice A1 k c1] ∧ wq.ownsRow w0.heap.size 62 2 (.slice A1 k c1) k (((rs.take k).map cutR).flatMap Rw.cells) ∧ Lies wq T 2 [.string r.p, .string r.t]) := Lib.hid (by
        have ha : Below wr.heap.size wr wq := by rw [← hwq]; exact (Below.refl _ _).alloc (Nat.le_refl _) _
        obtain ⟨h1, h2, h3, h4, h5⟩ := hlo.out
        exact ⟨h1.trans (ha.mono h1.size), by omega, by rw [← hwq, ← hT]; simp, h3.below ha h3.lt, h4.below ha h4.lt, own_down h5 ha, by rw [← hwq, ← hT]; exact Lies.new wr [.string r.p, .string r.t] 62⟩)
      have hlow0 : ∀ g, (Value.slice A1 k c1).ownBlock = some g → g < T := fun g hg => by rw [← hT]; exact (hlo.out.2.2.2.2.lt g hg).2
      have HLOW := Lib.hid hlow0
      have HWQ := Lib.hid hwq
      clear hwq hlo hlow0
      obtain ⟨q, d33⟩ : ∃ q, ((k : Int) == 33) = q := ⟨_, rfl⟩
      cases q
      · have H33 : Hid (k < 33) := Lib.hid (by rw [beq_eq_false_iff_ne] at d33; omega)
        go_upto_region 6 with fail
        rw [HWQ.out]
        (try rw [hT])
        obtain ⟨wd, hwd⟩ : ∃ wd, wq.drew = wd := ⟨_, rfl⟩
        obtain ⟨wz, hwz⟩ : ∃ wz, (wd.setCell ⟨T, 0, none⟩ (.string (cutB 49 r.p))).setCell ⟨T, 1, none⟩ (.string (cutB 257 r.t)) = wz := ⟨_, rfl⟩
        have HD : Hid (Lies wd T 2 [.string r.p, .string r.t]) := Lib.hid (by rw [← hwd]; exact HQ.out.2.2.2.2.2.2.below (Below.refl _ _).drew HQ.out.2.2.2.2.2.2.lt)
        have L1 : Hid (Lies (wd.setCell ⟨T, 0, none⟩ (.string (cutB 49 r.p))) T 2 [.string (cutB 49 r.p), .string r.t]) := Lib.hid (HD.out.set1 0 _)
        have e0 := HD.out.cell (j := 0) rfl
        have e1 := HD.out.cell (j := 1) rfl
        have f0 := HD.out.frozen (j := 0) (by omega)
        have c1z := L1.out.cell (j := 1) rfl
        have f1 := L1.out.frozen (j := 1) (by omega)
        have HZ : Hid (Below w.heap.size w wz ∧ X + 2 < T ∧ wz.heap.size = T + 1 ∧ Lies wz (X + 1) 1 [.slice none 0 0] ∧ Lies wz (X + 1 + 1) 1 [.slice A1 k c1] ∧ wz.ownsRow w0.heap.size 62 2 (.slice A1 k c1) k (((rs.take k).map cutR).flatMap Rw.cells) ∧ Lies wz T 2 [.string (cutB 49 r.p), .string (cutB 257 r.t)]) := Lib.hid (by
          obtain ⟨h1, h2, h3, h4, h5, h6, h7⟩ := HQ.out
          have hTw : w.heap.size ≤ T := by omega
          have hg : ∀ g, (Value.slice A1 k c1).ownBlock = some g → g ≠ T := fun g hg => by
            have := HLOW.out g hg
            omega
          rw [← hwz, ← hwd]
          refine ⟨((h1.trans (Below.refl _ _).drew).setCell (p := ⟨T, 0, none⟩) hTw _).setCell (p := ⟨T, 1, none⟩) hTw _, h2, by simpa using h3, ?_, ?_, ?_, ?_⟩
          · exact ((h4.below (Below.refl _ _).drew h4.lt).far (p := ⟨T, 0, none⟩) (by show X + 1 ≠ T; omega) _).far (p := ⟨T, 1, none⟩) (by show X + 1 ≠ T; omega) _
          · exact ((h5.below (Below.refl _ _).drew h5.lt).far (p := ⟨T, 0, none⟩) (by show X + 2 ≠ T; omega) _).far (p := ⟨T, 1, none⟩) (by show X + 2 ≠ T; omega) _
          · exact own_keep h6 fun g hgg => (heap_setCell_other _ ⟨T, 1, none⟩ g _ (fun e => hg g hgg e)).trans (heap_setCell_other _ ⟨T, 0, none⟩ g _ (fun e => hg g hgg e))
          · have h8 := (h7.below (Below.refl _ _).drew h7.lt).set1 0 (.string (cutB 49 r.p))
            exact h8.set1 1 (.string (cutB 257 r.t)))
        refine wp_region_br [false, true, false, true, false, false, false, false, true, false, true, false, false, false] 14 (fun w' => w'.cell? ⟨T, 0, none⟩ = some (.string r.p) ∧ w'.cell? ⟨T, 1, none⟩ = some (.string r.t)) (by kernel_rfl) (by kernel_rfl) (by rw [hwd]; exact ⟨e0, e1⟩) ?_
        rw [hwd]
        simp only [List.take_succ_cons, List.take_zero, List.drop_succ_cons, List.drop_zero]
        refine ⟨_, .inl ⟨rfl, fun w' hw' => (by clear hw'; go_simp; rfl)⟩, ?_⟩
        (try simp only [Act.put, List.setIfInBounds_toArray, List.set_cons_succ, List.set_cons_zero])
        refine ⟨_, .inl ⟨rfl, fun w' hw' => (by obtain ⟨q0, q1⟩ := hw'; go_simp; rfl)⟩, ?_⟩
        (try simp only [Act.put, List.setIfInBounds_toArray, List.set_cons_succ, List.set_cons_zero])
        refine ⟨_, .inl ⟨rfl, fun w' hw' => (by clear hw'; go_simp; rfl)⟩, ?_⟩
        (try simp only [Act.put, List.setIfInBounds_toArray, List.set_cons_succ, List.set_cons_zero])
        refine ⟨_, .inl ⟨rfl, fun w' hw' => (by obtain ⟨q0, q1⟩ := hw'; go_simp; rfl)⟩, ?_⟩
        (try simp only [Act.put, List.setIfInBounds_toArray, List.set_cons_succ, List.set_cons_zero])
        refine ⟨_, .inl ⟨rfl, fun w' hw' => (by clear hw'; go_simp; rfl)⟩, ?_⟩
        (try simp only [Act.put, List.setIfInBounds_toArray, List.set_cons_succ, List.set_cons_zero])
        refine ⟨_, .inl ⟨rfl, fun w' hw' => (by clear hw'; go_simp; rfl)⟩, ?_⟩
        (try simp only [Act.put, List.setIfInBounds_toArray, List.set_cons_succ, List.set_cons_zero])
        refine ⟨_, .inl ⟨rfl, fun w' hw' => (by clear hw'; go_simp; rw [if_pos ⟨by omega, by omega⟩])⟩, ?_⟩
        (try simp only [Act.put, List.setIfInBounds_toArray, List.set_cons_succ, List.set_cons_zero])
        refine ⟨_, .inl ⟨rfl, fun w' hw' => (by clear hw'; go_simp; rfl)⟩, ?_⟩
        (try simp only [Act.put, List.setIfInBounds_toArray, List.set_cons_succ, List.set_cons_zero])
        refine ⟨_, .inl ⟨rfl, fun w' hw' => (by obtain ⟨q0, q1⟩ := hw'; go_simp; rfl)⟩, ?_⟩
        (try simp only [Act.put, List.setIfInBounds_toArray, List.set_cons_succ, List.set_cons_zero])
        refine ⟨_, .inl ⟨rfl, fun w' hw' => (by clear hw'; go_simp; rfl)⟩, ?_⟩
        (try simp only [Act.put, List.setIfInBounds_toArray, List.set_cons_succ, List.set_cons_zero])
        refine ⟨_, .inl ⟨rfl, fun w' hw' => (by obtain ⟨q0, q1⟩ := hw'; go_simp; rfl)⟩, ?_⟩
        (try simp only [Act.put, List.setIfInBounds_toArray, List.set_cons_succ, List.set_cons_zero])
        refine ⟨_, .inl ⟨rfl, fun w' hw' => (by clear hw'; go_simp; rfl)⟩, ?_⟩
        (try simp only [Act.put, List.setIfInBounds_toArray, List.set_cons_succ, List.set_cons_zero])
        refine ⟨_, .inl ⟨rfl, fun w' hw' => (by clear hw'; go_simp; rfl)⟩, ?_⟩
        (try simp only [Act.put, List.setIfInBounds_toArray, List.set_cons_succ, List.set_cons_zero])
        refine ⟨_, .inl ⟨rfl, fun w' hw' => (by clear hw'; go_simp; rw [if_pos ⟨by omega, by omega⟩])⟩, ?_⟩
        (try simp only [Act.put, List.setIfInBounds_toArray, List.set_cons_succ, List.set_cons_zero])
        rw [wpHd_nil]
        have HT1 : (r.p.extract 0 (min (r.p.size : Int) 49).toNat) = cutB 49 r.p := rfl
        have HT2 : (r.t.extract 0 (min (r.t.size : Int) 257).toNat) = cutB 257 r.t := rfl
        rw [HT1, HT2]
        clear HT1 HT2
        have HWZ := Lib.hid hwz
        clear hwz hwd
        go_wp2_with fail
        refine NoPanic.normal ?_
        rw [HWZ.out]
        clear HWZ e0 e1 f0 c1z f1 L1 HD HQ HWQ
        obtain ⟨wb, hwb⟩ : ∃ wb, wz.alloc (.cells (cutR r).cells.toArray 62) = wb := ⟨_, rfl⟩
        have CB : Below wz.heap.size wz wb := by rw [← hwb]; exact (Below.refl _ _).alloc (Nat.le_refl _) _
        have SB : Hid (SqR wb wb.heap.size (some ⟨wz.heap.size, 0, none⟩) 1 1 [cutR r]) := Lib.hid (by
          have h9 := Lies.new wz (cutR r).cells 62
          rw [hwb] at h9
          exact ⟨rfl, Nat.le_refl _, by unfold maxLen; omega, (fun e => by cases e), rw_sz, fun _ => ⟨wz.heap.size, 0, rfl, by rw [← hwb]; simp, by simpa using h9.rg⟩⟩)
        have OB : Hid (wb.ownsRow w0.heap.size 62 2 (.slice A1 k c1) k (((rs.take k).map cutR).flatMap Rw.cells)) := Lib.hid (own_down HZ.out.2.2.2.2.2.1 CB)
        have HCB := Lib.hid CB
        have HWB := Lib.hid hwb
        have s2 := HZ.out.2.2.2.2.1.cell (j := 0) rfl
        have t0 := HZ.out.2.2.2.2.2.2.cell (j := 0) rfl
        have t1 := HZ.out.2.2.2.2.2.2.cell (j := 1) rfl
        have BW : Hid (w0.heap.size ≤ wb.heap.size) := Lib.hid (by have := HZ.out.2.1; have := HZ.out.2.2.1; have := CB.size; have := B0.out.2; omega)
        have H332 := H33.out
        clear hwb CB
        go_wp2_with (first
          | ((with_reducible refine oneL Tryd.underlying48 hi hz (k := 2) (by omega) (by omega) hz1 (by rfl) (.tmp 34) ?_ ?_ (cutR r).cells (rw_sz _) ?_ ?_); rfl; rfl; rfl; rw [HWB.out]; (try simp only [Act.put, List.setIfInBounds_toArray, List.set_cons_succ, List.set_cons_zero]))
          | (at_builtin; rw [show wz.alloc (.cells #[.string (cutB 49 r.p), .string (cutB 257 r.t)] 62) = wb from HWB.out]; refine wpList_plain rfl fun KK hKK => wp_append_sq (f := Rw.cells) (.tmp 33) (.tmp 35) 48 rfl w0.heap.size 62 i0 _ _ Tryd.underlying48 hi hz hz1 hz2 (by rfl) (by omega) (.slice A1 k c1) k ((rs.take k).map cutR) rfl OB.out rfl SB.out (flat_one rw_one1 _) (by omega) (by omega) BW.out ?_; intro v1 w1z hown hg; refine hKK _ _ ?_; obtain ⟨A2, c2, rfl⟩ := own_shape hown; have HOWN := Lib.hid hown; have B1z := Lib.hid (below_own OB.out hg BW.out); clear hown hg; have x2 := ((HZ.out.2.2.2.2.1.below HCB.out HZ.out.2.2.2.2.1.lt).below B1z.out (by have := B0.out.2; omega)).cell (j := 0) rfl; have x2f := ((HZ.out.2.2.2.2.1.below HCB.out HZ.out.2.2.2.2.1.lt).below B1z.out (by have := B0.out.2; omega)).frozen (j := 0) (by omega))
          | fail)
        go_roundw
        case rel =>
          refine ⟨k + 1, A2, c2, by omega, by omega, by go_num, Lib.hid ?_⟩
          have hz3 := B0.out.2
          have hs1 := HCB.out.size
          have hs2 := B1z.out.size
          obtain ⟨g1, g2, g3, g4, g5, _, _⟩ := HZ.out
          refine ⟨((g1.trans (HCB.out.mono g1.size)).trans (B1z.out.mono (by omega))).setCell (p := ⟨X + 1 + 1, 0, none⟩) (by show w.heap.size ≤ X + 1 + 1; omega) _, by simp only [World.size_setCell]; omega, ((g4.below HCB.out g4.lt).below B1z.out (by omega)).far (p := ⟨X + 1 + 1, 0, none⟩) (by show X + 1 ≠ X + 1 + 1; omega) _, ((g5.below HCB.out g5.lt).below B1z.out (by omega)).set1 0 _, ?_⟩
          have h9 := ownsRow_setCell_below (a := ⟨X + 1 + 1, 0, none⟩) HOWN.out (by show X + 1 + 1 < _; omega) (.slice A2 (k + 1) c2)
          rw [List.take_succ_eq_append_getElem (by omega : k < rs.length), List.map_append, List.map_cons, List.map_nil, HR.out]
          exact h9
        case measure => simp [intOf]; omega
      · have H33 : Hid (k = 33) := Lib.hid (by rw [beq_iff_eq] at d33; omega)
        go_upto_region 9 with fail
        rw [HWQ.out]
        have TT : Hid ((rs.take k).map cutR = textsR rs) := Lib.hid (by unfold textsR; rw [H33.out])
        have g2 := (HQ.out.2.2.2.2.1).cell (j := 0) rfl
        have g1 := (HQ.out.2.2.2.1).cell (j := 0) rfl
        have f1 := (HQ.out.2.2.2.1).frozen (j := 0) (by omega)
        have N9 : Hid (Lies (wq.setCell ⟨X + 1, 0, none⟩ (.slice A1 k c1)) (X + 1) 1 [.slice A1 k c1]) := Lib.hid ((HQ.out.2.2.2.1).set1 0 _)
        have R9 : Hid ((wq.setCell ⟨X + 1, 0, none⟩ (.slice A1 k c1)).ownsRow w0.heap.size 62 2 (.slice A1 k c1) k ((textsR rs).flatMap Rw.cells)) := Lib.hid (by rw [← TT.out]; exact ownsRow_setCell_below (a := ⟨X + 1, 0, none⟩) (HQ.out.2.2.2.2.2.1) (by show X + 1 < _; have := B0.out.2; omega) _)
        have BB9 : Hid (Below w.heap.size w (wq.setCell ⟨X + 1, 0, none⟩ (.slice A1 k c1))) := Lib.hid ((HQ.out.1).setCell (p := ⟨X + 1, 0, none⟩) (by show w.heap.size ≤ X + 1; omega) _)
        go_wp2_with fail
        refine bodyPost_ret (results_cell_mid rfl _ _ (X + 1) 0 [.slice A1 k c1] _ rfl N9.out.rg Tryd.underlying50 rfl (by show _ = some 1; kernel_rfl)) rfl ⟨⟨A1, k, c1, rfl, own_sq R9.out rw_sz (by omega), own_base R9.out B0.out.1.size, hk3⟩, BB9.out⟩
    · have hd : decide ((k : Int) < (n : Int)) = false := by simp; omega
      obtain rfl : k = n := by omega
      have TT : Hid ((rs.take k).map cutR = textsR rs) := Lib.hid (by unfold textsR; rw [List.take_of_length_le (by omega), List.take_of_length_le (by omega)])
      have g2 := (hlo.out.2.2.2.1).cell (j := 0) rfl
      have g1 := (hlo.out.2.2.1).cell (j := 0) rfl
      have f1 := (hlo.out.2.2.1).frozen (j := 0) (by omega)
      have N9 : Hid (Lies (wr.setCell ⟨X + 1, 0, none⟩ (.slice A1 k c1)) (X + 1) 1 [.slice A1 k c1]) := Lib.hid ((hlo.out.2.2.1).set1 0 _)
      have R9 : Hid ((wr.setCell ⟨X + 1, 0, none⟩ (.slice A1 k c1)).ownsRow w0.heap.size 62 2 (.slice A1 k c1) k ((textsR rs).flatMap Rw.cells)) := Lib.hid (by rw [← TT.out]; exact ownsRow_setCell_below (a := ⟨X + 1, 0, none⟩) (hlo.out.2.2.2.2) (by show X + 1 < _; have := B0.out.2; omega) _)
      have BB9 : Hid (Below w.heap.size w (wr.setCell ⟨X + 1, 0, none⟩ (.slice A1 k c1))) := Lib.hid ((hlo.out.1).setCell (p := ⟨X + 1, 0, none⟩) (by show w.heap.size ≤ X + 1; omega) _)
      go_wp2_with fail
      refine bodyPost_ret (results_cell_mid rfl _ _ (X + 1) 0 [.slice A1 k c1] _ rfl N9.out.rg Tryd.underlying50 rfl (by show _ = some 1; kernel_rfl)) rfl ⟨⟨A1, k, c1, rfl, own_sq R9.out rw_sz (by omega), own_base R9.out B0.out.1.size, hk3⟩, BB9.out⟩
end Go.Proofs.YtnkhoghdfncgpaaDoor
namespace Go.Proofs.YtnkhoghdfncgpaaDoor
set_option linter.unusedVariables false
set_option linter.unusedSimpArgs false
open Go.RowKit Go.WideShapes Go.ChangeShapes Go.Deep

def prs (l : List Ov) : List (Idv × ByteArray) := l.map fun x => (idW x, x.text)
theorem one_inj {α β : Type} {f : α → β} : ∀ {l : List α}, l.Pairwise (fun a b => f a ≠ f b) → ∀ {a b : α}, a ∈ l → b ∈ l → f a = f b → a = b
  | [], _, _, _, ha, _, _ => by cases ha
  | x :: r, h, a, b, ha, hb, e => by
    rw [List.pairwise_cons] at h
    rcases List.mem_cons.1 ha with h1 | h1 <;> rcases List.mem_cons.1 hb with h2 | h2
    · rw [h1, h2]
    · rw [h1] at e; exact absurd e (h.1 _ h2)
    · rw [h2] at e; exact absurd e.symm (h.1 _ h1)
    · exact one_inj h.2 h1 h2 e
theorem look_none {l : List Ov} (h : l.Pairwise fun a b => (idW a).b ≠ (idW b).b) {k : Nat} (hk : k < l.length) : lookT (prs (l.take k)) (idW l[k]) = none := by
  unfold lookT
  rw [Option.map_eq_none_iff, List.find?_eq_none]
  intro p hp
  rw [List.mem_reverse] at hp
  obtain ⟨y, hy, rfl⟩ := List.mem_map.1 hp
  obtain ⟨j, hj, rfl⟩ := List.getElem_of_mem hy
  have hj2 : j < k := by simpa using (by simpa using hj : j < min k l.length) |> fun h => (Nat.lt_min.1 h).1
  have := List.pairwise_iff_getElem.1 h j k (by omega) hk hj2
  simp only [List.getElem_take, beq_iff_eq]
  exact this
theorem look_some {l : List Ov} (h : l.Pairwise fun a b => (idW a).b ≠ (idW b).b) {x : Ov} (hx : x ∈ l) : lookT (prs l) (idW x) = some x.text := by
  unfold lookT
  cases hf : (prs l).reverse.find? (fun p => p.1.b == (idW x).b) with
  | none =>
    rw [List.find?_eq_none] at hf
    have := hf (idW x, x.text) (by rw [List.mem_reverse]; exact List.mem_map.2 ⟨x, hx, rfl⟩)
    simp at this
  | some p =>
    have h1 := List.find?_some hf
    have h2 := List.mem_of_find?_eq_some hf
    rw [List.mem_reverse] at h2
    obtain ⟨y, hy, rfl⟩ := List.mem_map.1 h2
    have e := one_inj h hy hx (by simpa using h1)
    subst e
    rfl
theorem partsE_in (rs : List Rw) : partsE rs = 0 ∨ ((partsE rs = 150 ∨ partsE rs = 6 ∨ partsE rs = 161) ∧ partsW rs = []) := by
  unfold partsE partsW
  cases rightR rs with
  | false => exact .inr ⟨.inl (by simp), by simp⟩
  | true =>
    simp only [if_true]
    by_cases h0 : gErr rs = 0
    · exact .inl h0
    · refine .inr ⟨?_, gL_bad h0⟩
      unfold gErr at h0 ⊢
      split
      · rename_i h1
        rw [if_pos h1] at h0
        split
        · exact .inr (.inr rfl)
        · rename_i h2
          rw [if_neg h2] at h0
          exact absurd rfl h0
      · exact .inr (.inl rfl)
/-- What the parts are, where there are some. -/
structure Prt (rs : List Rw) (bl : List Ov) : Prop where
  all : partsW rs = bl ++ [treeO rs]
  told : Told (rs.map fun r => blobO r.t) bl
  ok : ∀ x ∈ bl ++ [treeO rs], okW x = true
theorem parts_prt {rs : List Rw} (h : partsE rs = 0) : ∃ bl, Prt rs bl := by
  unfold partsE at h
  cases hr : rightR rs with
  | false => rw [hr] at h; simp at h
  | true =>
    rw [hr] at h
    simp only [if_true] at h
    have hw : partsW rs = (gO (allO rs)).1 := by unfold partsW; rw [hr]; simp only [if_true]; exact gL_ok h
    unfold gErr at h
    by_cases h1 : (allO rs).all okW = true
    · rw [if_pos h1] at h
      by_cases h2 : (gO (allO rs)).2 = true
      · rw [if_pos h2] at h; cases h
      · have h3 : (gO (allO rs)).2 = false := by simpa using h2
        obtain ⟨e, ht⟩ := gO_tree h3
        refine ⟨_, by rw [hw]; exact e, ht, fun x hx => ?_⟩
        rw [List.all_eq_true] at h1
        refine h1 x ?_
        unfold allO
        rcases List.mem_append.1 hx with hx | hx
        · exact List.mem_append_left _ (ht.from_ x hx)
        · exact List.mem_append_right _ hx
    · rw [if_neg h1] at h; cases h
theorem prt_blob {rs : List Rw} {bl : List Ov} (h : Prt rs bl) {x : Ov} (hx : x ∈ bl) : x.kind = 1 := by
  obtain ⟨r, _, rfl⟩ := List.mem_map.1 (h.told.from_ x hx)
  rfl
theorem prt_leaf {rs : List Rw} {bl : List Ov} (h : Prt rs bl) {r : Rw} (hr : r ∈ rs) : lookT (prs bl) (idW (blobO r.t)) = some r.t :=
  look_some h.told.one (h.told.all _ (List.mem_map.2 ⟨r, hr, rfl⟩))
end Go.Proofs.YtnkhoghdfncgpaaDoor
