/-
  LOGS: a log of its own; a log in two parts.
-/
import Derived.Test.YtgdcahakefmakaaGm
namespace Go.Proofs.Ytgdcahakefmakaa
set_option linter.unusedVariables false
set_option linter.unusedSimpArgs false
open Go.RowKit Go.WideShapes Go.ChangeShapes Go.Deep Go.Shelf
attribute [local irreducible] wpQuiet

/-- A result that is a log in a cell. -/
theorem results_log {f : Func} {p : Tmp} (hf : f.results = #[.cell p 27]) (tmps : Array Value) (W : World) (b : Nat) (i t : Nat) (A : Option Addr) (n c : Nat) (hp : tmps.getD p undef = .pointer (some ⟨b, 0, none⟩)) (h : Bl W b 27 (lgC i t A n c)) :
    (results f tmps).run Try.prog W = .ok (lgV i t A n c) W := by
  have := results_cell_mid (P := Try.prog) hf tmps W b 0 (lgC i t A n c) _ hp h.rg Try.underlying27 rfl size_lg
  exact this
/-- A list of one's own is as it was behind a store below it. -/
theorem OwnL.far1 {w : World} {base n c : Nat} {A : Option Addr} {l : List En} (h : OwnL w base A n c l) {p : Addr} (hp : p.block < base) (v : Value) : OwnL (w.setCell p v) base A n c l := by
  refine ⟨h.row.kept (row := some p.block) (only_set (only_refl w (some p.block)) rfl v) ?_, fun x hx => ?_, h.b⟩
  · rcases hq : Value.ownBlock (.slice A n c) with _ | g
    · exact .inl rfl
    · right
      have := (h.row.lt g hq).1
      intro e
      injection e with e
      omega
  · obtain ⟨g, h1, h2, h3⟩ := h.f x hx
    exact ⟨g, h1, h2, h3.far (by omega) _⟩
theorem OwnL.far' {w : World} {base n c b : Nat} {A : Option Addr} {l : List En} (h : OwnL w base A n c l) {ty : TypeId} {cs : List Value} (k : Bl w b ty cs) (hb : b < base) (u v z : Value) : OwnL (((w.setCell ⟨b, 0, none⟩ u).setCell ⟨b, 1, none⟩ v).setCell ⟨b, 2, none⟩ z) base A n c l :=
  ((h.far1 (p := ⟨b, 0, none⟩) hb u).far1 (p := ⟨b, 1, none⟩) hb v).far1 (p := ⟨b, 2, none⟩) hb z
theorem far3 {W : World} {b B : Nat} {x y : Value} {ty : TypeId} (h : Bl W b ty [x, y]) (hn : b ≠ B) (u v z : Value) : (((W.setCell ⟨B, 0, none⟩ u).setCell ⟨B, 1, none⟩ v).setCell ⟨B, 2, none⟩ z).cell? ⟨b, 0, none⟩ = some x ∧ (((W.setCell ⟨B, 0, none⟩ u).setCell ⟨B, 1, none⟩ v).setCell ⟨B, 2, none⟩ z).cell? ⟨b, 1, none⟩ = some y := by
  have M := ((h.far (p := ⟨B, 0, none⟩) hn u).far (p := ⟨B, 1, none⟩) hn v).far (p := ⟨B, 2, none⟩) hn z
  exact ⟨M.cell 0, M.cell 1⟩
set_option maxRecDepth 100000 in
set_option maxHeartbeats 2000000 in
theorem with_any {w : World} (i t : Nat) {A : Option Addr} {m c : Nat} {ls : List Ls} (h : SqL w w.heap.size A m c ls) (hm : m ≤ 100) (hN : (catL ls).length ≤ 10000) (hb : ∀ x ∈ catL ls, EnB x) :
    Calls Try.prog 43 #[atV i t, .slice A m c] w fun e w' => (∃ A' c' l', e = .returned (lgV i t A' (catL ls).length c') ∧ OwnL w' w.heap.size A' (catL ls).length c' l' ∧ vsE l' = vsE (catL ls)) ∧ Below w.heap.size w w' := by
  obtain ⟨w1, hw1⟩ : ∃ w1, ((w.alloc (.cells #[.int .u64 (i : Int), .int .u64 (t : Int)] 24)).alloc (.cells #[.int .u64 0, .int .u64 0, .slice none 0 0] 27)) = w1 := ⟨_, rfl⟩
  have L0 : Bl w1 (w.heap.size) 24 [.int .u64 (i : Int), .int .u64 (t : Int)] := by
    rw [← hw1]
    have h := Bl.new w 24 [.int .u64 (i : Int), .int .u64 (t : Int)]
    (try simp only [World.size_alloc] at h)
    exact (h.alloc _)
  have L1 : Bl w1 (w.heap.size + 1) 27 [.int .u64 0, .int .u64 0, .slice none 0 0] := by
    rw [← hw1]
    have h := Bl.new (w.alloc (.cells #[.int .u64 (i : Int), .int .u64 (t : Int)] 24)) 27 [.int .u64 0, .int .u64 0, .slice none 0 0]
    (try simp only [World.size_alloc] at h)
    exact h
  have B1 : Below w.heap.size w w1 := by
    rw [← hw1]
    exact (((Below.refl _ _).alloc (by simp <;> omega) _).alloc (by simp <;> omega) _)
  have Z1 : w1.heap.size = w.heap.size + 2 := by rw [← hw1]; simp
  have HW := Lib.hid hw1
  have HL0 := Lib.hid L0
  have HL1 := Lib.hid (show Bl w1 (w.heap.size + 1) 27 (lgC 0 0 none 0 0) from L1)
  have HB1 := Lib.hid B1
  have HZ1 := Lib.hid Z1
  have CJ := Lib.hid (fun (w' : World) (hw : Below w1.heap.size w1 w') => joined_any (w := w') ((h.below (B1.trans (hw.mono B1.size))).more (Nat.le_trans B1.size hw.size)) hm hN hb)
  have HQ : Hid (∀ w', Below w1.heap.size w1 w' → w'.cell? ⟨w.heap.size, 0, none⟩ = some (.int .u64 (i : Int)) ∧ w'.cell? ⟨w.heap.size, 1, none⟩ = some (.int .u64 (t : Int))) := Lib.hid fun w' hw => by
    have := HL0.out.below hw HL0.out.lt
    have q0 := this.cell 0
    have q1 := this.cell 1
    simp only [List.getElem?_cons_zero, List.getElem?_cons_succ] at q0 q1
    exact ⟨q0, q1⟩
  obtain ⟨N, hN'⟩ : ∃ N, (catL ls).length = N := ⟨_, rfl⟩
  obtain ⟨vs, hvs⟩ : ∃ vs, vsE (catL ls) = vs := ⟨_, rfl⟩
  rw [hN', hvs] at CJ ⊢
  clear hw1 L0 L1 B1 Z1 h hb hN
  go_enter Try.func43, Try.ntmps43
  go_upto_region 1 with fail
  rw [HW.out]
  have hbz := Below.refl w1.heap.size w1
  obtain ⟨q0, q1⟩ := HQ.out _ hbz
  go_region_held3 (fun w' => w'.cell? ⟨w.heap.size, 0, none⟩ = some (.int .u64 (i : Int)) ∧ w'.cell? ⟨w.heap.size, 1, none⟩ = some (.int .u64 (t : Int)))
    (first | exact ⟨q0, q1⟩ | with_reducible exact K1.out | with_reducible exact K2.out | fail)
    (first
      | (go_at_call 53; have T := CJ.out _ hbz.drew; with_reducible refine Calls.mono T ?_; clear T; rintro e w2 ⟨⟨A2, c2, l2, rfl, ho2, hv2⟩, hb2⟩; have hb5 := (show Below w1.heap.size w1 w2 from hbz.drew.trans (hb2.mono hbz.drew.size)); have HB5 := Lib.hid hb5; have K1 := Lib.hid (HQ.out _ hb5); have HO := Lib.hid ho2; have HV := Lib.hid hv2; have M2 := Lib.hid (HL1.out.below hb5 HL1.out.lt); have M0 := HL0.out.below hb5 HL0.out.lt; have K2 := Lib.hid (far3 M0 (show w.heap.size ≠ w.heap.size + 1 by omega) (.int .u64 (i : Int)) (.int .u64 (t : Int)) (.slice A2 N c2)); clear M0; have r0 := M2.out.cell 0; have r1 := M2.out.cell 1; have r2 := M2.out.cell 2; have f0 := M2.out.frozen 0; have f1 := M2.out.frozen 1; have f2 := M2.out.frozen 2; simp only [lgC, List.getElem?_cons_zero, List.getElem?_cons_succ] at r0 r1 r2; clear hb2 hb5 ho2 hv2)
      | fail)
  go_wp2_with fail
  have M3 := bl_set3 M2.out (.int .u64 (i : Int)) (.int .u64 (t : Int)) (.slice A2 N c2)
  refine bodyPost_ret (results_log rfl _ _ _ i t A2 N c2 rfl M3) rfl ?_
  have hz := HZ1.out
  have hz2 := HB5.out.size
  have hB : Below w2.heap.size w2 w2 := Below.refl _ _
  have hmv : Below w.heap.size w (((w2.setCell ⟨w.heap.size + 1, 0, none⟩ (.int .u64 (i : Int))).setCell ⟨w.heap.size + 1, 1, none⟩ (.int .u64 (t : Int))).setCell ⟨w.heap.size + 1, 2, none⟩ (.slice A2 N c2)) :=
    (((HB1.out.trans (HB5.out.mono HB1.out.size)).trans (below_cell (by omega) (by omega))).trans (below_cell (by omega) (by simp [World.setCell]; omega))).trans (below_cell (by omega) (by simp [World.setCell]; omega))
  refine ⟨⟨A2, c2, l2, rfl, ?_, HV.out⟩, hmv⟩
  exact ((HO.out.far' M2.out (by show w.heap.size + 1 < w1.heap.size; omega) _ _ _).base_ HB1.out.size)
end Go.Proofs.Ytgdcahakefmakaa
