/-
  MERGE'S REFERENCE: Paths.
  MERGE'S REFERENCE: Conflicts.
-/
import Derived.Test.YtkdmlffnkomdhaaFa
import Derived.Test.YtkdmlffnkomdhaaRa
namespace Go.Proofs.Ytkdmlffnkomdhaa
set_option linter.unusedVariables false
set_option linter.unusedSimpArgs false
open Go.RowKit Go.WideShapes Go.ChangeShapes Go.Deep
attribute [local irreducible] wpQuiet

set_option maxRecDepth 100000 in
set_option maxHeartbeats 4000000 in
theorem refPaths3_any {w : World} {A1 : Option Addr} {n1 c1 : Nat} {l1 : List Rw} (h1 : SqR w w.heap.size A1 n1 c1 l1) (hm1 : n1 ≤ 1000) {A2 : Option Addr} {n2 c2 : Nat} {l2 : List Rw} (h2 : SqR w w.heap.size A2 n2 c2 l2) (hm2 : n2 ≤ 1000) {A3 : Option Addr} {n3 c3 : Nat} {l3 : List Rw} (h3 : SqR w w.heap.size A3 n3 c3 l3) (hm3 : n3 ≤ 1000) :
    Calls Try.prog 40 #[.agg #[.slice A1 n1 c1], .agg #[.slice A2 n2 c2], .agg #[.slice A3 n3 c3]] w fun e w' => (∃ A n c, e = .returned (.slice A n c) ∧ n ≤ n1 + n2 + n3 ∧ SqS w' w'.heap.size A n c (pathsW Rw.p [] (l1 ++ (l2 ++ l3)))) ∧ Below w.heap.size w w' := by
  obtain ⟨w0, hw0⟩ : ∃ w0, ((w.alloc (.cells #[.slice A1 n1 c1] 24)).alloc (.cells #[.slice A2 n2 c2] 24)).alloc (.cells #[.slice A3 n3 c3] 24) = w0 := ⟨_, rfl⟩
  have B0 : Hid (Below w.heap.size w w0) := Lib.hid (by rw [← hw0]; exact (((Below.refl _ _).alloc (Nat.le_refl _) _).alloc (by simp) _).alloc (by simp; omega) _)
  have X0 : Hid (Lies w0 w.heap.size 1 [.slice A1 n1 c1]) := Lib.hid (by rw [← hw0]; exact ((Lies.new w [.slice A1 n1 c1] 24).alloc _).alloc _)
  have X1 : Hid (Lies w0 (w.heap.size + 1) 1 [.slice A2 n2 c2]) := Lib.hid (by
    rw [← hw0]
    have h := (Lies.new (w.alloc (.cells #[.slice A1 n1 c1] 24)) [.slice A2 n2 c2] 24).alloc (.cells #[.slice A3 n3 c3] 24)
    rwa [World.size_alloc] at h)
  have X2 : Hid (Lies w0 (w.heap.size + 1 + 1) 1 [.slice A3 n3 c3]) := Lib.hid (by
    rw [← hw0]
    have h := Lies.new ((w.alloc (.cells #[.slice A1 n1 c1] 24)).alloc (.cells #[.slice A2 n2 c2] 24)) [.slice A3 n3 c3] 24
    rwa [World.size_alloc, World.size_alloc] at h)
  have HS1 : Hid (∀ W, Below w0.heap.size w0 W → SqR W W.heap.size A1 n1 c1 l1) := Lib.hid fun W hW => (h1.below (B0.out.trans (hW.mono B0.out.size))).more (Nat.le_trans B0.out.size hW.size)
  have HS2 : Hid (∀ W, Below w0.heap.size w0 W → SqR W W.heap.size A2 n2 c2 l2) := Lib.hid fun W hW => (h2.below (B0.out.trans (hW.mono B0.out.size))).more (Nat.le_trans B0.out.size hW.size)
  have HS3 : Hid (∀ W, Below w0.heap.size w0 W → SqR W W.heap.size A3 n3 c3 l3) := Lib.hid fun W hW => (h3.below (B0.out.trans (hW.mono B0.out.size))).more (Nat.le_trans B0.out.size hW.size)
  have HQ : Hid (∀ W, Below w0.heap.size w0 W → W.cell? ⟨w.heap.size, 0, none⟩ = some (.slice A1 n1 c1) ∧ W.cell? ⟨w.heap.size + 1, 0, none⟩ = some (.slice A2 n2 c2) ∧ W.cell? ⟨w.heap.size + 1 + 1, 0, none⟩ = some (.slice A3 n3 c3)) := Lib.hid fun W hW =>
    ⟨(X0.out.below hW X0.out.lt).cell (j := 0) rfl, (X1.out.below hW X1.out.lt).cell (j := 0) rfl, (X2.out.below hW X2.out.lt).cell (j := 0) rfl⟩
  have HW := Lib.hid hw0
  have hl1 := h1.len
  have hl2 := h2.len
  have hl3 := h3.len
  clear hw0 h1 h2 h3
  go_enter Try.func40, Try.ntmps40
  go_upto_region 1 with fail
  rw [HW.out]
  clear HW
  obtain ⟨q0, q1, q2⟩ := HQ.out _ (Below.refl _ _)
  have hbz := (Below.refl w0.heap.size w0)
  go_region_held3 (fun w' => w'.cell? ⟨w.heap.size, 0, none⟩ = some (.slice A1 n1 c1) ∧ w'.cell? ⟨w.heap.size + 1, 0, none⟩ = some (.slice A2 n2 c2) ∧ w'.cell? ⟨w.heap.size + 1 + 1, 0, none⟩ = some (.slice A3 n3 c3) ∧ Below w0.heap.size w0 w')
    (first | exact ⟨q0, q1, q2, hbz.drew⟩ | with_reducible exact K1.out | with_reducible exact K2.out | with_reducible exact K3.out | fail)
    (first
      | (go_at_call 48; have T := refPaths_any (Sq.nil_ sc_sz) (show 0 ≤ 10000 by omega) (HS1.out _ (hbz.drew)) (show n1 ≤ 10000 by omega); with_reducible refine Calls.mono T ?_; clear T; rintro e w4 ⟨⟨A4, n4, c4, rfl, hn4, hsq1⟩, hb1⟩; have hb5 := (show Below w0.heap.size w0 w4 from (hbz.drew).trans (hb1.mono (hbz.drew).size)); have K1 := Lib.hid (show w4.cell? ⟨w.heap.size, 0, none⟩ = some (.slice A1 n1 c1) ∧ w4.cell? ⟨w.heap.size + 1, 0, none⟩ = some (.slice A2 n2 c2) ∧ w4.cell? ⟨w.heap.size + 1 + 1, 0, none⟩ = some (.slice A3 n3 c3) ∧ Below w0.heap.size w0 w4 from ⟨(HQ.out _ hb5).1, (HQ.out _ hb5).2.1, (HQ.out _ hb5).2.2, hb5⟩); have SQ1 := Lib.hid hsq1; clear hb1 hb5 hsq1)
      | (go_at_call 48; have T := refPaths_any SQ1.out (show n4 ≤ 10000 by omega) (HS2.out _ (K1.out.2.2.2)) (show n2 ≤ 10000 by omega); with_reducible refine Calls.mono T ?_; clear T; rintro e w5 ⟨⟨A5, n5, c5, rfl, hn5, hsq1⟩, hb1⟩; have hb5 := (show Below w0.heap.size w0 w5 from (K1.out.2.2.2).trans (hb1.mono (K1.out.2.2.2).size)); have K2 := Lib.hid (show w5.cell? ⟨w.heap.size, 0, none⟩ = some (.slice A1 n1 c1) ∧ w5.cell? ⟨w.heap.size + 1, 0, none⟩ = some (.slice A2 n2 c2) ∧ w5.cell? ⟨w.heap.size + 1 + 1, 0, none⟩ = some (.slice A3 n3 c3) ∧ Below w0.heap.size w0 w5 from ⟨(HQ.out _ hb5).1, (HQ.out _ hb5).2.1, (HQ.out _ hb5).2.2, hb5⟩); have SQ2 := Lib.hid hsq1; clear hb1 hb5 hsq1)
      | (go_at_call 48; have T := refPaths_any SQ2.out (show n5 ≤ 10000 by omega) (HS3.out _ (K2.out.2.2.2)) (show n3 ≤ 10000 by omega); with_reducible refine Calls.mono T ?_; clear T; rintro e w6 ⟨⟨A6, n6, c6, rfl, hn6, hsq1⟩, hb1⟩; have hb5 := (show Below w0.heap.size w0 w6 from (K2.out.2.2.2).trans (hb1.mono (K2.out.2.2.2).size)); have K3 := Lib.hid (show w6.cell? ⟨w.heap.size, 0, none⟩ = some (.slice A1 n1 c1) ∧ w6.cell? ⟨w.heap.size + 1, 0, none⟩ = some (.slice A2 n2 c2) ∧ w6.cell? ⟨w.heap.size + 1 + 1, 0, none⟩ = some (.slice A3 n3 c3) ∧ Below w0.heap.size w0 w6 from ⟨(HQ.out _ hb5).1, (HQ.out _ hb5).2.1, (HQ.out _ hb5).2.2, hb5⟩); have SQ3 := Lib.hid hsq1; clear hb1 hb5 hsq1)
      | fail)
  have G := Lib.hid K3.out.2.2.2
  have SE : Hid (SqS w6 w6.heap.size A6 n6 c6 (pathsW Rw.p [] (l1 ++ (l2 ++ l3)))) := Lib.hid (by
    have h := SQ3.out
    rw [← pathsW_app, ← pathsW_app] at h
    exact h)
  clear q0 q1 q2 K1 K2 K3 SQ1 SQ2 SQ3 hbz
  go_wp2_with fail
  go_ret
  exact ⟨⟨_, _, _, rfl, by omega, SE.out⟩, B0.out.trans (G.out.mono B0.out.size)⟩
end Go.Proofs.Ytkdmlffnkomdhaa
namespace Go.Proofs.Ytkdmlffnkomdhaa
set_option linter.unusedVariables false
set_option linter.unusedSimpArgs false
open Go.RowKit Go.WideShapes Go.ChangeShapes Go.Deep
attribute [local irreducible] wpQuiet

theorem own_below {W W' : World} {base k n : Nat} {e : TypeId} {v : Value} {xs : List Value} (h : W.ownsRow base e k v n xs) (hb : Below W.heap.size W W') : W'.ownsRow base e k v n xs :=
  h.kept (only_of_below hb none) (by
    rcases h.2 with ⟨rfl, _⟩ | ⟨g, cap, cur, rfl, _, hgb, _⟩
    · exact .inl rfl
    · exact .inr (by simp [Value.ownBlock]))
theorem own_drew {W : World} {base k n : Nat} {e : TypeId} {v : Value} {xs : List Value} (h : W.ownsRow base e k v n xs) (o : Obj) : (W.drew.alloc o).ownsRow base e k v n xs :=
  own_below h ((Below.refl _ _).drew.alloc (Nat.le_refl _) o)
theorem conf_take {l1 l2 l3 : List Rw} {ps : List ByteArray} {k : Nat} (hk : k < ps.length) : (((ps.take (k + 1)).map (plW l1 l2 l3)).filter conflW) = (((ps.take k).map (plW l1 l2 l3)).filter conflW) ++ (if conflW (plW l1 l2 l3 ps[k]) = true then [plW l1 l2 l3 ps[k]] else []) := by
  rw [List.take_add_one, List.getElem?_eq_getElem hk, List.map_append, List.filter_append]
  congr 1
  simp only [Option.toList_some, List.map_cons, List.map_nil, List.filter_cons, List.filter_nil]
theorem zero_sd (w : World) : (zeroValue 41).run Try.prog w = .ok (.agg (Sd.cells ⟨false, ⟨#[]⟩⟩).toArray) w := by kernel_rfl
set_option maxRecDepth 100000 in
set_option maxHeartbeats 2000000 in
theorem refConflicts_any {w : World} {A1 : Option Addr} {n1 c1 : Nat} {l1 : List Rw} (h1 : SqR w w.heap.size A1 n1 c1 l1) (hm1 : n1 ≤ 1000) {A2 : Option Addr} {n2 c2 : Nat} {l2 : List Rw} (h2 : SqR w w.heap.size A2 n2 c2 l2) (hm2 : n2 ≤ 1000) {A3 : Option Addr} {n3 c3 : Nat} {l3 : List Rw} (h3 : SqR w w.heap.size A3 n3 c3 l3) (hm3 : n3 ≤ 1000) :
    Calls Try.prog 15 #[.agg #[.slice A1 n1 c1], .agg #[.slice A2 n2 c2], .agg #[.slice A3 n3 c3]] w fun e w' => (∃ A n c, e = .returned (.slice A n c) ∧ SqP w' w'.heap.size A n c (confW l1 l2 l3)) ∧ Below w.heap.size w w' := by
  obtain ⟨w0, hw0⟩ : ∃ w0, ((w.alloc (.cells #[.slice A1 n1 c1] 24)).alloc (.cells #[.slice A2 n2 c2] 24)).alloc (.cells #[.slice A3 n3 c3] 24) = w0 := ⟨_, rfl⟩
  have B0 : Hid (Below w.heap.size w w0) := Lib.hid (by rw [← hw0]; exact (((Below.refl _ _).alloc (Nat.le_refl _) _).alloc (by simp) _).alloc (by simp; omega) _)
  have X0 : Hid (Lies w0 w.heap.size 1 [.slice A1 n1 c1]) := Lib.hid (by rw [← hw0]; exact ((Lies.new w [.slice A1 n1 c1] 24).alloc _).alloc _)
  have X1 : Hid (Lies w0 (w.heap.size + 1) 1 [.slice A2 n2 c2]) := Lib.hid (by
    rw [← hw0]
    have h := (Lies.new (w.alloc (.cells #[.slice A1 n1 c1] 24)) [.slice A2 n2 c2] 24).alloc (.cells #[.slice A3 n3 c3] 24)
    rwa [World.size_alloc] at h)
  have X2 : Hid (Lies w0 (w.heap.size + 1 + 1) 1 [.slice A3 n3 c3]) := Lib.hid (by
    rw [← hw0]
    have h := Lies.new ((w.alloc (.cells #[.slice A1 n1 c1] 24)).alloc (.cells #[.slice A2 n2 c2] 24)) [.slice A3 n3 c3] 24
    rwa [World.size_alloc, World.size_alloc] at h)
  have HS1 : Hid (∀ W, Below w0.heap.size w0 W → SqR W W.heap.size A1 n1 c1 l1) := Lib.hid fun W hW => (h1.below (B0.out.trans (hW.mono B0.out.size))).more (Nat.le_trans B0.out.size hW.size)
  have HS2 : Hid (∀ W, Below w0.heap.size w0 W → SqR W W.heap.size A2 n2 c2 l2) := Lib.hid fun W hW => (h2.below (B0.out.trans (hW.mono B0.out.size))).more (Nat.le_trans B0.out.size hW.size)
  have HS3 : Hid (∀ W, Below w0.heap.size w0 W → SqR W W.heap.size A3 n3 c3 l3) := Lib.hid fun W hW => (h3.below (B0.out.trans (hW.mono B0.out.size))).more (Nat.le_trans B0.out.size hW.size)
  have HQ : Hid (∀ W, Below w0.heap.size w0 W → W.cell? ⟨w.heap.size, 0, none⟩ = some (.slice A1 n1 c1) ∧ W.cell? ⟨w.heap.size + 1, 0, none⟩ = some (.slice A2 n2 c2) ∧ W.cell? ⟨w.heap.size + 1 + 1, 0, none⟩ = some (.slice A3 n3 c3)) := Lib.hid fun W hW =>
    ⟨(X0.out.below hW X0.out.lt).cell (j := 0) rfl, (X1.out.below hW X1.out.lt).cell (j := 0) rfl, (X2.out.below hW X2.out.lt).cell (j := 0) rfl⟩
  have HW := Lib.hid hw0
  have hl1 := h1.len
  have hl2 := h2.len
  have hl3 := h3.len
  obtain ⟨ps, hps⟩ : ∃ ps, pathsW Rw.p [] (l1 ++ (l2 ++ l3)) = ps := ⟨_, rfl⟩
  have HPS := Lib.hid hps
  have HCW : Hid (confW l1 l2 l3 = (ps.map (plW l1 l2 l3)).filter conflW) := Lib.hid (by unfold confW plsW; rw [hps])
  clear hw0 h1 h2 h3 hps
  go_enter Try.func15, Try.ntmps15
  go_upto_region 1 with fail
  rw [HW.out]
  clear HW
  obtain ⟨q0, q1, q2⟩ := HQ.out _ (Below.refl _ _)
  have HP := Lib.hid (refPaths3_any (HS1.out _ (Below.refl _ _)) hm1 (HS2.out _ (Below.refl _ _)) hm2 (HS3.out _ (Below.refl _ _)) hm3)
  go_wp2_with fail
  refine HP.out.mono ?_
  rintro e w2 ⟨⟨A5, n5, c5, rfl, hn5, hsq⟩, hb2⟩
  have SP : Hid (SqS w2 w2.heap.size A5 n5 c5 ps) := Lib.hid (by rw [← HPS.out]; exact hsq)
  have G2 := Lib.hid hb2
  have hlp := hsq.len
  rw [HPS.out] at hlp
  clear hsq hb2 HP q0 q1 q2 HPS
  go_wp2_with fail
  go_loopw [7, 9] (fun o i wr => ∃ (k m : Nat) (Ao : Option Addr) (co : Nat) (acc : List Pl), k ≤ n5 ∧ m ≤ k ∧ o = .slice Ao m co ∧ i = .int .i64 (k : Int) ∧ Hid (((ps.take k).map (plW l1 l2 l3)).filter conflW = acc) ∧ Hid (wr.ownsRow w2.heap.size 43 7 (.slice Ao m co) m (acc.flatMap Pl.cells)) ∧ Hid (Below w2.heap.size w2 wr)) (fun _ i _ => n5 - (intOf i).toNat)
  case atStart => exact ⟨0, 0, none, 0, [], Nat.zero_le _, by omega, rfl, rfl, Lib.hid rfl, Lib.hid ⟨rfl, .inl ⟨rfl, rfl⟩⟩, Lib.hid (Below.refl _ _)⟩
  case round =>
    obtain ⟨k, m, Ao, co, acc, hk, hm, rfl, rfl, hacc, hown, hgr⟩ := hrel
    by_cases hlt : k < n5
    · have hd : decide ((k : Int) < (n5 : Int)) = true := by simp; omega
      have hk0 : (0 : Int) ≤ (k : Int) := Int.natCast_nonneg _
      have hk1 : (k : Int) < (n5 : Int) := by omega
      obtain ⟨b, o, rfl, hbl, hrg⟩ := (SP.out.below hgr.out).at_ hlt
      obtain ⟨s, hs⟩ : ∃ s, ps[k]'(by omega) = s := ⟨_, rfl⟩
      rw [hs] at hrg
      have HB2 := Lib.hid hbl
      have GR := Lib.hid (show Below w0.heap.size w0 wr from G2.out.trans (hgr.out.mono G2.out.size))
      have R0 := Lib.hid (show wr.cell? ⟨b, o + k, none⟩ = some (.string s) by have := hrg 0 _ rfl; simpa using this)
      have HQ6 : Hid (∀ W, Below wr.heap.size wr W → W.cell? ⟨w.heap.size, 0, none⟩ = some (.slice A1 n1 c1) ∧ W.cell? ⟨w.heap.size + 1, 0, none⟩ = some (.slice A2 n2 c2) ∧ W.cell? ⟨w.heap.size + 1 + 1, 0, none⟩ = some (.slice A3 n3 c3) ∧ W.cell? ⟨b, o + k, none⟩ = some (.string s)) := Lib.hid fun W hW =>
        ⟨(HQ.out _ (GR.out.trans (hW.mono GR.out.size))).1, (HQ.out _ (GR.out.trans (hW.mono GR.out.size))).2.1, (HQ.out _ (GR.out.trans (hW.mono GR.out.size))).2.2, (hW.cell (p := ⟨b, o + k, none⟩) (block_lt_of_cell R0.out)).trans R0.out⟩
      obtain ⟨s1, hs1⟩ : ∃ x, sdW l1 s = x := ⟨_, rfl⟩
      obtain ⟨s2, hs2⟩ : ∃ x, sdW l2 s = x := ⟨_, rfl⟩
      obtain ⟨s3, hs3⟩ : ∃ x, sdW l3 s = x := ⟨_, rfl⟩
      have E1 := Lib.hid hs1
      have E2 := Lib.hid hs2
      have E3 := Lib.hid hs3
      have HT : Hid (((ps.take (k + 1)).map (plW l1 l2 l3)).filter conflW = acc ++ (if conflW ⟨s, s1, s2, s3⟩ = true then [⟨s, s1, s2, s3⟩] else [])) := Lib.hid (by
        have e : plW l1 l2 l3 s = ⟨s, s1, s2, s3⟩ := by unfold plW; rw [hs1, hs2, hs3]
        rw [conf_take (by omega), hacc.out, hs, e])
      clear hrg hs hs1 hs2 hs3 hacc hbl
      have HC1 : Hid (∀ W, Below wr.heap.size wr W → Calls Try.prog 41 #[.agg #[.slice A1 n1 c1], .string s] W fun e w' => e = .returned (sdV s1) ∧ Below W.heap.size W w') := Lib.hid fun W hW => by
        rw [← E1.out]; exact refSide_any (HS1.out _ (GR.out.trans (hW.mono GR.out.size))) (by omega) s
      have HC2 : Hid (∀ W, Below wr.heap.size wr W → Calls Try.prog 41 #[.agg #[.slice A2 n2 c2], .string s] W fun e w' => e = .returned (sdV s2) ∧ Below W.heap.size W w') := Lib.hid fun W hW => by
        rw [← E2.out]; exact refSide_any (HS2.out _ (GR.out.trans (hW.mono GR.out.size))) (by omega) s
      have HC3 : Hid (∀ W, Below wr.heap.size wr W → Calls Try.prog 41 #[.agg #[.slice A3 n3 c3], .string s] W fun e w' => e = .returned (sdV s3) ∧ Below W.heap.size W w') := Lib.hid fun W hW => by
        rw [← E3.out]; exact refSide_any (HS3.out _ (GR.out.trans (hW.mono GR.out.size))) (by omega) s
      clear E1 E2 E3
      go_wp2_with fail
      refine wp_region_noPanic ?_
      refine wp_region_held_drew (S := (fun w' => Below wr.heap.size wr w')) (by kernel_rfl) (Below.refl wr.heap.size wr).drew (fun _ => ?_)
      refine wpAnyH_take (i := 0) rfl (by kernel_rfl) (by kernel_rfl) (by kernel_rfl) (fun _ _ _ h => h) (.inl ⟨rfl, fun w' hw' => (by obtain ⟨q0, q1, q2, s0⟩ := HQ6.out w' hw'; clear hw'; go_simp; (try rfl))⟩) (Below.refl wr.heap.size wr).drew ?_
      simp only [List.getElem_toArray, List.getElem_cons_zero, List.getElem_cons_succ, Act.put, List.setIfInBounds_toArray, List.set_cons_succ, List.set_cons_zero]
      refine wpAnyH_take (i := 1) rfl (by kernel_rfl) (by kernel_rfl) (by kernel_rfl) (fun _ _ _ h => h) (.inl ⟨rfl, fun w' hw' => (by obtain ⟨q0, q1, q2, s0⟩ := HQ6.out w' hw'; clear hw'; go_simp; (try rfl))⟩) (Below.refl wr.heap.size wr).drew ?_
      simp only [List.getElem_toArray, List.getElem_cons_zero, List.getElem_cons_succ, Act.put, List.setIfInBounds_toArray, List.set_cons_succ, List.set_cons_zero]
      refine wpAnyH_take (i := 2) rfl (by kernel_rfl) (by kernel_rfl) (by kernel_rfl) (fun _ _ _ h => h) (.inl ⟨rfl, fun w' hw' => (by obtain ⟨q0, q1, q2, s0⟩ := HQ6.out w' hw'; clear hw'; go_simp; (try rfl))⟩) (Below.refl wr.heap.size wr).drew ?_
      simp only [List.getElem_toArray, List.getElem_cons_zero, List.getElem_cons_succ, Act.put, List.setIfInBounds_toArray, List.set_cons_succ, List.set_cons_zero]
      refine wpAnyH_take (i := 3) rfl (by kernel_rfl) (by kernel_rfl) (by kernel_rfl) (fun _ _ _ h => h) (.inl ⟨rfl, fun w' hw' => (by obtain ⟨q0, q1, q2, s0⟩ := HQ6.out w' hw'; clear hw'; go_simp; (try rfl))⟩) (Below.refl wr.heap.size wr).drew ?_
      simp only [List.getElem_toArray, List.getElem_cons_zero, List.getElem_cons_succ, Act.put, List.setIfInBounds_toArray, List.set_cons_succ, List.set_cons_zero]
      refine wpAnyH_take (i := 4) rfl (by kernel_rfl) (by kernel_rfl) (by kernel_rfl) (fun _ _ _ h => h) (.inl ⟨rfl, fun w' hw' => (by obtain ⟨q0, q1, q2, s0⟩ := HQ6.out w' hw'; clear hw'; go_simp; (try rfl))⟩) (Below.refl wr.heap.size wr).drew ?_
      simp only [List.getElem_toArray, List.getElem_cons_zero, List.getElem_cons_succ, Act.put, List.setIfInBounds_toArray, List.set_cons_succ, List.set_cons_zero]
      refine wpAnyH_take (i := 6) rfl (by kernel_rfl) (by kernel_rfl) (by kernel_rfl) (fun _ _ _ h => h) (.inl ⟨rfl, fun w' hw' => (by obtain ⟨q0, q1, q2, s0⟩ := HQ6.out w' hw'; clear hw'; go_simp; (try rfl))⟩) (Below.refl wr.heap.size wr).drew ?_
      simp only [List.getElem_toArray, List.getElem_cons_zero, List.getElem_cons_succ, Act.put, List.setIfInBounds_toArray, List.set_cons_succ, List.set_cons_zero]
      refine wpAnyH_take (i := 7) rfl (by kernel_rfl) (by kernel_rfl) (by kernel_rfl) (fun _ _ _ h => h) (.inl ⟨rfl, fun w' hw' => (by obtain ⟨q0, q1, q2, s0⟩ := HQ6.out w' hw'; clear hw'; go_simp; (try rfl))⟩) (Below.refl wr.heap.size wr).drew ?_
      simp only [List.getElem_toArray, List.getElem_cons_zero, List.getElem_cons_succ, Act.put, List.setIfInBounds_toArray, List.set_cons_succ, List.set_cons_zero]
      refine wpAnyH_take (i := 8) rfl (by kernel_rfl) (by kernel_rfl) (by kernel_rfl) (fun _ _ _ h => h) (.inl ⟨rfl, fun w' hw' => (by obtain ⟨q0, q1, q2, s0⟩ := HQ6.out w' hw'; clear hw'; go_simp; (try rfl))⟩) (Below.refl wr.heap.size wr).drew ?_
      simp only [List.getElem_toArray, List.getElem_cons_zero, List.getElem_cons_succ, Act.put, List.setIfInBounds_toArray, List.set_cons_succ, List.set_cons_zero]
      refine wpAnyH_take (i := 9) rfl (by kernel_rfl) (by kernel_rfl) (by kernel_rfl) (fun _ _ _ h => h) (.inl ⟨rfl, fun w' hw' => (by obtain ⟨q0, q1, q2, s0⟩ := HQ6.out w' hw'; clear hw'; go_simp; (try rfl))⟩) (Below.refl wr.heap.size wr).drew ?_
      simp only [List.getElem_toArray, List.getElem_cons_zero, List.getElem_cons_succ, Act.put, List.setIfInBounds_toArray, List.set_cons_succ, List.set_cons_zero]
      refine wpAnyH_take (i := 10) rfl (by kernel_rfl) (by kernel_rfl) (by kernel_rfl) (fun _ _ _ h => h) (.inl ⟨rfl, fun w' hw' => (by obtain ⟨q0, q1, q2, s0⟩ := HQ6.out w' hw'; clear hw'; go_simp; (try rfl))⟩) (Below.refl wr.heap.size wr).drew ?_
      simp only [List.getElem_toArray, List.getElem_cons_zero, List.getElem_cons_succ, Act.put, List.setIfInBounds_toArray, List.set_cons_succ, List.set_cons_zero]
      refine wpAnyH_take (i := 12) rfl (by kernel_rfl) (by kernel_rfl) (by kernel_rfl) (fun _ _ _ h => h) (.inl ⟨rfl, fun w' hw' => (by obtain ⟨q0, q1, q2, s0⟩ := HQ6.out w' hw'; clear hw'; go_simp; (try rfl))⟩) (Below.refl wr.heap.size wr).drew ?_
      simp only [List.getElem_toArray, List.getElem_cons_zero, List.getElem_cons_succ, Act.put, List.setIfInBounds_toArray, List.set_cons_succ, List.set_cons_zero]
      refine wpAnyH_take (i := 13) rfl (by kernel_rfl) (by kernel_rfl) (by kernel_rfl) (fun _ _ _ h => h) (.inl ⟨rfl, fun w' hw' => (by obtain ⟨q0, q1, q2, s0⟩ := HQ6.out w' hw'; clear hw'; go_simp; (try rfl))⟩) (Below.refl wr.heap.size wr).drew ?_
      simp only [List.getElem_toArray, List.getElem_cons_zero, List.getElem_cons_succ, Act.put, List.setIfInBounds_toArray, List.set_cons_succ, List.set_cons_zero]
      refine wpAnyH_take (i := 14) rfl (by kernel_rfl) (by kernel_rfl) (by kernel_rfl) (fun _ _ _ h => h) (.inl ⟨rfl, fun w' hw' => (by obtain ⟨q0, q1, q2, s0⟩ := HQ6.out w' hw'; clear hw'; go_simp; (try rfl))⟩) (Below.refl wr.heap.size wr).drew ?_
      simp only [List.getElem_toArray, List.getElem_cons_zero, List.getElem_cons_succ, Act.put, List.setIfInBounds_toArray, List.set_cons_succ, List.set_cons_zero]
      refine wpAnyH_take (i := 15) rfl (by kernel_rfl) (by kernel_rfl) (by kernel_rfl) (fun _ _ _ h => h) (.inl ⟨rfl, fun w' hw' => (by obtain ⟨q0, q1, q2, s0⟩ := HQ6.out w' hw'; clear hw'; go_simp; (try rfl))⟩) (Below.refl wr.heap.size wr).drew ?_
      simp only [List.getElem_toArray, List.getElem_cons_zero, List.getElem_cons_succ, Act.put, List.setIfInBounds_toArray, List.set_cons_succ, List.set_cons_zero]
      refine wpAnyH_take (i := 16) rfl (by kernel_rfl) (by kernel_rfl) (by kernel_rfl) (fun _ _ _ h => h) (.inl ⟨rfl, fun w' hw' => (by obtain ⟨q0, q1, q2, s0⟩ := HQ6.out w' hw'; clear hw'; go_simp; (try rfl))⟩) (Below.refl wr.heap.size wr).drew ?_
      simp only [List.getElem_toArray, List.getElem_cons_zero, List.getElem_cons_succ, Act.put, List.setIfInBounds_toArray, List.set_cons_succ, List.set_cons_zero]
      refine wpAnyH_free (fun a0 l0 f l a w' => ∃ (fc0 fc1 fc2 : Bool) (fo0 fo1 fo2 : Option Nat), f = 3 + ((!fc0).toNat + ((!fc1).toNat + ((!fc2).toNat + (fo0.isNone.toNat + (fo1.isNone.toNat + fo2.isNone.toNat))))) ∧ ((fc1 = true → fc0 = true) ∧ (fc2 = true → fc1 = true) ∧ True) ∧ l = ((((((l0.setIfInBounds 5 (fc0)).setIfInBounds 11 (fc1)).setIfInBounds 17 (fc2)).setIfInBounds 18 (fo0.isSome)).setIfInBounds 19 (fo1.isSome)).setIfInBounds 20 (fo2.isSome)) ∧ a = { tmps := ((((((a0.tmps.setIfInBounds 28 (cond fc0 (sdV s1) (a0.tmps.getD 28 undef))).setIfInBounds 34 (cond fc1 (sdV s2) (a0.tmps.getD 34 undef))).setIfInBounds 40 (cond fc2 (sdV s3) (a0.tmps.getD 40 undef))).setIfInBounds 10 (ptrO (a0.tmps.getD 10 undef) fo0)).setIfInBounds 11 (ptrO (a0.tmps.getD 11 undef) fo1)).setIfInBounds 12 (ptrO (a0.tmps.getD 12 undef) fo2)), defers := a0.defers } ∧ Fr wr 2 [zO (Sd.cells ⟨false, ⟨#[]⟩⟩) fo0, zO (Sd.cells ⟨false, ⟨#[]⟩⟩) fo1, zO (Sd.cells ⟨false, ⟨#[]⟩⟩) fo2] w') 3 [(5, []), (11, [5]), (17, [11]), (18, []), (19, []), (20, [])] ?_ ?_ ?_ 6 ?_
      · rintro f l a wz ⟨fc0, fc1, fc2, fo0, fo1, fo2, hf, hch, rfl, -, -⟩
        cases fc0 <;> cases fc1 <;> cases fc2 <;> rcases fo0 with _ | _ <;> rcases fo1 with _ | _ <;> rcases fo2 with _ | _ <;> first | (exfalso; simp at hf; done) | (exfalso; simp at hf; omega) | (exfalso; simp at hch; done) | kernel_rfl
      · rintro f l a wz ⟨fc0, fc1, fc2, fo0, fo1, fo2, hf, hch, rfl, rfl, hF⟩ jp hjp hn hp
        simp only [List.mem_cons, List.not_mem_nil, or_false] at hjp
        rcases hjp with rfl | rfl | rfl | rfl | rfl | rfl
        · have hc : fc0 = false := hn
          subst hc
          refine wpOp_of rfl rfl (fun K hK => ?_)
          simp only [List.getElem_toArray, List.getElem_cons_zero, List.getElem_cons_succ, Act.put, List.setIfInBounds_toArray, List.set_cons_succ, List.set_cons_zero, cond_true, cond_false, List.getElem_toArray]
          refine wp_fn (f := 41) (xs := #[.agg #[.slice A1 n1 c1], .string s]) (by first | (go_simp; done) | (go_simp; rfl)) ((HC1.out wz hF.below).mono ?_)
          rintro e wy ⟨rfl, hb⟩
          refine ⟨_, rfl, hK _ _ ⟨(hF.below.trans (hb.mono hF.below.size)), true, fc1, fc2, fo0, fo1, fo2, ?_, ⟨fun _ => rfl, hch.2.1, trivial⟩, ?_, ?_, hF.call hb⟩⟩
          · simp at hf ⊢; omega
          · kernel_rfl
          · kernel_rfl
        · have hc : fc1 = false := hn
          have hq : (fc0 && true) = true := hp
          subst hc
          refine wpOp_of rfl rfl (fun K hK => ?_)
          simp only [List.getElem_toArray, List.getElem_cons_zero, List.getElem_cons_succ, Act.put, List.setIfInBounds_toArray, List.set_cons_succ, List.set_cons_zero, cond_true, cond_false, List.getElem_toArray]
          refine wp_fn (f := 41) (xs := #[.agg #[.slice A2 n2 c2], .string s]) (by first | (go_simp; done) | (go_simp; rfl)) ((HC2.out wz hF.below).mono ?_)
          rintro e wy ⟨rfl, hb⟩
          refine ⟨_, rfl, hK _ _ ⟨(hF.below.trans (hb.mono hF.below.size)), fc0, true, fc2, fo0, fo1, fo2, ?_, ⟨fun _ => by simpa using hq, fun _ => rfl, trivial⟩, ?_, ?_, hF.call hb⟩⟩
          · simp at hf ⊢; omega
          · kernel_rfl
          · kernel_rfl
        · have hc : fc2 = false := hn
          have hq : (fc1 && true) = true := hp
          subst hc
          refine wpOp_of rfl rfl (fun K hK => ?_)
          simp only [List.getElem_toArray, List.getElem_cons_zero, List.getElem_cons_succ, Act.put, List.setIfInBounds_toArray, List.set_cons_succ, List.set_cons_zero, cond_true, cond_false, List.getElem_toArray]
          refine wp_fn (f := 41) (xs := #[.agg #[.slice A3 n3 c3], .string s]) (by first | (go_simp; done) | (go_simp; rfl)) ((HC3.out wz hF.below).mono ?_)
          rintro e wy ⟨rfl, hb⟩
          refine ⟨_, rfl, hK _ _ ⟨(hF.below.trans (hb.mono hF.below.size)), fc0, fc1, true, fo0, fo1, fo2, ?_, ⟨hch.1, fun _ => by simpa using hq, trivial⟩, ?_, ?_, hF.call hb⟩⟩
          · simp at hf ⊢; omega
          · kernel_rfl
          · kernel_rfl
        · have hc : fo0.isSome = false := hn
          obtain rfl : fo0 = none := by cases fo0 <;> simp_all
          refine wpOp_of rfl rfl (fun K hK => ?_)
          simp only [List.getElem_toArray, List.getElem_cons_zero, List.getElem_cons_succ, Act.put, List.setIfInBounds_toArray, List.set_cons_succ, List.set_cons_zero, cond_true, cond_false, List.getElem_toArray]
          refine wp_alloc_as _ rfl _ zero_sd ?_
          refine hK _ _ ⟨(hF.alloc 0 (Sd.cells ⟨false, ⟨#[]⟩⟩) 41 rfl).below, fc0, fc1, fc2, some wz.heap.size, fo1, fo2, ?_, hch, ?_, ?_, hF.alloc 0 (Sd.cells ⟨false, ⟨#[]⟩⟩) 41 rfl⟩
          · simp at hf ⊢; omega
          · kernel_rfl
          · kernel_rfl
        · have hc : fo1.isSome = false := hn
          obtain rfl : fo1 = none := by cases fo1 <;> simp_all
          refine wpOp_of rfl rfl (fun K hK => ?_)
          simp only [List.getElem_toArray, List.getElem_cons_zero, List.getElem_cons_succ, Act.put, List.setIfInBounds_toArray, List.set_cons_succ, List.set_cons_zero, cond_true, cond_false, List.getElem_toArray]
          refine wp_alloc_as _ rfl _ zero_sd ?_
          refine hK _ _ ⟨(hF.alloc 1 (Sd.cells ⟨false, ⟨#[]⟩⟩) 41 rfl).below, fc0, fc1, fc2, fo0, some wz.heap.size, fo2, ?_, hch, ?_, ?_, hF.alloc 1 (Sd.cells ⟨false, ⟨#[]⟩⟩) 41 rfl⟩
          · simp at hf ⊢; omega
          · kernel_rfl
          · kernel_rfl
        · have hc : fo2.isSome = false := hn
          obtain rfl : fo2 = none := by cases fo2 <;> simp_all
          refine wpOp_of rfl rfl (fun K hK => ?_)
          simp only [List.getElem_toArray, List.getElem_cons_zero, List.getElem_cons_succ, Act.put, List.setIfInBounds_toArray, List.set_cons_succ, List.set_cons_zero, cond_true, cond_false, List.getElem_toArray]
          refine wp_alloc_as _ rfl _ zero_sd ?_
          refine hK _ _ ⟨(hF.alloc 2 (Sd.cells ⟨false, ⟨#[]⟩⟩) 41 rfl).below, fc0, fc1, fc2, fo0, fo1, some wz.heap.size, ?_, hch, ?_, ?_, hF.alloc 2 (Sd.cells ⟨false, ⟨#[]⟩⟩) 41 rfl⟩
          · simp at hf ⊢; omega
          · kernel_rfl
          · kernel_rfl
      · rintro l a wz ⟨fc0, fc1, fc2, fo0, fo1, fo2, hf, hch, rfl, rfl, hF⟩
        obtain rfl := nat0 (c := fc0) (by omega)
        obtain rfl := nat0 (c := fc1) (by omega)
        obtain rfl := nat0 (c := fc2) (by omega)
        obtain ⟨b0, rfl⟩ := opt0 (o := fo0) (by omega)
        obtain ⟨b1, rfl⟩ := opt0 (o := fo1) (by omega)
        obtain ⟨b2, rfl⟩ := opt0 (o := fo2) (by omega)
        simp only [List.getElem_toArray, List.getElem_cons_zero, List.getElem_cons_succ, Act.put, List.setIfInBounds_toArray, List.set_cons_succ, List.set_cons_zero, cond_true, cond_false, List.getElem_toArray, ptrO, Option.isSome_some]
        clear hf hch
        have F0 : Hid (Fr wr 2 [some (b0, (Sd.cells ⟨false, ⟨#[]⟩⟩)), some (b1, (Sd.cells ⟨false, ⟨#[]⟩⟩)), some (b2, (Sd.cells ⟨false, ⟨#[]⟩⟩))] wz) := Lib.hid hF
        clear hF
        obtain ⟨wz0, hw0⟩ : ∃ w9, World.setCells wz b0 0 (Sd.cells s1) = w9 := ⟨_, rfl⟩
        have F1 : Hid (Fr wr 2 [some (b0, (Sd.cells s1)), some (b1, (Sd.cells ⟨false, ⟨#[]⟩⟩)), some (b2, (Sd.cells ⟨false, ⟨#[]⟩⟩))] wz0) := Lib.hid (by rw [← hw0]; exact F0.out.store 0 b0 rfl (Sd.cells s1) rfl)
        refine wpAnyH_ready (rs := [21]) (by kernel_rfl) (by simp) (AllReadyH.cons rfl (fun K hK => ?_) AllReadyH.nil)
        rw [if_pos (by rfl)]
        refine wp_store_as _ _ _ rfl b0 0 (Sd.cells s1) rfl rfl (F0.out.there 0 b0 rfl) (size_sd _) rfl hw0 ?_
        clear hw0
        refine hK.out _ _ F1.out.below (fun _ => ?_)
        simp only [List.getElem_toArray, List.getElem_cons_zero, List.getElem_cons_succ, Act.put, List.setIfInBounds_toArray, List.set_cons_succ, List.set_cons_zero]
        clear F0
        obtain ⟨wz1, hw1⟩ : ∃ w9, World.setCells wz0 b1 0 (Sd.cells s2) = w9 := ⟨_, rfl⟩
        have F2 : Hid (Fr wr 2 [some (b0, (Sd.cells s1)), some (b1, (Sd.cells s2)), some (b2, (Sd.cells ⟨false, ⟨#[]⟩⟩))] wz1) := Lib.hid (by rw [← hw1]; exact F1.out.store 1 b1 rfl (Sd.cells s2) rfl)
        refine wpAnyH_ready (rs := [22]) (by kernel_rfl) (by simp) (AllReadyH.cons rfl (fun K hK => ?_) AllReadyH.nil)
        rw [if_pos (by rfl)]
        refine wp_store_as _ _ _ rfl b1 0 (Sd.cells s2) rfl rfl (F1.out.there 1 b1 rfl) (size_sd _) rfl hw1 ?_
        clear hw1
        refine hK.out _ _ F2.out.below (fun _ => ?_)
        simp only [List.getElem_toArray, List.getElem_cons_zero, List.getElem_cons_succ, Act.put, List.setIfInBounds_toArray, List.set_cons_succ, List.set_cons_zero]
        clear F1
        obtain ⟨wz2, hw2⟩ : ∃ w9, World.setCells wz1 b2 0 (Sd.cells s3) = w9 := ⟨_, rfl⟩
        have F3 : Hid (Fr wr 2 [some (b0, (Sd.cells s1)), some (b1, (Sd.cells s2)), some (b2, (Sd.cells s3))] wz2) := Lib.hid (by rw [← hw2]; exact F2.out.store 2 b2 rfl (Sd.cells s3) rfl)
        refine wpAnyH_ready (rs := [23]) (by kernel_rfl) (by simp) (AllReadyH.cons rfl (fun K hK => ?_) AllReadyH.nil)
        rw [if_pos (by rfl)]
        refine wp_store_as _ _ _ rfl b2 0 (Sd.cells s3) rfl rfl (F2.out.there 2 b2 rfl) (size_sd _) rfl hw2 ?_
        clear hw2
        refine hK.out _ _ F3.out.below (fun _ => ?_)
        simp only [List.getElem_toArray, List.getElem_cons_zero, List.getElem_cons_succ, Act.put, List.setIfInBounds_toArray, List.set_cons_succ, List.set_cons_zero]
        clear F2
        refine wpAnyH_done (by kernel_rfl) ?_ _
        refine NoPanic.normal ?_
        generalize wz2 = w9 at F3 ⊢
        have HF := F3
        have F9 := HF.out
        have G9 := Lib.hid F9.below
        have y0 := (F9.bx 0 b0 s1.cells rfl).1
        have y1 := (F9.bx 1 b1 s2.cells rfl).1
        have y2 := (F9.bx 2 b2 s3.cells rfl).1
        have z0 := (F9.bx 0 b0 s1.cells rfl).2
        have z1 := (F9.bx 1 b1 s2.cells rfl).2
        have z2 := (F9.bx 2 b2 s3.cells rfl).2
        clear F9 HF
        have OW9 := Lib.hid (own_below hown.out G9.out)
        have OWL := Lib.hid (fun x (hx : (Value.slice Ao m co).ownBlock = some x) => hown.out.lt x hx)
        have G29 := Lib.hid (hgr.out.trans (G9.out.mono hgr.out.size))
        have GZ := Lib.hid (G29.out.size)
        obtain ⟨-, -, -, t0⟩ := HQ6.out _ G9.out
        clear HC1 HC2 HC3
        obtain ⟨x1, hx1⟩ : ∃ x, sameSd s2 s3 = x := ⟨_, rfl⟩
        obtain ⟨x2, hx2⟩ : ∃ x, sameSd s1 s2 = x := ⟨_, rfl⟩
        obtain ⟨x3, hx3⟩ : ∃ x, sameSd s1 s3 = x := ⟨_, rfl⟩
        have HCF : Hid (conflW ⟨s, s1, s2, s3⟩ = (!x1 && (!x2 && !x3))) := Lib.hid (by unfold conflW; rw [hx1, hx2, hx3])
        have n1' := fun w => neq_sds s2 s3 w
        have n2' := fun w => neq_sds s1 s2 w
        have n3' := fun w => neq_sds s1 s3 w
        rw [hx1] at n1'
        rw [hx2] at n2'
        rw [hx3] at n3'
        have hgd := sd_guard
        clear hx1 hx2 hx3
        have a0 := y0.rg 0 _ rfl
        have a1 := y0.rg 1 _ rfl
        have a2 := y1.rg 0 _ rfl
        have a3 := y1.rg 1 _ rfl
        have a4 := y2.rg 0 _ rfl
        have a5 := y2.rg 1 _ rfl
        simp only [Nat.zero_add] at a0 a1 a2 a3 a4 a5
        obtain ⟨r, hr⟩ : ∃ r : Pl, r = ⟨s, s1, s2, s3⟩ := ⟨_, rfl⟩
        rw [← hr] at HCF
        rw [← hr] at HT
        cases x1
        · cases x2
          · cases x3
            · have HRD := Lib.hid (show (if conflW r = true then [r] else []) = [r] by rw [HCF.out]; rfl)
              go_upto_region 8 with fail
              clear a0 a1 a2 a3 a4 a5 n1' n2' n3' hgd
              refine wp_region_bar 9 11 (fun w' => w'.cell? ⟨b, o + k, none⟩ = some (.string s) ∧ w'.rangeAt b0 0 s1.cells ∧ w'.rangeAt b1 0 s2.cells ∧ w'.rangeAt b2 0 s3.cells) (by kernel_rfl) (by kernel_rfl) ⟨t0, y0.rg, y1.rg, y2.rg⟩ ?_
              simp only [List.take_succ_cons, List.take_zero, List.drop_succ_cons, List.drop_zero]
              refine ⟨_, .inl ⟨rfl, fun w' hw' => (by obtain ⟨h1, h2, h3, h4⟩ := hw'; have a0 := h2 0 _ rfl; have a1 := h2 1 _ rfl; have a2 := h3 0 _ rfl; have a3 := h3 1 _ rfl; have a4 := h4 0 _ rfl; have a5 := h4 1 _ rfl; clear h2 h3 h4; go_simp; (try rfl))⟩, ?_⟩
              refine ⟨_, .inl ⟨rfl, fun w' hw' => (by obtain ⟨h1, h2, h3, h4⟩ := hw'; have a0 := h2 0 _ rfl; have a1 := h2 1 _ rfl; have a2 := h3 0 _ rfl; have a3 := h3 1 _ rfl; have a4 := h4 0 _ rfl; have a5 := h4 1 _ rfl; clear h2 h3 h4; go_simp; (try rfl))⟩, ?_⟩
              refine ⟨_, .inl ⟨rfl, fun w' hw' => (by obtain ⟨h1, h2, h3, h4⟩ := hw'; have a0 := h2 0 _ rfl; have a1 := h2 1 _ rfl; have a2 := h3 0 _ rfl; have a3 := h3 1 _ rfl; have a4 := h4 0 _ rfl; have a5 := h4 1 _ rfl; clear h2 h3 h4; go_simp; (try rfl))⟩, ?_⟩
              refine ⟨_, .inl ⟨rfl, fun w' hw' => (by obtain ⟨h1, h2, h3, h4⟩ := hw'; have a0 := h2 0 _ rfl; have a1 := h2 1 _ rfl; have a2 := h3 0 _ rfl; have a3 := h3 1 _ rfl; have a4 := h4 0 _ rfl; have a5 := h4 1 _ rfl; clear h2 h3 h4; go_simp; (try rfl))⟩, ?_⟩
              refine ⟨_, .inl ⟨rfl, fun w' hw' => (by obtain ⟨h1, h2, h3, h4⟩ := hw'; have a0 := h2 0 _ rfl; have a1 := h2 1 _ rfl; have a2 := h3 0 _ rfl; have a3 := h3 1 _ rfl; have a4 := h4 0 _ rfl; have a5 := h4 1 _ rfl; clear h2 h3 h4; go_simp; (try rfl))⟩, ?_⟩
              refine ⟨_, .inl ⟨rfl, fun w' hw' => (by obtain ⟨h1, h2, h3, h4⟩ := hw'; have a0 := h2 0 _ rfl; have a1 := h2 1 _ rfl; have a2 := h3 0 _ rfl; have a3 := h3 1 _ rfl; have a4 := h4 0 _ rfl; have a5 := h4 1 _ rfl; clear h2 h3 h4; go_simp; (try rfl))⟩, ?_⟩
              refine ⟨_, .inl ⟨rfl, fun w' hw' => (by obtain ⟨h1, h2, h3, h4⟩ := hw'; have a0 := h2 0 _ rfl; have a1 := h2 1 _ rfl; have a2 := h3 0 _ rfl; have a3 := h3 1 _ rfl; have a4 := h4 0 _ rfl; have a5 := h4 1 _ rfl; clear h2 h3 h4; go_simp; (try rfl))⟩, ?_⟩
              refine ⟨_, .inl ⟨rfl, fun w' hw' => (by obtain ⟨h1, h2, h3, h4⟩ := hw'; have a0 := h2 0 _ rfl; have a1 := h2 1 _ rfl; have a2 := h3 0 _ rfl; have a3 := h3 1 _ rfl; have a4 := h4 0 _ rfl; have a5 := h4 1 _ rfl; clear h2 h3 h4; go_simp; (try rfl))⟩, ?_⟩
              refine ⟨_, .inl ⟨rfl, fun w' hw' => (by obtain ⟨h1, h2, h3, h4⟩ := hw'; have a0 := h2 0 _ rfl; have a1 := h2 1 _ rfl; have a2 := h3 0 _ rfl; have a3 := h3 1 _ rfl; have a4 := h4 0 _ rfl; have a5 := h4 1 _ rfl; clear h2 h3 h4; go_simp; (try rfl))⟩, ?_⟩
              rw [wpHead_nil]
              rw [wpMid_cons]
              refine ⟨rfl, ?_⟩
              simp only [Act.put, List.setIfInBounds_toArray, List.set_cons_succ, List.set_cons_zero]
              refine wp_one_cf (.tmp 62) rfl r (by rw [hr]; rfl) ?_
              have hbA : Below w9.heap.size w9 (w9.drew.alloc (.cells r.cells.toArray 43)) := (Below.refl _ _).drew.alloc (Nat.le_refl _) _
              refine ⟨⟨(hbA.cell (p := ⟨b, _, none⟩) (block_lt_of_cell t0)).trans t0, rangeAt_keep y0.rg (hbA.block _ y0.lt), rangeAt_keep y1.rg (hbA.block _ y1.lt), rangeAt_keep y2.rg (hbA.block _ y2.lt)⟩, ?_⟩
              rw [wpMid_cons]
              refine ⟨rfl, ?_⟩
              simp only [Act.put, List.setIfInBounds_toArray, List.set_cons_succ, List.set_cons_zero]
              obtain ⟨i0, hi, hz, hz1, hz2⟩ := info_parts info_cf
              refine wp_append_lies (w9.drew.alloc (.cells r.cells.toArray 43)) (.tmp 54) (.tmp 63) 30 rfl w2.heap.size 43 i0 _ 7 88 Try.underlying30 hi hz hz1 hz2 rfl (by omega) (.slice Ao m co) m (acc.flatMap Pl.cells) rfl (own_drew OW9.out _) ⟨w9.heap.size, 0, none⟩ 1 1 r.cells rfl rfl (World.news_of_block (heap_alloc_new w9.drew _)) (by intro u hu; exact pl_one [r] u (by simpa using hu)) (by omega) (by unfold maxLen; omega) (by omega) (by have := GZ.out; simp; omega) (w9.heap.size + 1) (by simp) ?_
              intro g2 c9 w10 hown5 hg5 hat5 hlt5
              have hg6 : (w9.alloc (.cells r.cells.toArray 43)).grownBy w10 (Value.slice Ao m co).ownBlock := ⟨hg5.os, hg5.tape, hg5.output, hg5.size, hg5.block⟩
              have hkb : ∀ x, x < w9.heap.size → (x < w2.heap.size ∨ wr.heap.size ≤ x) → w10.heap[x]? = w9.heap[x]? := fun x hx hx2 => (hg6.block x (by simp; omega) (fun e => by have := OWL.out x e.symm; omega)).trans (Below.heap_alloc w9 _ x hx)
              refine ⟨⟨(World.cell?_of_block (a := ⟨b, _, none⟩) (hkb b (block_lt_of_cell t0) (.inl HB2.out))).trans t0, rangeAt_keep y0.rg (hkb _ y0.lt (.inr z0)), rangeAt_keep y1.rg (hkb _ y1.lt (.inr z1)), rangeAt_keep y2.rg (hkb _ y2.lt (.inr z2))⟩, ?_⟩
              rw [wpMid_nil]
              have hsz10 := hg6.size
              simp only [World.size_alloc] at hsz10
              have GE := Lib.hid ((G29.out.alloc G29.out.size (.cells r.cells.toArray 43)).grown hg6 (by simp; have := G29.out.size; omega) (fun x hx => (OW9.out.lt x hx).1))
              have OE : Hid (w10.ownsRow w2.heap.size 43 7 (.slice (some ⟨g2, 0, none⟩) (m + 1) c9) (m + 1) ((acc ++ [r]).flatMap Pl.cells)) := Lib.hid (by rw [List.flatMap_append]; simpa using hown5)
              clear hown5 hg5 hg6 hat5 hlt5 hkb hbA hi hz hz1 hz2 t0 y0 y1 y2 z0 z1 z2 hsz10
              simp only [Act.put, List.setIfInBounds_toArray, List.set_cons_succ, List.set_cons_zero]
              go_wp2
              refine NoPanic.normal ?_
              go_wp2_with fail
              go_roundw
              case rel => exact ⟨k + 1, m + 1, _, c9, acc ++ [r], by omega, by omega, rfl, by go_num, Lib.hid (by rw [HT.out, HRD.out]), OE, GE⟩
              case measure => simp [intOf]; omega
            · have HRD := Lib.hid (show (if conflW r = true then [r] else []) = [] by rw [HCF.out]; simp)
              go_wp2_with fail
              go_roundw
              case rel => exact ⟨k + 1, m, _, co, acc, by omega, by omega, rfl, by go_num, Lib.hid (by rw [HT.out, HRD.out, List.append_nil]), OW9, G29⟩
              case measure => simp [intOf]; omega
          · have HRD := Lib.hid (show (if conflW r = true then [r] else []) = [] by rw [HCF.out]; simp)
            go_wp2_with fail
            go_roundw
            case rel => exact ⟨k + 1, m, _, co, acc, by omega, by omega, rfl, by go_num, Lib.hid (by rw [HT.out, HRD.out, List.append_nil]), OW9, G29⟩
            case measure => simp [intOf]; omega
        · have HRD := Lib.hid (show (if conflW r = true then [r] else []) = [] by rw [HCF.out]; simp)
          go_wp2_with fail
          go_roundw
          case rel => exact ⟨k + 1, m, _, co, acc, by omega, by omega, rfl, by go_num, Lib.hid (by rw [HT.out, HRD.out, List.append_nil]), OW9, G29⟩
          case measure => simp [intOf]; omega
      · exact ⟨false, false, false, none, none, none, rfl, by simp, by kernel_rfl, by kernel_rfl, Fr.start 2 _ (by intro i x; rcases i with _ | _ | _ | _ | _ | i <;> simp [zO]) (Below.refl wr.heap.size wr).drew⟩
    · obtain rfl : k = n5 := by omega
      have hd : decide ((k : Int) < (k : Int)) = false := by simp
      have HF : Hid (confW l1 l2 l3 = acc) := Lib.hid (by rw [HCW.out]; have := hacc.out; rwa [List.take_of_length_le (by omega)] at this)
      have GR := Lib.hid (show Below w0.heap.size w0 wr from G2.out.trans (hgr.out.mono G2.out.size))
      clear hacc
      go_wp2_with fail
      go_ret
      exact ⟨⟨_, _, _, rfl, by rw [HF.out]; exact own_sq hown.out pl_sz (by omega)⟩, B0.out.trans (GR.out.mono B0.out.size)⟩
end Go.Proofs.Ytkdmlffnkomdhaa
