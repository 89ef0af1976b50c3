/-
  MERGE: a place's own words; the iterator over places is made; the reference's Side.
-/
import Derived.Test.YtgpakahmccafdaaMa
import Derived.Test.YtgpakahmccafdaaPx
import Derived.Test.YtgpakahmccafdaaPs
namespace Go.Proofs.Ytgpakahmccafdaa
set_option linter.unusedVariables false
set_option linter.unusedSimpArgs false
open Go.RowKit Go.WideShapes Go.ChangeShapes Go.Deep

set_option maxRecDepth 100000 in
set_option maxHeartbeats 2000000 in
theorem refSide_any {w : World} {A : Option Addr} {n c : Nat} {l : List Rw} (h : SqR w w.heap.size A n c l) (hn : n ≤ 1000000) (s : ByteArray) :
    Calls Try.prog 41 #[.agg #[.slice A n c], .string s] w fun e w' => e = .returned (sdV (sdW l s)) ∧ Below w.heap.size w w' := by
  obtain ⟨w1, hw1⟩ : ∃ w1, (w.alloc (.cells #[.slice A n c] 24)).alloc (.cells #[.bool false, .string ⟨#[]⟩] 41) = w1 := ⟨_, rfl⟩
  have B1 : Hid (Below w.heap.size w w1) := Lib.hid (by rw [← hw1]; exact ((Below.refl _ _).alloc (Nat.le_refl _) _).alloc (by simp) _)
  have X0 : Hid (Lies w1 w.heap.size 1 [.slice A n c]) := Lib.hid (by rw [← hw1]; exact (Lies.new w [.slice A n c] 24).alloc _)
  have X1 : Hid (Lies w1 (w.heap.size + 1) 2 [.bool false, .string ⟨#[]⟩]) := Lib.hid (by
    rw [← hw1]
    have := Lies.new (w.alloc (.cells #[.slice A n c] 24)) [.bool false, .string ⟨#[]⟩] 41
    rwa [World.size_alloc] at this)
  have HW := Lib.hid hw1
  have HG := refGet_any ((h.below B1.out).more B1.out.size) hn s
  obtain ⟨ix, hix⟩ : ∃ ix, (findW Rw.p l s).isSome = ix := ⟨_, rfl⟩
  obtain ⟨tx, htx⟩ : ∃ tx, textR (findW Rw.p l s) = tx := ⟨_, rfl⟩
  have HV : Hid (sdW l s = ⟨ix, tx⟩) := Lib.hid (by unfold sdW; rw [hix, htx])
  rw [hix, htx] at HG
  have HGG := Lib.hid HG
  clear hw1 h HG hix htx
  go_enter Try.func41, Try.ntmps41
  go_upto_region 1 with fail
  rw [HW.out]
  clear HW
  have q0 := X0.out.cell (j := 0) rfl
  go_wp2_with fail
  refine HGG.out.mono ?_
  rintro e w2 ⟨rfl, hb2⟩
  have X2 := Lib.hid (X1.out.below hb2 X1.out.lt)
  have B2 := Lib.hid (B1.out.trans (hb2.mono B1.out.size))
  clear q0 hb2 HGG
  have x0 := X2.out.cell (j := 0) rfl
  have x1 := X2.out.cell (j := 1) rfl
  have f0 := X2.out.frozen (j := 0) (by omega)
  have f1 := X2.out.frozen (j := 1) (by omega)
  go_wp2_with fail
  rw [HV.out]
  refine bodyPost_ret (results_cell_mid rfl _ _ (w.heap.size + 1) 0 [.bool ix, .string tx] _ rfl ?_ Try.underlying41 rfl (size_sd ⟨ix, tx⟩)) rfl ⟨rfl, ?_⟩
  · exact set2 x0 x1
  · first
      | exact (B2.out.setCell (p := ⟨w.heap.size + 1, 0, none⟩) (by show w.heap.size ≤ w.heap.size + 1; omega) _).setCell (p := ⟨w.heap.size + 1, 1, none⟩) (by show w.heap.size ≤ w.heap.size + 1; omega) _
      | exact below_setCells B2.out (by omega) _ _


set_option maxRecDepth 100000 in
set_option maxHeartbeats 2000000 in
theorem conflicts_any (p : Pl) (w : World) : Calls Try.prog 38 #[plV p] w fun e w' => e = .returned (.bool (conflW p)) ∧ Below w.heap.size w w' := by
  obtain ⟨w1, hw1⟩ : ∃ w1, w.alloc (.cells p.cells.toArray 77) = w1 := ⟨_, rfl⟩
  have B1 : Hid (Below w.heap.size w w1) := Lib.hid (by rw [← hw1]; exact (Below.refl _ _).alloc (Nat.le_refl _) _)
  have X0 : Hid (Lies w1 w.heap.size 7 p.cells) := Lib.hid (by rw [← hw1]; exact Lies.new w p.cells 77)
  have HW := Lib.hid hw1
  obtain ⟨x1, hx1⟩ : ∃ x, sameSd p.o p.t = x := ⟨_, rfl⟩
  obtain ⟨x2, hx2⟩ : ∃ x, sameSd p.b p.o = x := ⟨_, rfl⟩
  obtain ⟨x3, hx3⟩ : ∃ x, sameSd p.b p.t = x := ⟨_, rfl⟩
  have HC : Hid (conflW p = (!x1 && (!x2 && !x3))) := Lib.hid (by unfold conflW; rw [hx1, hx2, hx3])
  rw [HC.out]
  clear hw1
  have n1 := fun w => neq_sds p.o p.t w
  have n2 := fun w => neq_sds p.b p.o w
  have n3 := fun w => neq_sds p.b p.t w
  rw [hx1] at n1
  rw [hx2] at n2
  rw [hx3] at n3
  have hgd := sd_guard
  clear hx1 hx2 hx3
  have q0 := X0.out.cell (j := 0) rfl
  have q1 := X0.out.cell (j := 1) rfl
  have q2 := X0.out.cell (j := 2) rfl
  have q3 := X0.out.cell (j := 3) rfl
  have q4 := X0.out.cell (j := 4) rfl
  have q5 := X0.out.cell (j := 5) rfl
  have q6 := X0.out.cell (j := 6) rfl
  go_enter Try.func38, Try.ntmps38
  go_upto_region 1 with fail
  have HW2 := HW.out
  simp only [Pl.cells] at HW2
  rw [HW2]
  clear HW HW2
  cases x1
  · cases x2
    · cases x3
      · go_wp2
        go_ret
        exact ⟨rfl, B1.out⟩
      · go_wp2
        go_ret
        exact ⟨rfl, B1.out⟩
    · go_wp2
      go_ret
      exact ⟨by cases x3 <;> rfl, B1.out⟩
  · go_wp2
    go_ret
    exact ⟨rfl, B1.out⟩

set_option maxRecDepth 100000 in
set_option maxHeartbeats 2000000 in
theorem placeB_any (p : Pl) (w : World) : Calls Try.prog 62 #[plV p] w fun e w' => e = .returned (sdV p.b) ∧ Below w.heap.size w w' := by
  obtain ⟨⟨pp⟩, ⟨bi, bt⟩, ⟨oi, ot⟩, ⟨ti, tt⟩⟩ := p
  go_enter Try.func62, Try.ntmps62
  go_wp2
  refine bodyPost_ret (results_cell_mid rfl _ _ (w.heap.size + 1) 0 (Sd.cells ⟨bi, bt⟩) _ rfl ?_ Try.underlying41 rfl (size_sd ⟨bi, bt⟩)) rfl ⟨rfl, ?_⟩
  · have h := (Lies.new (w.alloc (.cells (Pl.cells ⟨⟨pp⟩, ⟨bi, bt⟩, ⟨oi, ot⟩, ⟨ti, tt⟩⟩).toArray 77)) (Sd.cells ⟨bi, bt⟩) 41).rg
    rw [World.size_alloc] at h
    exact h
  · exact ((Below.refl _ _).alloc (Nat.le_refl _) _).alloc (by simp) _

set_option maxRecDepth 100000 in
set_option maxHeartbeats 2000000 in
theorem placeO_any (p : Pl) (w : World) : Calls Try.prog 64 #[plV p] w fun e w' => e = .returned (sdV p.o) ∧ Below w.heap.size w w' := by
  obtain ⟨⟨pp⟩, ⟨bi, bt⟩, ⟨oi, ot⟩, ⟨ti, tt⟩⟩ := p
  go_enter Try.func64, Try.ntmps64
  go_wp2
  refine bodyPost_ret (results_cell_mid rfl _ _ (w.heap.size + 1) 0 (Sd.cells ⟨oi, ot⟩) _ rfl ?_ Try.underlying41 rfl (size_sd ⟨oi, ot⟩)) rfl ⟨rfl, ?_⟩
  · have h := (Lies.new (w.alloc (.cells (Pl.cells ⟨⟨pp⟩, ⟨bi, bt⟩, ⟨oi, ot⟩, ⟨ti, tt⟩⟩).toArray 77)) (Sd.cells ⟨oi, ot⟩) 41).rg
    rw [World.size_alloc] at h
    exact h
  · exact ((Below.refl _ _).alloc (Nat.le_refl _) _).alloc (by simp) _

set_option maxRecDepth 100000 in
set_option maxHeartbeats 2000000 in
theorem placeT_any (p : Pl) (w : World) : Calls Try.prog 63 #[plV p] w fun e w' => e = .returned (sdV p.t) ∧ Below w.heap.size w w' := by
  obtain ⟨⟨pp⟩, ⟨bi, bt⟩, ⟨oi, ot⟩, ⟨ti, tt⟩⟩ := p
  go_enter Try.func63, Try.ntmps63
  go_wp2
  refine bodyPost_ret (results_cell_mid rfl _ _ (w.heap.size + 1) 0 (Sd.cells ⟨ti, tt⟩) _ rfl ?_ Try.underlying41 rfl (size_sd ⟨ti, tt⟩)) rfl ⟨rfl, ?_⟩
  · have h := (Lies.new (w.alloc (.cells (Pl.cells ⟨⟨pp⟩, ⟨bi, bt⟩, ⟨oi, ot⟩, ⟨ti, tt⟩⟩).toArray 77)) (Sd.cells ⟨ti, tt⟩) 41).rg
    rw [World.size_alloc] at h
    exact h
  · exact ((Below.refl _ _).alloc (Nat.le_refl _) _).alloc (by simp) _

set_option maxRecDepth 100000 in
set_option maxHeartbeats 2000000 in
theorem agreed_any (p : Pl) (w : World) : Calls Try.prog 69 #[plV p] w fun e w' => e = .returned (sdV (agreedW p)) ∧ Below w.heap.size w w' := by
  obtain ⟨w1, hw1⟩ : ∃ w1, (w.alloc (.cells p.cells.toArray 77)).alloc (.cells #[.bool false, .string ⟨#[]⟩] 41) = w1 := ⟨_, rfl⟩
  have B1 : Hid (Below w.heap.size w w1) := Lib.hid (by rw [← hw1]; exact ((Below.refl _ _).alloc (Nat.le_refl _) _).alloc (by simp) _)
  have X0 : Hid (Lies w1 w.heap.size 7 p.cells) := Lib.hid (by rw [← hw1]; exact (Lies.new w p.cells 77).alloc _)
  have X1 : Hid (Lies w1 (w.heap.size + 1) 2 [.bool false, .string ⟨#[]⟩]) := Lib.hid (by
    rw [← hw1]
    have := Lies.new (w.alloc (.cells p.cells.toArray 77)) [.bool false, .string ⟨#[]⟩] 41
    rwa [World.size_alloc] at this)
  have HW := Lib.hid hw1
  obtain ⟨x2, hx2⟩ : ∃ x, sameSd p.b p.o = x := ⟨_, rfl⟩
  obtain ⟨r, hr⟩ : ∃ r, agreedW p = r := ⟨_, rfl⟩
  have HR : Hid (r = if x2 then p.t else p.o) := Lib.hid (by rw [← hr]; unfold agreedW; rw [hx2])
  rw [hr]
  clear hw1 hr
  have n2 := fun w => eql_sds p.b p.o w
  rw [hx2] at n2
  have hgd := sd_guard
  clear hx2
  have q0 := X0.out.cell (j := 0) rfl
  have q1 := X0.out.cell (j := 1) rfl
  have q2 := X0.out.cell (j := 2) rfl
  have q3 := X0.out.cell (j := 3) rfl
  have q4 := X0.out.cell (j := 4) rfl
  have q5 := X0.out.cell (j := 5) rfl
  have q6 := X0.out.cell (j := 6) rfl
  go_enter Try.func69, Try.ntmps69
  go_upto_region 1 with fail
  have HW2 := HW.out
  simp only [Pl.cells] at HW2
  rw [HW2]
  clear HW HW2
  cases x2
  · have e : r = p.o := by have := HR.out; simpa using this
    subst e
    go_wp2_with fail
    refine (placeO_any p w1).mono ?_
    rintro e w2 ⟨rfl, hb2⟩
    have X2 := Lib.hid (X1.out.below hb2 X1.out.lt)
    have B2 := Lib.hid (B1.out.trans (hb2.mono B1.out.size))
    clear q0 q1 q2 q3 q4 q5 q6 hb2
    have x0 := X2.out.cell (j := 0) rfl
    have x1 := X2.out.cell (j := 1) rfl
    have f0 := X2.out.frozen (j := 0) (by omega)
    have f1 := X2.out.frozen (j := 1) (by omega)
    go_wp2_with fail
    refine bodyPost_ret (results_cell_mid rfl _ _ (w.heap.size + 1) 0 (Sd.cells p.o) _ rfl ?_ Try.underlying41 rfl (size_sd p.o)) rfl ⟨rfl, ?_⟩
    · exact set2 x0 x1
    · exact (B2.out.setCell (p := ⟨w.heap.size + 1, 0, none⟩) (by show w.heap.size ≤ w.heap.size + 1; omega) _).setCell (p := ⟨w.heap.size + 1, 1, none⟩) (by show w.heap.size ≤ w.heap.size + 1; omega) _
  · have e : r = p.t := by have := HR.out; simpa using this
    subst e
    go_wp2_with fail
    refine (placeT_any p w1).mono ?_
    rintro e w2 ⟨rfl, hb2⟩
    have X2 := Lib.hid (X1.out.below hb2 X1.out.lt)
    have B2 := Lib.hid (B1.out.trans (hb2.mono B1.out.size))
    clear q0 q1 q2 q3 q4 q5 q6 hb2
    have x0 := X2.out.cell (j := 0) rfl
    have x1 := X2.out.cell (j := 1) rfl
    have f0 := X2.out.frozen (j := 0) (by omega)
    have f1 := X2.out.frozen (j := 1) (by omega)
    go_wp2_with fail
    refine bodyPost_ret (results_cell_mid rfl _ _ (w.heap.size + 1) 0 (Sd.cells p.t) _ rfl ?_ Try.underlying41 rfl (size_sd p.t)) rfl ⟨rfl, ?_⟩
    · exact set2 x0 x1
    · exact (B2.out.setCell (p := ⟨w.heap.size + 1, 0, none⟩) (by show w.heap.size ≤ w.heap.size + 1; omega) _).setCell (p := ⟨w.heap.size + 1, 1, none⟩) (by show w.heap.size ≤ w.heap.size + 1; omega) _

theorem places_any (A : Option Addr) (n c : Nat) (A' : Option Addr) (n' c' : Nat) (A2 : Option Addr) (n2 c2 : Nat) (w : World) : Calls Try.prog 37 #[.agg #[.slice A n c], .agg #[.slice A' n' c'], .agg #[.slice A2 n2 c2]] w fun e w' =>
    e = .returned (.func (.func 60) #[] #[.pointer (some ⟨w.heap.size, 0, none⟩), .pointer (some ⟨w.heap.size + 1, 0, none⟩), .pointer (some ⟨w.heap.size + 1 + 1, 0, none⟩)]) ∧ w' = ((w.alloc (.cells #[.slice A n c] 24)).alloc (.cells #[.slice A' n' c'] 24)).alloc (.cells #[.slice A2 n2 c2] 24) := by
  go_enter Try.func37, Try.ntmps37
  go_wp2
  go_ret
  exact ⟨rfl, rfl⟩
end Go.Proofs.Ytgpakahmccafdaa
