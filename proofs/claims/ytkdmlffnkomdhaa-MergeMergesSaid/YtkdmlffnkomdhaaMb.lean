/-
  MERGE: what a map has at a path; a place, and what the three maps have there.
  MERGE: a place's own words; the iterator over places is made; the reference's Side.
-/
import Derived.Test.YtkdmlffnkomdhaaGt
import Derived.Test.YtkdmlffnkomdhaaPz
import Derived.Test.YtkdmlffnkomdhaaPx
import Derived.Test.YtkdmlffnkomdhaaPs
namespace Go.Proofs.Ytkdmlffnkomdhaa
set_option linter.unusedVariables false
set_option linter.unusedSimpArgs false
open Go.RowKit Go.WideShapes Go.ChangeShapes Go.Deep

structure Sd where
  is : Bool
  t : ByteArray
structure Pl where
  p : ByteArray
  b : Sd
  o : Sd
  t : Sd
def Sd.cells (s : Sd) : List Value := [.bool s.is, .string s.t]
abbrev sdV (s : Sd) : Value := .agg #[.bool s.is, .string s.t]
def Pl.cells (x : Pl) : List Value := [.string x.p, .bool x.b.is, .string x.b.t, .bool x.o.is, .string x.o.t, .bool x.t.is, .string x.t.t]
abbrev plV (x : Pl) : Value := .agg #[.string x.p, .bool x.b.is, .string x.b.t, .bool x.o.is, .string x.o.t, .bool x.t.is, .string x.t.t]
theorem sd_sz (s : Sd) : s.cells.length = 2 := rfl
theorem pl_sz (s : Pl) : s.cells.length = 7 := rfl
theorem size_sd (s : Sd) : (Try.prog.info? 41).map (·.size) = some s.cells.length := by rw [sd_sz]; kernel_rfl
theorem size_pl (s : Pl) : (Try.prog.info? 77).map (·.size) = some s.cells.length := by rw [pl_sz]; kernel_rfl
theorem size_cf (s : Pl) : (Try.prog.info? 43).map (·.size) = some s.cells.length := by rw [pl_sz]; kernel_rfl
theorem info_sd : (Try.prog.info? 41).map (fun i => (i.zero, i.size, i.bytes)) = some (some (sdV ⟨false, ⟨#[]⟩⟩), 2, 24) := by kernel_rfl
theorem info_cf : (Try.prog.info? 43).map (fun i => (i.zero, i.size, i.bytes)) = some (some (plV ⟨⟨#[]⟩, ⟨false, ⟨#[]⟩⟩, ⟨false, ⟨#[]⟩⟩, ⟨false, ⟨#[]⟩⟩⟩), 7, 88) := by kernel_rfl
theorem info_pl : (Try.prog.info? 77).map (fun i => (i.zero, i.size, i.bytes)) = some (some (plV ⟨⟨#[]⟩, ⟨false, ⟨#[]⟩⟩, ⟨false, ⟨#[]⟩⟩, ⟨false, ⟨#[]⟩⟩⟩), 7, 88) := by kernel_rfl

/-- Whether two sides have the same. -/
def sameSd (a b : Sd) : Bool := a.is == b.is && a.t.toList == b.t.toList
theorem sameSd_iff {a b : Sd} : sameSd a b = true ↔ a = b := by
  unfold sameSd
  rw [Bool.and_eq_true, beq_iff_eq, beq_iff_eq]
  obtain ⟨x, s⟩ := a
  obtain ⟨y, t⟩ := b
  constructor
  · rintro ⟨h1, h2⟩
    rw [show x = y from h1, show s = t from by
      have h2 : s.toList = t.toList := h2
      rw [ByteArray.toList_eq, ByteArray.toList_eq] at h2
      cases s
      cases t
      simpa using h2]
  · intro h
    injection h with h1 h2
    exact ⟨h1, by rw [h2]⟩
theorem sd_flat : Try.prog.stoodInHeld 41 = false := by kernel_rfl
theorem sd_guard : Try.prog.eqGuardType Try.prog.depth 41 = false := by kernel_rfl
theorem sd_fields : Try.prog.underlying 41 = some (.struct (Try.prog.fieldsOf 41)) := by kernel_rfl
theorem eq_sds (d : Nat) (a b : Sd) (w : World) : (Op.equalIn (d + 2) 41 (sdV a) (sdV b)).run Try.prog w = .ok (sameSd a b) w := by
  rw [run_equalIn_agg w (d + 1) 41 _ _ sd_fields sd_flat]
  have hs := Try.underlying9
  have hb := Try.underlying4
  unfold sameSd
  simp only [Program.fieldsOf, Try.underlying41]
  cases h1 : a.is == b.is <;> cases h2 : a.t.toList == b.t.toList <;> simp [Op.eqFields, part, isAgg, Sem.run_bind, run_underlying hs, run_underlying hb, run_equalIn_string, run_equalIn_bool, hs, hb, h1, h2]
theorem neq_sds (a b : Sd) (w : World) : (binOp .neq 41 (sdV a) (sdV b)).run Try.prog w = .ok (.bool (!sameSd a b)) w := by
  rw [run_neq_struct, eq_sds]
  rfl
theorem eql_sds (a b : Sd) (w : World) : (binOp .eql 41 (sdV a) (sdV b)).run Try.prog w = .ok (.bool (sameSd a b)) w := by
  rw [run_eql_struct, eq_sds]
  rfl
theorem set2 {w : World} {b : Nat} {u0 u1 v0 v1 : Value} (h0 : w.cell? ⟨b, 0, none⟩ = some u0) (h1 : w.cell? ⟨b, 1, none⟩ = some u1) :
    ((w.setCell ⟨b, 0, none⟩ v0).setCell ⟨b, 1, none⟩ v1).rangeAt b 0 [v0, v1] := by
  have e1 : ((w.setCell ⟨b, 0, none⟩ v0).setCell ⟨b, 1, none⟩ v1).cell? ⟨b, 1, none⟩ = some v1 := World.cell?_setCell_same' _ _ _ (by
    rw [World.cell?_setCell_other _ _ _ _ (by simp), h1]; rfl)
  have e0 : ((w.setCell ⟨b, 0, none⟩ v0).setCell ⟨b, 1, none⟩ v1).cell? ⟨b, 0, none⟩ = some v0 := by
    rw [World.cell?_setCell_other _ _ _ _ (by simp)]
    exact World.cell?_setCell_same' _ _ _ (by rw [h0]; rfl)
  intro j u hu
  rcases j with _ | _ | j
  · obtain rfl : _ = u := by simpa using hu
    exact e0
  · obtain rfl : _ = u := by simpa using hu
    exact e1
  · simp at hu
/-- What a map has at a path. -/
def sdW (l : List Rw) (s : ByteArray) : Sd := ⟨(findW Rw.p l s).isSome, textR (findW Rw.p l s)⟩
def conflW (p : Pl) : Bool := !sameSd p.o p.t && (!sameSd p.b p.o && !sameSd p.b p.t)
def agreedW (p : Pl) : Sd := if sameSd p.b p.o then p.t else p.o

set_option maxRecDepth 100000 in
set_option maxHeartbeats 2000000 in
theorem side_any {w : World} {A : Option Addr} {n c : Nat} {l : List Rw} (h : SqR w w.heap.size A n c l) (hn : n ≤ 1000000) (s : ByteArray) :
    Calls Try.prog 61 #[.agg #[.slice A n c], .string s] w fun e w' => e = .returned (sdV (sdW l s)) ∧ Below w.heap.size w w' := by
  obtain ⟨w1, hw1⟩ : ∃ w1, (w.alloc (.cells #[.slice A n c] 24)).alloc (.cells #[.bool false, .string ⟨#[]⟩] 41) = w1 := ⟨_, rfl⟩
  have B1 : Hid (Below w.heap.size w w1) := Lib.hid (by rw [← hw1]; exact ((Below.refl _ _).alloc (Nat.le_refl _) _).alloc (by simp) _)
  have X0 : Hid (Lies w1 w.heap.size 1 [.slice A n c]) := Lib.hid (by rw [← hw1]; exact (Lies.new w [.slice A n c] 24).alloc _)
  have X1 : Hid (Lies w1 (w.heap.size + 1) 2 [.bool false, .string ⟨#[]⟩]) := Lib.hid (by
    rw [← hw1]
    have := Lies.new (w.alloc (.cells #[.slice A n c] 24)) [.bool false, .string ⟨#[]⟩] 41
    rwa [World.size_alloc] at this)
  have HW := Lib.hid hw1
  have HG := Get_any ((h.below B1.out).more B1.out.size) hn s
  obtain ⟨ix, hix⟩ : ∃ ix, (findW Rw.p l s).isSome = ix := ⟨_, rfl⟩
  obtain ⟨tx, htx⟩ : ∃ tx, textR (findW Rw.p l s) = tx := ⟨_, rfl⟩
  have HV : Hid (sdW l s = ⟨ix, tx⟩) := Lib.hid (by unfold sdW; rw [hix, htx])
  rw [hix, htx] at HG
  have HGG := Lib.hid HG
  clear hw1 h HG hix htx
  go_enter Try.func61, Try.ntmps61
  go_upto_region 1 with fail
  rw [HW.out]
  clear HW
  have q0 := X0.out.cell (j := 0) rfl
  go_wp2_with fail
  refine HGG.out.mono ?_
  rintro e w2 ⟨rfl, hb2⟩
  have X2 := Lib.hid (X1.out.below hb2 X1.out.lt)
  have B2 := Lib.hid (B1.out.trans (hb2.mono B1.out.size))
  clear q0 hb2 HGG
  have x0 := X2.out.cell (j := 0) rfl
  have x1 := X2.out.cell (j := 1) rfl
  have f0 := X2.out.frozen (j := 0) (by omega)
  have f1 := X2.out.frozen (j := 1) (by omega)
  go_wp2_with fail
  rw [HV.out]
  refine bodyPost_ret (results_cell_mid rfl _ _ (w.heap.size + 1) 0 [.bool ix, .string tx] _ rfl ?_ Try.underlying41 rfl (size_sd ⟨ix, tx⟩)) rfl ⟨rfl, ?_⟩
  · exact set2 x0 x1
  · first
      | exact (B2.out.setCell (p := ⟨w.heap.size + 1, 0, none⟩) (by show w.heap.size ≤ w.heap.size + 1; omega) _).setCell (p := ⟨w.heap.size + 1, 1, none⟩) (by show w.heap.size ≤ w.heap.size + 1; omega) _
      | exact below_setCells B2.out (by omega) _ _
end Go.Proofs.Ytkdmlffnkomdhaa
namespace Go.Proofs.Ytkdmlffnkomdhaa
set_option linter.unusedVariables false
set_option linter.unusedSimpArgs false
open Go.RowKit Go.WideShapes Go.ChangeShapes Go.Deep

set_option maxRecDepth 100000 in
set_option maxHeartbeats 2000000 in
theorem refSide_any {w : World} {A : Option Addr} {n c : Nat} {l : List Rw} (h : SqR w w.heap.size A n c l) (hn : n ≤ 1000000) (s : ByteArray) :
    Calls Try.prog 41 #[.agg #[.slice A n c], .string s] w fun e w' => e = .returned (sdV (sdW l s)) ∧ Below w.heap.size w w' := by
  obtain ⟨w1, hw1⟩ : ∃ w1, (w.alloc (.cells #[.slice A n c] 24)).alloc (.cells #[.bool false, .string ⟨#[]⟩] 41) = w1 := ⟨_, rfl⟩
  have B1 : Hid (Below w.heap.size w w1) := Lib.hid (by rw [← hw1]; exact ((Below.refl _ _).alloc (Nat.le_refl _) _).alloc (by simp) _)
  have X0 : Hid (Lies w1 w.heap.size 1 [.slice A n c]) := Lib.hid (by rw [← hw1]; exact (Lies.new w [.slice A n c] 24).alloc _)
  have X1 : Hid (Lies w1 (w.heap.size + 1) 2 [.bool false, .string ⟨#[]⟩]) := Lib.hid (by
    rw [← hw1]
    have := Lies.new (w.alloc (.cells #[.slice A n c] 24)) [.bool false, .string ⟨#[]⟩] 41
    rwa [World.size_alloc] at this)
  have HW := Lib.hid hw1
  have HG := refGet_any ((h.below B1.out).more B1.out.size) hn s
  obtain ⟨ix, hix⟩ : ∃ ix, (findW Rw.p l s).isSome = ix := ⟨_, rfl⟩
  obtain ⟨tx, htx⟩ : ∃ tx, textR (findW Rw.p l s) = tx := ⟨_, rfl⟩
  have HV : Hid (sdW l s = ⟨ix, tx⟩) := Lib.hid (by unfold sdW; rw [hix, htx])
  rw [hix, htx] at HG
  have HGG := Lib.hid HG
  clear hw1 h HG hix htx
  go_enter Try.func41, Try.ntmps41
  go_upto_region 1 with fail
  rw [HW.out]
  clear HW
  have q0 := X0.out.cell (j := 0) rfl
  go_wp2_with fail
  refine HGG.out.mono ?_
  rintro e w2 ⟨rfl, hb2⟩
  have X2 := Lib.hid (X1.out.below hb2 X1.out.lt)
  have B2 := Lib.hid (B1.out.trans (hb2.mono B1.out.size))
  clear q0 hb2 HGG
  have x0 := X2.out.cell (j := 0) rfl
  have x1 := X2.out.cell (j := 1) rfl
  have f0 := X2.out.frozen (j := 0) (by omega)
  have f1 := X2.out.frozen (j := 1) (by omega)
  go_wp2_with fail
  rw [HV.out]
  refine bodyPost_ret (results_cell_mid rfl _ _ (w.heap.size + 1) 0 [.bool ix, .string tx] _ rfl ?_ Try.underlying41 rfl (size_sd ⟨ix, tx⟩)) rfl ⟨rfl, ?_⟩
  · exact set2 x0 x1
  · first
      | exact (B2.out.setCell (p := ⟨w.heap.size + 1, 0, none⟩) (by show w.heap.size ≤ w.heap.size + 1; omega) _).setCell (p := ⟨w.heap.size + 1, 1, none⟩) (by show w.heap.size ≤ w.heap.size + 1; omega) _
      | exact below_setCells B2.out (by omega) _ _


set_option maxRecDepth 100000 in
set_option maxHeartbeats 2000000 in
theorem conflicts_any (p : Pl) (w : World) : Calls Try.prog 38 #[plV p] w fun e w' => e = .returned (.bool (conflW p)) ∧ Below w.heap.size w w' := by
  obtain ⟨w1, hw1⟩ : ∃ w1, w.alloc (.cells p.cells.toArray 77) = w1 := ⟨_, rfl⟩
  have B1 : Hid (Below w.heap.size w w1) := Lib.hid (by rw [← hw1]; exact (Below.refl _ _).alloc (Nat.le_refl _) _)
  have X0 : Hid (Lies w1 w.heap.size 7 p.cells) := Lib.hid (by rw [← hw1]; exact Lies.new w p.cells 77)
  have HW := Lib.hid hw1
  obtain ⟨x1, hx1⟩ : ∃ x, sameSd p.o p.t = x := ⟨_, rfl⟩
  obtain ⟨x2, hx2⟩ : ∃ x, sameSd p.b p.o = x := ⟨_, rfl⟩
  obtain ⟨x3, hx3⟩ : ∃ x, sameSd p.b p.t = x := ⟨_, rfl⟩
  have HC : Hid (conflW p = (!x1 && (!x2 && !x3))) := Lib.hid (by unfold conflW; rw [hx1, hx2, hx3])
  rw [HC.out]
  clear hw1
  have n1 := fun w => neq_sds p.o p.t w
  have n2 := fun w => neq_sds p.b p.o w
  have n3 := fun w => neq_sds p.b p.t w
  rw [hx1] at n1
  rw [hx2] at n2
  rw [hx3] at n3
  have hgd := sd_guard
  clear hx1 hx2 hx3
  have q0 := X0.out.cell (j := 0) rfl
  have q1 := X0.out.cell (j := 1) rfl
  have q2 := X0.out.cell (j := 2) rfl
  have q3 := X0.out.cell (j := 3) rfl
  have q4 := X0.out.cell (j := 4) rfl
  have q5 := X0.out.cell (j := 5) rfl
  have q6 := X0.out.cell (j := 6) rfl
  go_enter Try.func38, Try.ntmps38
  go_upto_region 1 with fail
  have HW2 := HW.out
  simp only [Pl.cells] at HW2
  rw [HW2]
  clear HW HW2
  cases x1
  · cases x2
    · cases x3
      · go_wp2
        go_ret
        exact ⟨rfl, B1.out⟩
      · go_wp2
        go_ret
        exact ⟨rfl, B1.out⟩
    · go_wp2
      go_ret
      exact ⟨by cases x3 <;> rfl, B1.out⟩
  · go_wp2
    go_ret
    exact ⟨rfl, B1.out⟩

set_option maxRecDepth 100000 in
set_option maxHeartbeats 2000000 in
theorem placeB_any (p : Pl) (w : World) : Calls Try.prog 62 #[plV p] w fun e w' => e = .returned (sdV p.b) ∧ Below w.heap.size w w' := by
  obtain ⟨⟨pp⟩, ⟨bi, bt⟩, ⟨oi, ot⟩, ⟨ti, tt⟩⟩ := p
  go_enter Try.func62, Try.ntmps62
  go_wp2
  refine bodyPost_ret (results_cell_mid rfl _ _ (w.heap.size + 1) 0 (Sd.cells ⟨bi, bt⟩) _ rfl ?_ Try.underlying41 rfl (size_sd ⟨bi, bt⟩)) rfl ⟨rfl, ?_⟩
  · have h := (Lies.new (w.alloc (.cells (Pl.cells ⟨⟨pp⟩, ⟨bi, bt⟩, ⟨oi, ot⟩, ⟨ti, tt⟩⟩).toArray 77)) (Sd.cells ⟨bi, bt⟩) 41).rg
    rw [World.size_alloc] at h
    exact h
  · exact ((Below.refl _ _).alloc (Nat.le_refl _) _).alloc (by simp) _

set_option maxRecDepth 100000 in
set_option maxHeartbeats 2000000 in
theorem placeO_any (p : Pl) (w : World) : Calls Try.prog 64 #[plV p] w fun e w' => e = .returned (sdV p.o) ∧ Below w.heap.size w w' := by
  obtain ⟨⟨pp⟩, ⟨bi, bt⟩, ⟨oi, ot⟩, ⟨ti, tt⟩⟩ := p
  go_enter Try.func64, Try.ntmps64
  go_wp2
  refine bodyPost_ret (results_cell_mid rfl _ _ (w.heap.size + 1) 0 (Sd.cells ⟨oi, ot⟩) _ rfl ?_ Try.underlying41 rfl (size_sd ⟨oi, ot⟩)) rfl ⟨rfl, ?_⟩
  · have h := (Lies.new (w.alloc (.cells (Pl.cells ⟨⟨pp⟩, ⟨bi, bt⟩, ⟨oi, ot⟩, ⟨ti, tt⟩⟩).toArray 77)) (Sd.cells ⟨oi, ot⟩) 41).rg
    rw [World.size_alloc] at h
    exact h
  · exact ((Below.refl _ _).alloc (Nat.le_refl _) _).alloc (by simp) _

set_option maxRecDepth 100000 in
set_option maxHeartbeats 2000000 in
theorem placeT_any (p : Pl) (w : World) : Calls Try.prog 63 #[plV p] w fun e w' => e = .returned (sdV p.t) ∧ Below w.heap.size w w' := by
  obtain ⟨⟨pp⟩, ⟨bi, bt⟩, ⟨oi, ot⟩, ⟨ti, tt⟩⟩ := p
  go_enter Try.func63, Try.ntmps63
  go_wp2
  refine bodyPost_ret (results_cell_mid rfl _ _ (w.heap.size + 1) 0 (Sd.cells ⟨ti, tt⟩) _ rfl ?_ Try.underlying41 rfl (size_sd ⟨ti, tt⟩)) rfl ⟨rfl, ?_⟩
  · have h := (Lies.new (w.alloc (.cells (Pl.cells ⟨⟨pp⟩, ⟨bi, bt⟩, ⟨oi, ot⟩, ⟨ti, tt⟩⟩).toArray 77)) (Sd.cells ⟨ti, tt⟩) 41).rg
    rw [World.size_alloc] at h
    exact h
  · exact ((Below.refl _ _).alloc (Nat.le_refl _) _).alloc (by simp) _

set_option maxRecDepth 100000 in
set_option maxHeartbeats 2000000 in
theorem agreed_any (p : Pl) (w : World) : Calls Try.prog 69 #[plV p] w fun e w' => e = .returned (sdV (agreedW p)) ∧ Below w.heap.size w w' := by
  obtain ⟨w1, hw1⟩ : ∃ w1, (w.alloc (.cells p.cells.toArray 77)).alloc (.cells #[.bool false, .string ⟨#[]⟩] 41) = w1 := ⟨_, rfl⟩
  have B1 : Hid (Below w.heap.size w w1) := Lib.hid (by rw [← hw1]; exact ((Below.refl _ _).alloc (Nat.le_refl _) _).alloc (by simp) _)
  have X0 : Hid (Lies w1 w.heap.size 7 p.cells) := Lib.hid (by rw [← hw1]; exact (Lies.new w p.cells 77).alloc _)
  have X1 : Hid (Lies w1 (w.heap.size + 1) 2 [.bool false, .string ⟨#[]⟩]) := Lib.hid (by
    rw [← hw1]
    have := Lies.new (w.alloc (.cells p.cells.toArray 77)) [.bool false, .string ⟨#[]⟩] 41
    rwa [World.size_alloc] at this)
  have HW := Lib.hid hw1
  obtain ⟨x2, hx2⟩ : ∃ x, sameSd p.b p.o = x := ⟨_, rfl⟩
  obtain ⟨r, hr⟩ : ∃ r, agreedW p = r := ⟨_, rfl⟩
  have HR : Hid (r = if x2 then p.t else p.o) := Lib.hid (by rw [← hr]; unfold agreedW; rw [hx2])
  rw [hr]
  clear hw1 hr
  have n2 := fun w => eql_sds p.b p.o w
  rw [hx2] at n2
  have hgd := sd_guard
  clear hx2
  have q0 := X0.out.cell (j := 0) rfl
  have q1 := X0.out.cell (j := 1) rfl
  have q2 := X0.out.cell (j := 2) rfl
  have q3 := X0.out.cell (j := 3) rfl
  have q4 := X0.out.cell (j := 4) rfl
  have q5 := X0.out.cell (j := 5) rfl
  have q6 := X0.out.cell (j := 6) rfl
  go_enter Try.func69, Try.ntmps69
  go_upto_region 1 with fail
  have HW2 := HW.out
  simp only [Pl.cells] at HW2
  rw [HW2]
  clear HW HW2
  cases x2
  · have e : r = p.o := by have := HR.out; simpa using this
    subst e
    go_wp2_with fail
    refine (placeO_any p w1).mono ?_
    rintro e w2 ⟨rfl, hb2⟩
    have X2 := Lib.hid (X1.out.below hb2 X1.out.lt)
    have B2 := Lib.hid (B1.out.trans (hb2.mono B1.out.size))
    clear q0 q1 q2 q3 q4 q5 q6 hb2
    have x0 := X2.out.cell (j := 0) rfl
    have x1 := X2.out.cell (j := 1) rfl
    have f0 := X2.out.frozen (j := 0) (by omega)
    have f1 := X2.out.frozen (j := 1) (by omega)
    go_wp2_with fail
    refine bodyPost_ret (results_cell_mid rfl _ _ (w.heap.size + 1) 0 (Sd.cells p.o) _ rfl ?_ Try.underlying41 rfl (size_sd p.o)) rfl ⟨rfl, ?_⟩
    · exact set2 x0 x1
    · exact (B2.out.setCell (p := ⟨w.heap.size + 1, 0, none⟩) (by show w.heap.size ≤ w.heap.size + 1; omega) _).setCell (p := ⟨w.heap.size + 1, 1, none⟩) (by show w.heap.size ≤ w.heap.size + 1; omega) _
  · have e : r = p.t := by have := HR.out; simpa using this
    subst e
    go_wp2_with fail
    refine (placeT_any p w1).mono ?_
    rintro e w2 ⟨rfl, hb2⟩
    have X2 := Lib.hid (X1.out.below hb2 X1.out.lt)
    have B2 := Lib.hid (B1.out.trans (hb2.mono B1.out.size))
    clear q0 q1 q2 q3 q4 q5 q6 hb2
    have x0 := X2.out.cell (j := 0) rfl
    have x1 := X2.out.cell (j := 1) rfl
    have f0 := X2.out.frozen (j := 0) (by omega)
    have f1 := X2.out.frozen (j := 1) (by omega)
    go_wp2_with fail
    refine bodyPost_ret (results_cell_mid rfl _ _ (w.heap.size + 1) 0 (Sd.cells p.t) _ rfl ?_ Try.underlying41 rfl (size_sd p.t)) rfl ⟨rfl, ?_⟩
    · exact set2 x0 x1
    · exact (B2.out.setCell (p := ⟨w.heap.size + 1, 0, none⟩) (by show w.heap.size ≤ w.heap.size + 1; omega) _).setCell (p := ⟨w.heap.size + 1, 1, none⟩) (by show w.heap.size ≤ w.heap.size + 1; omega) _

theorem places_any (A : Option Addr) (n c : Nat) (A' : Option Addr) (n' c' : Nat) (A2 : Option Addr) (n2 c2 : Nat) (w : World) : Calls Try.prog 37 #[.agg #[.slice A n c], .agg #[.slice A' n' c'], .agg #[.slice A2 n2 c2]] w fun e w' =>
    e = .returned (.func (.func 60) #[] #[.pointer (some ⟨w.heap.size, 0, none⟩), .pointer (some ⟨w.heap.size + 1, 0, none⟩), .pointer (some ⟨w.heap.size + 1 + 1, 0, none⟩)]) ∧ w' = ((w.alloc (.cells #[.slice A n c] 24)).alloc (.cells #[.slice A' n' c'] 24)).alloc (.cells #[.slice A2 n2 c2] 24) := by
  go_enter Try.func37, Try.ntmps37
  go_wp2
  go_ret
  exact ⟨rfl, rfl⟩
end Go.Proofs.Ytkdmlffnkomdhaa
