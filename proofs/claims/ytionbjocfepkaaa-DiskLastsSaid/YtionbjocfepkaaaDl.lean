/-
  CONTRACTS OF PACKAGE disk: sector.settle.
-/
import Derived.Test.YtionbjocfepkaaaDk
namespace Go.Proofs.Ytionbjocfepkaaa
set_option linter.unusedVariables false
open Go.RowKit Go.WideShapes Go.ChangeShapes

/-- What is left of a slice of blocks without its first. -/
def restV (b o n c : Nat) : Value := if n = 0 then .slice none 0 0 else .slice (some ⟨b, o + 64, none⟩) n (c - 1)
/-- A row of sectors behind a settle of the sector at q. -/
def setlF (f : Nat → Value) (lives : Bool) (q : Nat) (x : List UInt8) (v' : Value) (j : Nat) : Value := if j = q + 64 then v' else if lives = true ∧ q ≤ j ∧ j < q + 64 then bv (x.getD (j - q) 0) else f j

set_option maxHeartbeats 400000 in
theorem settle_lz1 {w : World} {ga q b o n c N : Nat} {f : Nat → Value} {x : List UInt8} (hx : x.length = 64) (hr : w.rowIs ga 80 N f) (hq : q + 64 < N) (hrg : w.rangeAt b o (bvs x)) (hv : f (q + 64) = .slice (some ⟨b, o, none⟩) 1 1) (hc : 1 ≤ maxLen) :
    Calls Try.prog 55 #[.pointer (some ⟨ga, q, none⟩), .bool false] w fun e w' => e = .returned (.tuple #[]) ∧ w'.rowIs ga 80 N (setlF f false q x (restV b o 0 1)) ∧ Mv (fun k => k = ga) w w' := by
  unfold maxLen at hc
  have c0 := hr.cell (i := q + 64) (by omega)
  rw [hv] at c0
  have f0 := hr.frozen (q + 64)
  have T := rowIs_there hr q 64 (by omega)
  have HX := Lib.hid hx
  have HR := Lib.hid hr
  have HRG := Lib.hid hrg
  have HV := Lib.hid hv
  clear hr hx hv hrg
  go_enter Try.func55, Try.ntmps55
  go_wp2
  go_end0
  refine ⟨rfl, ?_, ?_⟩
  · refine World.rowIs.congr (f := fun j => if j = q + 64 then restV b o 0 1 else f j) ?_ (fun j hj => ?_)
    · first
        | exact HR.out.set (q + 64) _
        | exact ((HR.out.set (q + 64) _).set (q + 64) _).congr fun j _ => (by split <;> simp_all [restV])
    · unfold setlF
      by_cases h1 : j = q + 64
      · rw [if_pos h1, if_pos h1]
      · rw [if_neg h1, if_neg h1]
        rw [if_neg (fun h => by cases h.1)]
  · first
      | exact (Mv.refl (fun k => k = ga) w).set_ (p := ⟨ga, q + 64, none⟩) (.inl rfl) _
      | exact ((Mv.refl (fun k => k = ga) w).set_ (p := ⟨ga, q + 64, none⟩) (.inl rfl) _).set_ (p := ⟨ga, q + 64, none⟩) (.inl rfl) _

set_option maxHeartbeats 400000 in
theorem settle_lzc {w : World} {ga q b o n c N : Nat} {f : Nat → Value} {x : List UInt8} (hx : x.length = 64) (hr : w.rowIs ga 80 N f) (hq : q + 64 < N) (hrg : w.rangeAt b o (bvs x)) (hv : f (q + 64) = .slice (some ⟨b, o, none⟩) 1 (c + 2)) (hc : (c + 2) ≤ maxLen) :
    Calls Try.prog 55 #[.pointer (some ⟨ga, q, none⟩), .bool false] w fun e w' => e = .returned (.tuple #[]) ∧ w'.rowIs ga 80 N (setlF f false q x (restV b o 0 (c + 2))) ∧ Mv (fun k => k = ga) w w' := by
  unfold maxLen at hc
  have c0 := hr.cell (i := q + 64) (by omega)
  rw [hv] at c0
  have f0 := hr.frozen (q + 64)
  have T := rowIs_there hr q 64 (by omega)
  have HX := Lib.hid hx
  have HR := Lib.hid hr
  have HRG := Lib.hid hrg
  have HV := Lib.hid hv
  clear hr hx hv hrg
  go_enter Try.func55, Try.ntmps55
  go_wp2
  go_end0
  refine ⟨rfl, ?_, ?_⟩
  · refine World.rowIs.congr (f := fun j => if j = q + 64 then restV b o 0 (c + 2) else f j) ?_ (fun j hj => ?_)
    · first
        | exact HR.out.set (q + 64) _
        | exact ((HR.out.set (q + 64) _).set (q + 64) _).congr fun j _ => (by split <;> simp_all [restV])
    · unfold setlF
      by_cases h1 : j = q + 64
      · rw [if_pos h1, if_pos h1]
      · rw [if_neg h1, if_neg h1]
        rw [if_neg (fun h => by cases h.1)]
  · first
      | exact (Mv.refl (fun k => k = ga) w).set_ (p := ⟨ga, q + 64, none⟩) (.inl rfl) _
      | exact ((Mv.refl (fun k => k = ga) w).set_ (p := ⟨ga, q + 64, none⟩) (.inl rfl) _).set_ (p := ⟨ga, q + 64, none⟩) (.inl rfl) _

set_option maxHeartbeats 400000 in
theorem settle_lnc {w : World} {ga q b o n c N : Nat} {f : Nat → Value} {x : List UInt8} (hx : x.length = 64) (hr : w.rowIs ga 80 N f) (hq : q + 64 < N) (hrg : w.rangeAt b o (bvs x)) (hv : f (q + 64) = .slice (some ⟨b, o, none⟩) (n + 1 + 1) (c + 2)) (hnc : n + 1 + 1 ≤ c + 2) (hc : (c + 2) ≤ maxLen) :
    Calls Try.prog 55 #[.pointer (some ⟨ga, q, none⟩), .bool false] w fun e w' => e = .returned (.tuple #[]) ∧ w'.rowIs ga 80 N (setlF f false q x (restV b o (n + 1) (c + 2))) ∧ Mv (fun k => k = ga) w w' := by
  unfold maxLen at hc
  have c0 := hr.cell (i := q + 64) (by omega)
  rw [hv] at c0
  have f0 := hr.frozen (q + 64)
  have T := rowIs_there hr q 64 (by omega)
  have HX := Lib.hid hx
  have HR := Lib.hid hr
  have HRG := Lib.hid hrg
  have HV := Lib.hid hv
  clear hr hx hv hrg
  go_enter Try.func55, Try.ntmps55
  go_wp2
  go_end0
  refine ⟨rfl, ?_, ?_⟩
  · refine World.rowIs.congr (f := fun j => if j = q + 64 then restV b o (n + 1) (c + 2) else f j) ?_ (fun j hj => ?_)
    · first
        | exact HR.out.set (q + 64) _
        | exact ((HR.out.set (q + 64) _).set (q + 64) _).congr fun j _ => (by split <;> simp_all [restV])
    · unfold setlF
      by_cases h1 : j = q + 64
      · rw [if_pos h1, if_pos h1]
      · rw [if_neg h1, if_neg h1]
        rw [if_neg (fun h => by cases h.1)]
  · first
      | exact (Mv.refl (fun k => k = ga) w).set_ (p := ⟨ga, q + 64, none⟩) (.inl rfl) _
      | exact ((Mv.refl (fun k => k = ga) w).set_ (p := ⟨ga, q + 64, none⟩) (.inl rfl) _).set_ (p := ⟨ga, q + 64, none⟩) (.inl rfl) _

set_option maxHeartbeats 400000 in
theorem settle_tz1 {w : World} {ga q b o n c N : Nat} {f : Nat → Value} {x : List UInt8} (hx : x.length = 64) (hr : w.rowIs ga 80 N f) (hq : q + 64 < N) (hrg : w.rangeAt b o (bvs x)) (hv : f (q + 64) = .slice (some ⟨b, o, none⟩) 1 1) (hc : 1 ≤ maxLen) :
    Calls Try.prog 55 #[.pointer (some ⟨ga, q, none⟩), .bool true] w fun e w' => e = .returned (.tuple #[]) ∧ w'.rowIs ga 80 N (setlF f true q x (restV b o 0 1)) ∧ Mv (fun k => k = ga) w w' := by
  unfold maxLen at hc
  have c0 := hr.cell (i := q + 64) (by omega)
  rw [hv] at c0
  have f0 := hr.frozen (q + 64)
  have T := rowIs_there hr q 64 (by omega)
  have hr2 := rowIs_setCells ga _ N (bvs x) q w f hr
  have c1 : (w.setCells ga q (bvs x)).cell? ⟨ga, q + 64, none⟩ = some (.slice (some ⟨b, o, none⟩) 1 1) := by
    rw [hr2.cell (by omega), if_neg (by rw [bvs_len, hx]; omega), hv]
  have f1 := hr2.frozen (q + 64)
  have HX := Lib.hid hx
  have HR := Lib.hid hr2
  have HRG := Lib.hid hrg
  have HV := Lib.hid hv
  clear hr hr2 hx hv hrg
  go_enter Try.func55, Try.ntmps55
  go_wp2_with (first
    | (with_reducible refine ld_block rfl _ rfl b o x HX rfl HRG.out ?_)
    | (with_reducible refine st_block rfl _ _ rfl ga q x HX rfl rfl T ?_))
  go_end0
  refine ⟨rfl, ?_, ?_⟩
  · refine World.rowIs.congr (f := fun j => if j = q + 64 then restV b o 0 1 else if q ≤ j ∧ j < q + (bvs x).length then (bvs x).getD (j - q) undef else f j) ?_ (fun j hj => ?_)
    · first
        | exact HR.out.set (q + 64) _
        | exact ((HR.out.set (q + 64) _).set (q + 64) _).congr fun j _ => (by split <;> simp_all [restV])
    · unfold setlF
      by_cases h1 : j = q + 64
      · rw [if_pos h1, if_pos h1]
      · rw [if_neg h1, if_neg h1]
        rw [bvs_len, HX.out]
        by_cases h2 : q ≤ j ∧ j < q + 64
        · rw [if_pos h2, if_pos ⟨rfl, h2⟩]
          have hl : j - q < x.length := by rw [HX.out]; omega
          simp [bvs, List.getD_eq_getElem?_getD, hl]
        · rw [if_neg h2, if_neg (fun h => h2 h.2)]
  · first
      | exact ((Mv.refl (fun k => k = ga) w).setCells (b := ga) (.inl rfl) _ _).set_ (p := ⟨ga, q + 64, none⟩) (.inl rfl) _
      | exact (((Mv.refl (fun k => k = ga) w).setCells (b := ga) (.inl rfl) _ _).set_ (p := ⟨ga, q + 64, none⟩) (.inl rfl) _).set_ (p := ⟨ga, q + 64, none⟩) (.inl rfl) _

set_option maxHeartbeats 400000 in
theorem settle_tzc {w : World} {ga q b o n c N : Nat} {f : Nat → Value} {x : List UInt8} (hx : x.length = 64) (hr : w.rowIs ga 80 N f) (hq : q + 64 < N) (hrg : w.rangeAt b o (bvs x)) (hv : f (q + 64) = .slice (some ⟨b, o, none⟩) 1 (c + 2)) (hc : (c + 2) ≤ maxLen) :
    Calls Try.prog 55 #[.pointer (some ⟨ga, q, none⟩), .bool true] w fun e w' => e = .returned (.tuple #[]) ∧ w'.rowIs ga 80 N (setlF f true q x (restV b o 0 (c + 2))) ∧ Mv (fun k => k = ga) w w' := by
  unfold maxLen at hc
  have c0 := hr.cell (i := q + 64) (by omega)
  rw [hv] at c0
  have f0 := hr.frozen (q + 64)
  have T := rowIs_there hr q 64 (by omega)
  have hr2 := rowIs_setCells ga _ N (bvs x) q w f hr
  have c1 : (w.setCells ga q (bvs x)).cell? ⟨ga, q + 64, none⟩ = some (.slice (some ⟨b, o, none⟩) 1 (c + 2)) := by
    rw [hr2.cell (by omega), if_neg (by rw [bvs_len, hx]; omega), hv]
  have f1 := hr2.frozen (q + 64)
  have HX := Lib.hid hx
  have HR := Lib.hid hr2
  have HRG := Lib.hid hrg
  have HV := Lib.hid hv
  clear hr hr2 hx hv hrg
  go_enter Try.func55, Try.ntmps55
  go_wp2_with (first
    | (with_reducible refine ld_block rfl _ rfl b o x HX rfl HRG.out ?_)
    | (with_reducible refine st_block rfl _ _ rfl ga q x HX rfl rfl T ?_))
  go_end0
  refine ⟨rfl, ?_, ?_⟩
  · refine World.rowIs.congr (f := fun j => if j = q + 64 then restV b o 0 (c + 2) else if q ≤ j ∧ j < q + (bvs x).length then (bvs x).getD (j - q) undef else f j) ?_ (fun j hj => ?_)
    · first
        | exact HR.out.set (q + 64) _
        | exact ((HR.out.set (q + 64) _).set (q + 64) _).congr fun j _ => (by split <;> simp_all [restV])
    · unfold setlF
      by_cases h1 : j = q + 64
      · rw [if_pos h1, if_pos h1]
      · rw [if_neg h1, if_neg h1]
        rw [bvs_len, HX.out]
        by_cases h2 : q ≤ j ∧ j < q + 64
        · rw [if_pos h2, if_pos ⟨rfl, h2⟩]
          have hl : j - q < x.length := by rw [HX.out]; omega
          simp [bvs, List.getD_eq_getElem?_getD, hl]
        · rw [if_neg h2, if_neg (fun h => h2 h.2)]
  · first
      | exact ((Mv.refl (fun k => k = ga) w).setCells (b := ga) (.inl rfl) _ _).set_ (p := ⟨ga, q + 64, none⟩) (.inl rfl) _
      | exact (((Mv.refl (fun k => k = ga) w).setCells (b := ga) (.inl rfl) _ _).set_ (p := ⟨ga, q + 64, none⟩) (.inl rfl) _).set_ (p := ⟨ga, q + 64, none⟩) (.inl rfl) _

set_option maxHeartbeats 400000 in
theorem settle_tnc {w : World} {ga q b o n c N : Nat} {f : Nat → Value} {x : List UInt8} (hx : x.length = 64) (hr : w.rowIs ga 80 N f) (hq : q + 64 < N) (hrg : w.rangeAt b o (bvs x)) (hv : f (q + 64) = .slice (some ⟨b, o, none⟩) (n + 1 + 1) (c + 2)) (hnc : n + 1 + 1 ≤ c + 2) (hc : (c + 2) ≤ maxLen) :
    Calls Try.prog 55 #[.pointer (some ⟨ga, q, none⟩), .bool true] w fun e w' => e = .returned (.tuple #[]) ∧ w'.rowIs ga 80 N (setlF f true q x (restV b o (n + 1) (c + 2))) ∧ Mv (fun k => k = ga) w w' := by
  unfold maxLen at hc
  have c0 := hr.cell (i := q + 64) (by omega)
  rw [hv] at c0
  have f0 := hr.frozen (q + 64)
  have T := rowIs_there hr q 64 (by omega)
  have hr2 := rowIs_setCells ga _ N (bvs x) q w f hr
  have c1 : (w.setCells ga q (bvs x)).cell? ⟨ga, q + 64, none⟩ = some (.slice (some ⟨b, o, none⟩) (n + 1 + 1) (c + 2)) := by
    rw [hr2.cell (by omega), if_neg (by rw [bvs_len, hx]; omega), hv]
  have f1 := hr2.frozen (q + 64)
  have HX := Lib.hid hx
  have HR := Lib.hid hr2
  have HRG := Lib.hid hrg
  have HV := Lib.hid hv
  clear hr hr2 hx hv hrg
  go_enter Try.func55, Try.ntmps55
  go_wp2_with (first
    | (with_reducible refine ld_block rfl _ rfl b o x HX rfl HRG.out ?_)
    | (with_reducible refine st_block rfl _ _ rfl ga q x HX rfl rfl T ?_))
  go_end0
  refine ⟨rfl, ?_, ?_⟩
  · refine World.rowIs.congr (f := fun j => if j = q + 64 then restV b o (n + 1) (c + 2) else if q ≤ j ∧ j < q + (bvs x).length then (bvs x).getD (j - q) undef else f j) ?_ (fun j hj => ?_)
    · first
        | exact HR.out.set (q + 64) _
        | exact ((HR.out.set (q + 64) _).set (q + 64) _).congr fun j _ => (by split <;> simp_all [restV])
    · unfold setlF
      by_cases h1 : j = q + 64
      · rw [if_pos h1, if_pos h1]
      · rw [if_neg h1, if_neg h1]
        rw [bvs_len, HX.out]
        by_cases h2 : q ≤ j ∧ j < q + 64
        · rw [if_pos h2, if_pos ⟨rfl, h2⟩]
          have hl : j - q < x.length := by rw [HX.out]; omega
          simp [bvs, List.getD_eq_getElem?_getD, hl]
        · rw [if_neg h2, if_neg (fun h => h2 h.2)]
  · first
      | exact ((Mv.refl (fun k => k = ga) w).setCells (b := ga) (.inl rfl) _ _).set_ (p := ⟨ga, q + 64, none⟩) (.inl rfl) _
      | exact (((Mv.refl (fun k => k = ga) w).setCells (b := ga) (.inl rfl) _ _).set_ (p := ⟨ga, q + 64, none⟩) (.inl rfl) _).set_ (p := ⟨ga, q + 64, none⟩) (.inl rfl) _

/-- A slice of blocks that is only read. -/
def Wk (w : World) (S : Nat → Prop) (v : Value) (l : List (List UInt8)) : Prop :=
  (l = [] ∧ v = .slice none 0 0) ∨
  ∃ b o c cur, l ≠ [] ∧ v = .slice (some ⟨b, o, none⟩) l.length c ∧ S b ∧ l.length ≤ c ∧ c ≤ maxLen ∧ w.rangeAt b o (fl l) ∧ w.heap[b]? = some (.cells cur 37 (0, 0))
theorem Wv.weak {w : World} {S : Nat → Prop} {v : Value} {l : List (List UInt8)} (h : Wv w S v l) : Wk w S v l := by
  rcases h with h | ⟨b, o, c, cur, h1, h2, h3, h4, h5, h6, h7, h8⟩
  · exact .inl h
  · exact .inr ⟨b, o, c, cur, h1, h2, h3, h4, h5, h6, h7⟩
theorem Wk.keep {w w' : World} {S : Nat → Prop} {v : Value} {l : List (List UInt8)} (h : Wk w S v l) (hk : ∀ b cur, S b → w.heap[b]? = some (.cells cur 37 (0, 0)) → w'.heap[b]? = w.heap[b]?) : Wk w' S v l := by
  rcases h with h | ⟨b, o, c, cur, h1, h2, h3, h4, h5, h6, h7⟩
  · exact .inl h
  · exact .inr ⟨b, o, c, cur, h1, h2, h3, h4, h5, rangeAt_keep h6 (hk b cur h3 h7), (hk b cur h3 h7).trans h7⟩
theorem settle1_any {w : World} {S : Nat → Prop} {ga q N : Nat} {f : Nat → Value} {x : List UInt8} {r : List (List UInt8)} {v : Value} (lives : Bool) (hx : ∀ y ∈ x :: r, y.length = 64) (hr : w.rowIs ga 80 N f) (hq : q + 64 < N) (hw : Wk w S v (x :: r)) (hv : f (q + 64) = v) :
    Calls Try.prog 55 #[.pointer (some ⟨ga, q, none⟩), .bool lives] w fun e w' => e = .returned (.tuple #[]) ∧ ∃ v', w'.rowIs ga 80 N (setlF f lives q x v') ∧ Mv (fun k => k = ga) w w' ∧ Wk w S v' r := by
  rcases hw with ⟨h, _⟩ | ⟨b, o, c, cur, h1, h2, h3, h4, h5, h6, h7⟩
  · cases h
  · have hx0 := hx x (by simp)
    rw [fl_cons, rangeAt_app, bvs_len, hx0] at h6
    subst h2
    simp only [List.length_cons] at h4 hv
    cases r with
    | nil =>
      have done : Wk w S (restV b o 0 c) [] := .inl ⟨rfl, rfl⟩
      by_cases hc1 : c = 1
      · subst hc1
        cases lives
        · exact (settle_lz1 (n := 0) (c := 0) hx0 hr hq h6.1 (by simpa using hv) (by unfold maxLen; omega)).mono fun e w' ⟨he, hrr, hm⟩ => ⟨he, _, hrr, hm, done⟩
        · exact (settle_tz1 (n := 0) (c := 0) hx0 hr hq h6.1 (by simpa using hv) (by unfold maxLen; omega)).mono fun e w' ⟨he, hrr, hm⟩ => ⟨he, _, hrr, hm, done⟩
      · obtain ⟨c', rfl⟩ : ∃ c', c = c' + 2 := ⟨c - 2, by simp at h4; omega⟩
        cases lives
        · exact (settle_lzc (n := 0) hx0 hr hq h6.1 (by simpa using hv) h5).mono fun e w' ⟨he, hrr, hm⟩ => ⟨he, _, hrr, hm, done⟩
        · exact (settle_tzc (n := 0) hx0 hr hq h6.1 (by simpa using hv) h5).mono fun e w' ⟨he, hrr, hm⟩ => ⟨he, _, hrr, hm, done⟩
    | cons y r =>
      simp only [List.length_cons] at h4 hv
      obtain ⟨c', rfl⟩ : ∃ c', c = c' + 2 := ⟨c - 2, by omega⟩
      have hR : restV b o (r.length + 1) (c' + 2) = .slice (some ⟨b, o + 64, none⟩) (y :: r).length (c' + 1) := by
        unfold restV
        rw [if_neg (by omega)]
        rfl
      have tail : Wk w S (restV b o (r.length + 1) (c' + 2)) (y :: r) :=
        .inr ⟨b, o + 64, c' + 1, cur, by simp, hR, h3, by simp only [List.length_cons]; omega, by omega, h6.2, h7⟩
      cases lives
      · exact (settle_lnc hx0 hr hq h6.1 hv (by omega) h5).mono fun e w' ⟨he, hrr, hm⟩ => ⟨he, _, hrr, hm, tail⟩
      · exact (settle_tnc hx0 hr hq h6.1 hv (by omega) h5).mono fun e w' ⟨he, hrr, hm⟩ => ⟨he, _, hrr, hm, tail⟩
end Go.Proofs.Ytionbjocfepkaaa
