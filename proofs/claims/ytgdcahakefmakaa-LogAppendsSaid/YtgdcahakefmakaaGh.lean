/-
  LOGS: whether a log has a place; how many entries it knows.
-/
import Derived.Test.YtgdcahakefmakaaGg
import Derived.WalkMore
namespace Go.Proofs.Ytgdcahakefmakaa
set_option linter.unusedVariables false
set_option linter.unusedSimpArgs false
open Go.RowKit Go.WideShapes Go.ChangeShapes Go.Deep Go.Shelf
attribute [local go_sem] Oper.semAt_some
attribute [local irreducible] wpQuiet

/-- Equality of structs, field by field. -/
theorem eqF_nil {P : Program} (w : World) (dd : Nat) (xs ys : Array Value) : (Op.eqFields dd xs ys []).run P w = .ok true w := by simp [Op.eqFields]
theorem eqF_cons {P : Program} {w : World} {dd : Nat} {xs ys : Array Value} {f : Field} {fs : List Field} {a b : Value} {r r' : Bool} (hn : f.name ≠ "_") (p1 : (part f.type xs f.offset).run P w = .ok a w)
    (p2 : (part f.type ys f.offset).run P w = .ok b w) (p3 : (Op.equalIn dd f.type a b).run P w = .ok r w) (p4 : (Op.eqFields dd xs ys fs).run P w = .ok r' w) : (Op.eqFields dd xs ys (f :: fs)).run P w = .ok (r && r') w := by
  simp only [Op.eqFields, hn, ne_eq, not_false_eq_true, if_true, Sem.run_bind, p1, p2, p3, Result.andThen_ok]
  cases r
  · simp
  · simpa using p4
theorem at_flat : Try.prog.stoodInHeld 24 = false := by kernel_rfl
theorem at_fields : Try.prog.underlying 24 = some (.struct (Try.prog.fieldsOf 24)) := by kernel_rfl
theorem at_part0 (a b : Int) (w : World) : (part 22 #[.int .u64 a, .int .u64 b] 0).run Try.prog w = .ok (.int .u64 a) w := by
  have hu := Try.underlying22
  simp [part, isAgg, Sem.run_bind, run_underlying hu]
theorem at_part1 (a b : Int) (w : World) : (part 22 #[.int .u64 a, .int .u64 b] 1).run Try.prog w = .ok (.int .u64 b) w := by
  have hu := Try.underlying22
  simp [part, isAgg, Sem.run_bind, run_underlying hu]
theorem eq_at (a b c d : Int) (w : World) : (Op.equalIn 10000 24 (.agg #[.int .u64 a, .int .u64 b]) (.agg #[.int .u64 c, .int .u64 d])).run Try.prog w = .ok (a == c && b == d) w := by
  rw [run_equalIn_agg w 9999 24 _ _ at_fields at_flat]
  simp only [Program.fieldsOf, Try.underlying24]
  have h1 : (Op.equalIn 9999 22 (.int .u64 a) (.int .u64 c)).run Try.prog w = .ok (a == c) w := run_equalIn_int w 9998 _ _ _ _ _ Try.underlying22
  have h2 : (Op.equalIn 9999 22 (.int .u64 b) (.int .u64 d)).run Try.prog w = .ok (b == d) w := run_equalIn_int w 9998 _ _ _ _ _ Try.underlying22
  show (Op.eqFields 9999 _ _ [_, _]).run Try.prog w = _
  exact (eqF_cons (by decide) (at_part0 a b w) (at_part0 c d w) h1 (eqF_cons (by decide) (at_part1 a b w) (at_part1 c d w) h2 (eqF_nil w 9999 _ _))).trans (by rw [Bool.and_true])
set_option maxRecDepth 100000 in
set_option maxHeartbeats 4000000 in
theorem has_any {w : World} {A : Option Addr} {n c : Nat} {es : List En} (hs : SqE w w.heap.size A n c es) (hn : n ≤ 1000) (i t : Nat) (hin : i + n < 18446744073709551616) (ht : t < 18446744073709551616) (k u : Nat) (hk : k < 18446744073709551616) :
    Calls Try.prog 41 #[lgV i t A n c, atV k u] w fun e w' => e = .returned (.bool (hasW ⟨i, t, vsE es⟩ k u)) ∧ Below w.heap.size w w' := by
  obtain ⟨w1, hw1⟩ : ∃ w1, ((w.alloc (.cells #[.int .u64 (i : Int), .int .u64 (t : Int), .slice A n c] 27)).alloc (.cells #[.int .u64 (k : Int), .int .u64 (u : Int)] 24)) = w1 := ⟨_, rfl⟩
  have L0 : Bl w1 (w.heap.size) 27 [.int .u64 (i : Int), .int .u64 (t : Int), .slice A n c] := by
    rw [← hw1]
    have h := Bl.new w 27 [.int .u64 (i : Int), .int .u64 (t : Int), .slice A n c]
    (try simp only [World.size_alloc] at h)
    exact (h.alloc _)
  have L1 : Bl w1 (w.heap.size + 1) 24 [.int .u64 (k : Int), .int .u64 (u : Int)] := by
    rw [← hw1]
    have h := Bl.new (w.alloc (.cells #[.int .u64 (i : Int), .int .u64 (t : Int), .slice A n c] 27)) 24 [.int .u64 (k : Int), .int .u64 (u : Int)]
    (try simp only [World.size_alloc] at h)
    exact h
  have B1 : Below w.heap.size w w1 := by
    rw [← hw1]
    exact (((Below.refl _ _).alloc (by simp <;> omega) _).alloc (by simp <;> omega) _)
  have Z1 : w1.heap.size = w.heap.size + 2 := by rw [← hw1]; simp
  have c0 := L0.cell 0
  have c1 := L0.cell 1
  have c2 := L0.cell 2
  have d0 := L1.cell 0
  have d1 := L1.cell 1
  simp only [List.getElem?_cons_zero, List.getElem?_cons_succ] at c0 c1 c2 d0 d1
  have HW := Lib.hid hw1
  have HL1 := Lib.hid L1
  have HB1 := Lib.hid B1
  have CP := Lib.hid (place_any ((hs.below B1).more B1.size) hn i t hin ht k hk)
  obtain ⟨o, ho⟩ : ∃ o, placeW ⟨i, t, vsE es⟩ k = o := ⟨_, rfl⟩
  rw [ho] at CP
  unfold hasW
  rw [ho]
  obtain ⟨q, hq⟩ : ∃ q, (o == some u) = q := ⟨_, rfl⟩
  have HQ := Lib.hid hq
  rw [hq]
  clear hq
  have HO := Lib.hid ho
  clear hw1 L0 L1 B1 Z1 hs ht hin ho
  cases o with
  | none =>
    go_enter Try.func41, Try.ntmps41
    go_upto_region 1 with fail
    rw [HW.out]
    go_wp2_with (first | (go_at_call 44; refine CP.out.mono ?_; rintro e w2 ⟨rfl, hb2⟩; have HB2 := Lib.hid hb2; clear hb2 c0 c1 c2 d0 d1; dsimp only [placeV]) | fail)
    go_ret
    refine ⟨by rw [← HQ.out]; rfl, ?_⟩
    exact (HB1.out.trans (HB2.out.mono HB1.out.size)).trans ((Below.refl _ _).alloc (by have := HB1.out.size; have := HB2.out.size; omega) _)
  | some v =>
    go_enter Try.func41, Try.ntmps41
    go_upto_region 1 with fail
    rw [HW.out]
    go_upto_region 2 with (first | (go_at_call 44; refine CP.out.mono ?_; rintro e w2 ⟨rfl, hb2⟩; have HB2 := Lib.hid hb2; clear hb2 c0 c1 c2 d0 d1; dsimp only [placeV]) | fail)
    obtain ⟨w3, hw3⟩ : ∃ w3, w2.alloc (.cells #[.int .u64 (k : Int), .int .u64 (v : Int)] 24) = w3 := ⟨_, rfl⟩
    have B3 : Below w2.heap.size w2 w3 := by rw [← hw3]; exact (Below.refl _ _).alloc (Nat.le_refl _) _
    have N3 : Bl w3 w2.heap.size 24 (atC k v) := by rw [← hw3]; exact Bl.new w2 24 (atC k v)
    have M3 := (HL1.out.below HB2.out HL1.out.lt).below B3 (HL1.out.below HB2.out HL1.out.lt).lt
    have z0 := N3.cell 0
    have z1 := N3.cell 1
    have d0 := M3.cell 0
    have d1 := M3.cell 1
    simp only [atC, List.getElem?_cons_zero, List.getElem?_cons_succ] at z0 z1 d0 d1
    have heq := fun w => eq_at (k : Int) (v : Int) (k : Int) (u : Int) w
    rw [show (((k : Int) == (k : Int)) && ((v : Int) == (u : Int))) = (some v == some u) by
      by_cases h : v = u
      · subst h; simp
      · have : ((v : Int) == (u : Int)) = false := by simp; omega
        rw [this]; simp [h]] at heq
    rw [HQ.out] at heq
    have HB3 := Lib.hid B3
    rw [hw3]
    clear hw3 N3 M3 B3
    go_wp2_with fail
    go_ret
    exact ⟨rfl, HB1.out.trans ((HB2.out.trans (HB3.out.mono HB2.out.size)).mono HB1.out.size)⟩
/-- Whether an entry behind a place tells the log nothing. -/
def okK (l : Lg) (x : Pl) : Bool := decide (x.i ≤ l.bi) || hasW l x.i x.e.t
theorem knownW_placed (l : Lg) : ∀ (p : Nat) (es : List En), knownW l p (vsE es) = ((placedL p es).takeWhile (okK l)).length
  | _, [] => rfl
  | p, e :: r => by
    have ih := knownW_placed l (p + 1) r
    have e1 : vsE (e :: r) = e.v :: vsE r := rfl
    rw [e1, knownW, placedL, List.takeWhile_cons]
    show (if okK l ⟨p + 1, e⟩ = true then knownW l (p + 1) (vsE r) + 1 else 0) = _
    by_cases h : okK l ⟨p + 1, e⟩ = true
    · simp only [if_pos h, List.length_cons, ih]
    · simp only [if_neg h, List.length_nil]
theorem takeWhile_all {α : Type} {f : α → Bool} : ∀ {l : List α}, (∀ x ∈ l, f x = true) → l.takeWhile f = l
  | [], _ => rfl
  | a :: r, h => by rw [List.takeWhile_cons, if_pos (h a (by simp)), takeWhile_all fun x hx => h x (by simp [hx])]
theorem takeWhile_pre {α : Type} {f : α → Bool} {x : α} {r : List α} (hx : f x = false) : ∀ {l : List α}, (∀ y ∈ l, f y = true) → (l ++ x :: r).takeWhile f = l
  | [], _ => by simp [hx]
  | a :: l, h => by rw [List.cons_append, List.takeWhile_cons, if_pos (h a (by simp)), takeWhile_pre hx fun y hy => h y (by simp [hy])]
end Go.Proofs.Ytgdcahakefmakaa
