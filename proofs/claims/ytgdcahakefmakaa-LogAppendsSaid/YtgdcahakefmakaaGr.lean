/-
  LOGS: Term, Has, Newer.
-/
import Derived.Test.YtgdcahakefmakaaGq
namespace Go.Proofs.Ytgdcahakefmakaa
set_option linter.unusedVariables false
set_option linter.unusedSimpArgs false
open Go.RowKit Go.WideShapes Go.ChangeShapes Go.Deep Go.Shelf
attribute [local irreducible] wpQuiet

def termW (l : Lg) (k : Nat) : Option Nat := if isLogW l = false then none else placeW l k
def termV (o : Option Nat) : Value := match o with | some u => .tuple #[.int .u64 (u : Int), .bool true] | none => .tuple #[.int .u64 0, .bool false]
set_option maxRecDepth 100000 in
set_option maxHeartbeats 2000000 in
theorem Term_any {w : World} {A : Option Addr} {n c : Nat} {es : List En} (hs : SqE w w.heap.size A n c es) (hn : n ≤ 1000) (i t : Nat) (hi : i < 18446744073709551616) (ht : t < 18446744073709551616) (k : Nat) (hk : k < 18446744073709551616) :
    Calls Try.prog 25 #[lgV i t A n c, .int .u64 (k : Int)] w fun e w' => e = .returned (termV (termW ⟨i, t, vsE es⟩ k)) ∧ Below w.heap.size w w' := by
  obtain ⟨w1, hw1⟩ : ∃ w1, (w.alloc (.cells #[.int .u64 (i : Int), .int .u64 (t : Int), .slice A n c] 27)) = w1 := ⟨_, rfl⟩
  have L0 : Bl w1 (w.heap.size) 27 [.int .u64 (i : Int), .int .u64 (t : Int), .slice A n c] := by
    rw [← hw1]
    have h := Bl.new w 27 [.int .u64 (i : Int), .int .u64 (t : Int), .slice A n c]
    (try simp only [World.size_alloc] at h)
    exact h
  have B1 : Below w.heap.size w w1 := by
    rw [← hw1]
    exact ((Below.refl _ _).alloc (by simp <;> omega) _)
  have Z1 : w1.heap.size = w.heap.size + 1 := by rw [← hw1]; simp
  have HQ : Hid (∀ w', Below w1.heap.size w1 w' → w'.cell? ⟨w.heap.size, 0, none⟩ = some (.int .u64 (i : Int)) ∧ w'.cell? ⟨w.heap.size, 1, none⟩ = some (.int .u64 (t : Int)) ∧ w'.cell? ⟨w.heap.size, 2, none⟩ = some (.slice A n c)) := Lib.hid fun w' hw => by
    have := L0.below hw L0.lt
    have q0 := this.cell 0
    have q1 := this.cell 1
    have q2 := this.cell 2
    simp only [List.getElem?_cons_zero, List.getElem?_cons_succ] at q0 q1 q2
    exact ⟨q0, q1, q2⟩
  obtain ⟨c0, c1, c2⟩ := HQ.out _ (Below.refl _ _)
  have HW := Lib.hid hw1
  have HB1 := Lib.hid B1
  have HS := Lib.hid (fun (w' : World) (hw : Below w1.heap.size w1 w') => hs.next (Nat.le_refl _) (B1.trans (hw.mono B1.size)))
  have CL := Lib.hid (isLog_any (HS.out _ (Below.refl _ _)) hn i t hi ht)
  have HT := Lib.hid ht
  have hlen := hs.len
  clear hw1 L0 B1 Z1 hs hi
  rcases hq : isLogW ⟨i, t, vsE es⟩ with _ | _
  · have e0 : termW ⟨i, t, vsE es⟩ k = none := by unfold termW; rw [hq]; rfl
    rw [e0]
    rw [hq] at CL
    clear hq e0
    go_enter Try.func25, Try.ntmps25
    go_upto_region 1 with fail
    rw [HW.out]
    go_wp2_with (first | (go_at_call 39; refine CL.out.mono ?_; rintro e w2 ⟨rfl, hb2⟩; have HB2 := Lib.hid hb2; clear hb2 c0 c1 c2; obtain ⟨c0, c1, c2⟩ := HQ.out _ HB2.out) | fail)
    go_ret2
    exact ⟨rfl, HB1.out.trans (HB2.out.mono HB1.out.size)⟩
  · obtain ⟨hn16, hin⟩ := isLog_sum hq hlen
    have CP := Lib.hid (fun (w' : World) (hw : Below w1.heap.size w1 w') => place_any (HS.out w' hw) hn i t (show i + n < 18446744073709551616 by omega) HT.out k hk)
    rw [hq] at CL
    have e0 : termW ⟨i, t, vsE es⟩ k = placeW ⟨i, t, vsE es⟩ k := by unfold termW; rw [hq, if_neg (by simp)]
    rw [e0]
    obtain ⟨o, ho⟩ : ∃ o, placeW ⟨i, t, vsE es⟩ k = o := ⟨_, rfl⟩
    rw [ho] at CP ⊢
    clear hq e0 ho hin
    cases o with
    | none =>
      go_enter Try.func25, Try.ntmps25
      go_upto_region 1 with fail
      rw [HW.out]
      go_upto_region 4 with (first | (go_at_call 39; refine CL.out.mono ?_; rintro e w2 ⟨rfl, hb2⟩; have HB2 := Lib.hid hb2; clear hb2 c0 c1 c2; obtain ⟨c0, c1, c2⟩ := HQ.out _ HB2.out) | (go_at_call 44; refine (CP.out _ HB2.out).mono ?_; rintro e w3 ⟨rfl, hb3⟩; have HB3 := Lib.hid (HB2.out.trans (hb3.mono HB2.out.size)); clear hb3 c0 c1 c2; dsimp only [placeV]) | fail)
      obtain ⟨w4, hw4⟩ : ∃ w4, w3.alloc (.cells #[.int .u64 0, .int .u64 0] 24) = w4 := ⟨_, rfl⟩
      have N4 : Bl w4 w3.heap.size 24 (atC 0 0) := by rw [← hw4]; exact Bl.new w3 24 (atC 0 0)
      have HB4 := Lib.hid (show Below w.heap.size w w4 by rw [← hw4]; exact (HB1.out.trans (HB3.out.mono HB1.out.size)).alloc (by have := HB1.out.size; have := HB3.out.size; omega) _)
      rw [hw4]
      have z0 := N4.cell 0
      have z1 := N4.cell 1
      simp only [atC, List.getElem?_cons_zero, List.getElem?_cons_succ] at z0 z1
      clear hw4 N4
      go_wp2_with fail
      go_ret2
      exact ⟨rfl, HB4.out⟩
    | some u =>
      go_enter Try.func25, Try.ntmps25
      go_upto_region 1 with fail
      rw [HW.out]
      go_upto_region 4 with (first | (go_at_call 39; refine CL.out.mono ?_; rintro e w2 ⟨rfl, hb2⟩; have HB2 := Lib.hid hb2; clear hb2 c0 c1 c2; obtain ⟨c0, c1, c2⟩ := HQ.out _ HB2.out) | (go_at_call 44; refine (CP.out _ HB2.out).mono ?_; rintro e w3 ⟨rfl, hb3⟩; have HB3 := Lib.hid (HB2.out.trans (hb3.mono HB2.out.size)); clear hb3 c0 c1 c2; dsimp only [placeV]) | fail)
      obtain ⟨w4, hw4⟩ : ∃ w4, w3.alloc (.cells #[.int .u64 (k : Int), .int .u64 (u : Int)] 24) = w4 := ⟨_, rfl⟩
      have N4 : Bl w4 w3.heap.size 24 (atC k u) := by rw [← hw4]; exact Bl.new w3 24 (atC k u)
      have HB4 := Lib.hid (show Below w.heap.size w w4 by rw [← hw4]; exact (HB1.out.trans (HB3.out.mono HB1.out.size)).alloc (by have := HB1.out.size; have := HB3.out.size; omega) _)
      rw [hw4]
      have z0 := N4.cell 0
      have z1 := N4.cell 1
      simp only [atC, List.getElem?_cons_zero, List.getElem?_cons_succ] at z0 z1
      clear hw4 N4
      go_wp2_with fail
      go_ret2
      exact ⟨rfl, HB4.out⟩
set_option maxRecDepth 100000 in
set_option maxHeartbeats 2000000 in
theorem Has_any {w : World} {A : Option Addr} {n c : Nat} {es : List En} (hs : SqE w w.heap.size A n c es) (hn : n ≤ 1000) (i t : Nat) (hi : i < 18446744073709551616) (ht : t < 18446744073709551616) (k u : Nat) (hk : k < 18446744073709551616) :
    Calls Try.prog 26 #[lgV i t A n c, atV k u] w fun e w' => e = .returned (.bool (isLogW ⟨i, t, vsE es⟩ && hasW ⟨i, t, vsE es⟩ k u)) ∧ Below w.heap.size w w' := by
  obtain ⟨w1, hw1⟩ : ∃ w1, ((w.alloc (.cells #[.int .u64 (i : Int), .int .u64 (t : Int), .slice A n c] 27)).alloc (.cells #[.int .u64 (k : Int), .int .u64 (u : Int)] 24)) = w1 := ⟨_, rfl⟩
  have L0 : Bl w1 (w.heap.size) 27 [.int .u64 (i : Int), .int .u64 (t : Int), .slice A n c] := by
    rw [← hw1]
    have h := Bl.new w 27 [.int .u64 (i : Int), .int .u64 (t : Int), .slice A n c]
    (try simp only [World.size_alloc] at h)
    exact (h.alloc _)
  have L1 : Bl w1 (w.heap.size + 1) 24 [.int .u64 (k : Int), .int .u64 (u : Int)] := by
    rw [← hw1]
    have h := Bl.new (w.alloc (.cells #[.int .u64 (i : Int), .int .u64 (t : Int), .slice A n c] 27)) 24 [.int .u64 (k : Int), .int .u64 (u : Int)]
    (try simp only [World.size_alloc] at h)
    exact h
  have B1 : Below w.heap.size w w1 := by
    rw [← hw1]
    exact (((Below.refl _ _).alloc (by simp <;> omega) _).alloc (by simp <;> omega) _)
  have Z1 : w1.heap.size = w.heap.size + 2 := by rw [← hw1]; simp
  have HQ : Hid (∀ w', Below w1.heap.size w1 w' → w'.cell? ⟨w.heap.size, 0, none⟩ = some (.int .u64 (i : Int)) ∧ w'.cell? ⟨w.heap.size, 1, none⟩ = some (.int .u64 (t : Int)) ∧ w'.cell? ⟨w.heap.size, 2, none⟩ = some (.slice A n c)) := Lib.hid fun w' hw => by
    have := L0.below hw L0.lt
    have q0 := this.cell 0
    have q1 := this.cell 1
    have q2 := this.cell 2
    simp only [List.getElem?_cons_zero, List.getElem?_cons_succ] at q0 q1 q2
    exact ⟨q0, q1, q2⟩
  obtain ⟨c0, c1, c2⟩ := HQ.out _ (Below.refl _ _)
  have HW := Lib.hid hw1
  have HB1 := Lib.hid B1
  have HS := Lib.hid (fun (w' : World) (hw : Below w1.heap.size w1 w') => hs.next (Nat.le_refl _) (B1.trans (hw.mono B1.size)))
  have CL := Lib.hid (isLog_any (HS.out _ (Below.refl _ _)) hn i t hi ht)
  have HT := Lib.hid ht
  have hlen := hs.len
  have HL1 := Lib.hid L1
  clear hw1 L0 L1 B1 Z1 hs hi
  rcases hq : isLogW ⟨i, t, vsE es⟩ with _ | _
  · rw [hq] at CL
    clear hq
    go_enter Try.func26, Try.ntmps26
    go_upto_region 1 with fail
    rw [HW.out]
    go_wp2_with (first | (go_at_call 39; refine CL.out.mono ?_; rintro e w2 ⟨rfl, hb2⟩; have HB2 := Lib.hid hb2; clear hb2 c0 c1 c2; obtain ⟨c0, c1, c2⟩ := HQ.out _ HB2.out) | fail)
    go_ret
    exact ⟨rfl, HB1.out.trans (HB2.out.mono HB1.out.size)⟩
  · obtain ⟨hn16, hin⟩ := isLog_sum hq hlen
    have CH := Lib.hid (fun (w' : World) (hw : Below w1.heap.size w1 w') => has_any (HS.out w' hw) hn i t (show i + n < 18446744073709551616 by omega) HT.out k u hk)
    rw [hq] at CL
    clear hq hin
    go_enter Try.func26, Try.ntmps26
    go_upto_region 1 with fail
    rw [HW.out]
    go_wp2_with (first | (go_at_call 39; refine CL.out.mono ?_; rintro e w2 ⟨rfl, hb2⟩; have HB2 := Lib.hid hb2; clear hb2 c0 c1 c2; obtain ⟨c0, c1, c2⟩ := HQ.out _ HB2.out; have d0 := (HL1.out.below HB2.out HL1.out.lt).cell 0; have d1 := (HL1.out.below HB2.out HL1.out.lt).cell 1; simp only [List.getElem?_cons_zero, List.getElem?_cons_succ] at d0 d1) | (go_at_call 41; refine (CH.out _ HB2.out).mono ?_; rintro e w3 ⟨rfl, hb3⟩; have HB3 := Lib.hid (HB2.out.trans (hb3.mono HB2.out.size)); clear hb3 c0 c1 c2 d0 d1) | fail)
    go_ret
    exact ⟨by simp, HB1.out.trans (HB3.out.mono HB1.out.size)⟩
def newerW (i t k u : Nat) : Bool := decide (u < t) || (t == u && decide (k < i))
set_option maxRecDepth 100000 in
set_option maxHeartbeats 2000000 in
theorem Newer_gen (F : Nat) (w : World) (i t k u : Nat) (hF : F = 29) :
    Calls Try.prog F #[atV i t, atV k u] w fun e w' => e = .returned (.bool (newerW i t k u)) ∧ Below w.heap.size w w' := by
  subst hF
  obtain ⟨w1, hw1⟩ : ∃ w1, ((w.alloc (.cells #[.int .u64 (i : Int), .int .u64 (t : Int)] 24)).alloc (.cells #[.int .u64 (k : Int), .int .u64 (u : Int)] 24)) = w1 := ⟨_, rfl⟩
  have L0 : Bl w1 (w.heap.size) 24 [.int .u64 (i : Int), .int .u64 (t : Int)] := by
    rw [← hw1]
    have h := Bl.new w 24 [.int .u64 (i : Int), .int .u64 (t : Int)]
    (try simp only [World.size_alloc] at h)
    exact (h.alloc _)
  have L1 : Bl w1 (w.heap.size + 1) 24 [.int .u64 (k : Int), .int .u64 (u : Int)] := by
    rw [← hw1]
    have h := Bl.new (w.alloc (.cells #[.int .u64 (i : Int), .int .u64 (t : Int)] 24)) 24 [.int .u64 (k : Int), .int .u64 (u : Int)]
    (try simp only [World.size_alloc] at h)
    exact h
  have B1 : Below w.heap.size w w1 := by
    rw [← hw1]
    exact (((Below.refl _ _).alloc (by simp <;> omega) _).alloc (by simp <;> omega) _)
  have Z1 : w1.heap.size = w.heap.size + 2 := by rw [← hw1]; simp
  have c0 := L0.cell 0
  have c1 := L0.cell 1
  have d0 := L1.cell 0
  have d1 := L1.cell 1
  simp only [List.getElem?_cons_zero, List.getElem?_cons_succ] at c0 c1 d0 d1
  have HW := Lib.hid hw1
  have HB1 := Lib.hid B1
  have e2 := beqN t u
  clear hw1 L0 L1 B1 Z1
  unfold newerW
  rcases h1 : decide (u < t) with _ | _
  · rcases h2 : (t == u) with _ | _
    · rw [h2] at e2
      have g1 : decide ((u : Int) < (t : Int)) = false := by simp at h1 ⊢; omega
      go_enter Try.func29, Try.ntmps29
      go_upto_region 1 with fail
      rw [HW.out]
      go_wp2_with fail
      go_ret
      exact ⟨by simp, HB1.out⟩
    · rw [h2] at e2
      have g1 : decide ((u : Int) < (t : Int)) = false := by simp at h1 ⊢; omega
      go_enter Try.func29, Try.ntmps29
      go_upto_region 1 with fail
      rw [HW.out]
      go_wp2_with fail
      go_ret
      exact ⟨by simp, HB1.out⟩
  · have g1 : decide ((u : Int) < (t : Int)) = true := by simp at h1 ⊢; omega
    go_enter Try.func29, Try.ntmps29
    go_upto_region 1 with fail
    rw [HW.out]
    go_wp2_with fail
    go_ret
    exact ⟨by simp, HB1.out⟩
end Go.Proofs.Ytgdcahakefmakaa
