/-
  PATHMAP: Check and CheckEdit.
-/
import Derived.Test.YtkdmlffnkomdhaaPd
import Derived.Deep.Cut
namespace Go.Proofs.Ytkdmlffnkomdhaa
set_option linter.unusedVariables false
set_option linter.unusedSimpArgs false
open Go.RowKit Go.WideShapes Go.ChangeShapes Go.Deep

def mud (r : Ch) : Bool := !r.is && !r.t.toList.isEmpty
def mudW (l : List Ch) : Bool := l.any mud

set_option maxRecDepth 100000 in
set_option maxHeartbeats 1600000 in
theorem index_mud {w : World} {A : Option Addr} {n c : Nat} {l : List Ch} (h : SqC w w.heap.size A n c l) (hn : n ≤ 1000000) :
    Calls Try.prog 79 #[.slice A n c, .func (.func 68) #[] #[]] w fun e w' => (∃ i : Int, e = .returned (.int .i64 i) ∧ decide (0 ≤ i) = mudW l) ∧ Below w.heap.size w w' := by
  have hlen := h.len
  have HS := Lib.hid h
  clear h
  go_enter Try.func79, Try.ntmps79
  go_wp2
  go_loopw [8] (fun i wr => ∃ k : Nat, k ≤ n ∧ i = .int .i64 (k : Int) ∧ Hid (∀ j (hj : j < k) (hl : j < l.length), mud l[j] = false) ∧ Hid (Below w.heap.size w wr)) (fun i _ => n - (intOf i).toNat)
  case atStart => exact ⟨0, Nat.zero_le _, rfl, Lib.hid (fun j hj => absurd hj (by omega)), Lib.hid (Below.refl _ _)⟩
  case round =>
    obtain ⟨k, hk, rfl, hg, hb⟩ := hrel
    by_cases hlt : k < n
    · have hd : decide ((k : Int) < (n : Int)) = true := by simp; omega
      have hk0 : (0 : Int) ≤ (k : Int) := Int.natCast_nonneg _
      have hk1 : (k : Int) < (n : Int) := by omega
      obtain ⟨b, o, rfl, hbl, hrg⟩ := (HS.out.below hb.out).at_ hlt
      obtain ⟨r, hr⟩ : ∃ r, l[k]'(by omega) = r := ⟨_, rfl⟩
      rw [hr] at hrg
      have r0 : wr.cell? ⟨b, o + k * 3, none⟩ = some (.string r.p) := hrg 0 _ rfl
      have r1 : wr.cell? ⟨b, o + k * 3 + 1, none⟩ = some (.bool r.is) := hrg 1 _ rfl
      have r2 : wr.cell? ⟨b, o + k * 3 + 2, none⟩ = some (.string r.t) := hrg 2 _ rfl
      obtain ⟨q, hq⟩ : ∃ q, mud r = q := ⟨_, rfl⟩
      have hfn : Hid (∀ w, Calls Try.prog 68 #[chV r] w fun e w' => e = .returned (.bool q) ∧ Below w.heap.size w w') := Lib.hid fun w => by rw [← hq]; exact muddled_any r w
      have YES : Hid (mud r = true → mudW l = true) := Lib.hid fun h1 => List.any_eq_true.2 ⟨r, by rw [← hr]; exact List.getElem_mem _, h1⟩
      have ST : Hid (mud r = false → ∀ j (hj : j < k + 1) (hl : j < l.length), mud l[j] = false) := Lib.hid (fun h1 j hj hl => by
        by_cases e : j = k
        · subst e; rw [hr]; exact h1
        · exact hg.out j (by omega) hl)
      rw [hq] at YES ST
      clear hr hrg hq
      cases q
      · go_wp2_with (first | (go_at_call 68; have T := hfn.out wr; with_reducible refine Calls.mono T ?_; clear T; rintro e w5 ⟨rfl, hb5⟩; have G5 := Lib.hid (hb.out.trans (hb5.mono hb.out.size)); clear hb5) | fail)
        go_roundw
        case rel => exact ⟨k + 1, by omega, by go_num, Lib.hid (ST.out (by first | rfl | trivial)), G5⟩
        case measure => simp [intOf]; omega
      · go_wp2_with (first | (go_at_call 68; have T := hfn.out wr; with_reducible refine Calls.mono T ?_; clear T; rintro e w5 ⟨rfl, hb5⟩; have G5 := Lib.hid (hb.out.trans (hb5.mono hb.out.size)); clear hb5) | fail)
        go_ret
        exact ⟨⟨_, rfl, by rw [YES.out (by first | rfl | trivial)]; simp⟩, G5.out⟩
    · have hd : decide ((k : Int) < (n : Int)) = false := by simp; omega
      obtain rfl : k = n := by omega
      have HV : Hid (mudW l = false) := Lib.hid (by
        unfold mudW
        rw [List.any_eq_false]
        intro x hx
        obtain ⟨j, hj, rfl⟩ := List.getElem_of_mem hx
        rw [hg.out j (by omega) hj]
        decide)
      go_wp2
      go_ret
      exact ⟨⟨_, rfl, by rw [HV.out]; decide⟩, hb.out⟩
set_option maxRecDepth 100000 in
set_option maxHeartbeats 1600000 in
theorem has_mud {w : World} {A : Option Addr} {n c : Nat} {l : List Ch} (h : SqC w w.heap.size A n c l) (hn : n ≤ 1000000) :
    Calls Try.prog 67 #[.slice A n c, .func (.func 68) #[] #[]] w fun e w' => e = .returned (.bool (mudW l)) ∧ Below w.heap.size w w' := by
  have HX := Lib.hid (index_mud h hn)
  clear h
  go_enter Try.func67, Try.ntmps67
  go_wp2_with (first | (go_at_call 79; have T := HX.out; with_reducible refine Calls.mono T ?_; clear T; rintro e w5 ⟨⟨i, rfl, hi⟩, hb5⟩; have HI := Lib.hid hi; have G5 := Lib.hid hb5; clear hi hb5) | fail)
  go_ret
  exact ⟨by rw [← HI.out]; rfl, G5.out⟩

/-- Whether it may be. -/
def rightR (l : List Rw) : Bool := fitW (·.p) (·.t) l && riseW (l.map (·.p))
set_option maxRecDepth 100000 in
set_option maxHeartbeats 1600000 in
theorem Check_any {w : World} {A : Option Addr} {n c : Nat} {l : List Rw} (h : SqR w w.heap.size A n c l) (hn : n ≤ 1000000) :
    Calls Try.prog 30 #[.agg #[.slice A n c]] w fun e w' => e = .returned (.int .i64 (if rightR l then 0 else 150)) ∧ Below w.heap.size w w' := by
  have HS := Lib.hid h
  clear h
  obtain ⟨er, her⟩ : ∃ er : Int, (if rightR l then 0 else 150) = er := ⟨_, rfl⟩
  have HER := Lib.hid her
  rw [her]
  clear her
  obtain ⟨w0, hw0⟩ : ∃ w0, w.alloc (.cells #[.slice A n c] 24) = w0 := ⟨_, rfl⟩
  have L0 : Hid (Lies w0 w.heap.size 1 [.slice A n c]) := Lib.hid (by rw [← hw0]; exact Lies.new w [.slice A n c] 24)
  have B0 : Hid (Below w.heap.size w w0) := Lib.hid (by rw [← hw0]; exact (Below.refl _ _).alloc (Nat.le_refl _) _)
  have HW0 := Lib.hid hw0
  clear hw0
  have q0 := L0.out.cell (j := 0) rfl
  go_enter Try.func30, Try.ntmps30
  go_upto_region 1 with fail
  rw [HW0.out]
  clear HW0
  go_wp2_with fail
  refine (texts_any A n c w0).mono ?_
  rintro e w1 ⟨rfl, hb1⟩
  have B1 : Hid (Below w0.heap.size w0 w1) := Lib.hid hb1
  clear hb1 q0
  go_upto_region 2 with fail
  obtain ⟨w2, hw2⟩ : ∃ w2, w1.alloc (.cells #[.slice A n c, .func (.func 70) #[] #[]] 95) = w2 := ⟨_, rfl⟩
  rw [hw2]
  have L2 : Hid (Lies w2 w1.heap.size 2 (tbLR A n c)) := Lib.hid (by rw [← hw2]; exact Lies.new w1 (tbLR A n c) 95)
  have B2 : Hid (Below w1.heap.size w1 w2) := Lib.hid (by rw [← hw2]; exact (Below.refl _ _).alloc (Nat.le_refl _) _)
  clear hw2
  have B02 := Lib.hid (B0.out.trans ((B1.out.trans (B2.out.mono B1.out.size)).mono B0.out.size))
  have HF := Lib.hid (texts_fit ((HS.out.below B02.out).more B02.out.size) hn)
  have HR := Lib.hid (fun (w3 : World) (hb : Below w2.heap.size w2 w3) => texts_rise (((HS.out.below B02.out).more B02.out.size).below hb |>.more hb.size) hn)
  have p0 := L2.out.cell (j := 0) rfl
  have p1 := L2.out.cell (j := 1) rfl
  obtain ⟨fq, hfq⟩ : ∃ q, fitW (·.p) (·.t) l = q := ⟨_, rfl⟩
  obtain ⟨rq, hrq⟩ : ∃ q, riseW (l.map (·.p)) = q := ⟨_, rfl⟩
  have HV : Hid (rightR l = (fq && rq)) := Lib.hid (by unfold rightR; rw [hfq, hrq])
  rw [hfq] at HF
  rw [hrq] at HR
  clear hfq hrq HS
  cases fq
  · go_wp2_with (first | (go_at_call 53; have T := HF.out; with_reducible refine Calls.mono T ?_; clear T; rintro e w3 ⟨rfl, hb3⟩; have G3 := Lib.hid hb3; have L3 := Lib.hid (L2.out.below hb3 L2.out.lt); have o0 := L3.out.cell (j := 0) rfl; have o1 := L3.out.cell (j := 1) rfl; clear hb3 p0 p1) | fail)
    go_ret
    exact ⟨by rw [← HER.out, HV.out]; rfl, B02.out.trans (G3.out.mono B02.out.size)⟩
  · cases rq
    · go_wp2_with (first | (go_at_call 53; have T := HF.out; with_reducible refine Calls.mono T ?_; clear T; rintro e w3 ⟨rfl, hb3⟩; have G3 := Lib.hid hb3; have L3 := Lib.hid (L2.out.below hb3 L2.out.lt); have o0 := L3.out.cell (j := 0) rfl; have o1 := L3.out.cell (j := 1) rfl; clear hb3 p0 p1) | (go_at_call 54; have T := HR.out w3 G3.out; with_reducible refine Calls.mono T ?_; clear T; rintro e w4 ⟨rfl, hb4⟩; have G4 := Lib.hid (G3.out.trans (hb4.mono G3.out.size)); clear hb4) | fail)
      go_ret
      exact ⟨by rw [← HER.out, HV.out]; rfl, B02.out.trans (G4.out.mono B02.out.size)⟩
    · go_wp2_with (first | (go_at_call 53; have T := HF.out; with_reducible refine Calls.mono T ?_; clear T; rintro e w3 ⟨rfl, hb3⟩; have G3 := Lib.hid hb3; have L3 := Lib.hid (L2.out.below hb3 L2.out.lt); have o0 := L3.out.cell (j := 0) rfl; have o1 := L3.out.cell (j := 1) rfl; clear hb3 p0 p1) | (go_at_call 54; have T := HR.out w3 G3.out; with_reducible refine Calls.mono T ?_; clear T; rintro e w4 ⟨rfl, hb4⟩; have G4 := Lib.hid (G3.out.trans (hb4.mono G3.out.size)); clear hb4) | fail)
      go_ret
      exact ⟨by rw [← HER.out, HV.out]; rfl, B02.out.trans (G4.out.mono B02.out.size)⟩

/-- Whether it may be. -/
def rightC (l : List Ch) : Bool := fitW (·.p) (·.t) l && riseW (l.map (·.p)) && !mudW l
set_option maxRecDepth 100000 in
set_option maxHeartbeats 1600000 in
theorem CheckEdit_any {w : World} {A : Option Addr} {n c : Nat} {l : List Ch} (h : SqC w w.heap.size A n c l) (hn : n ≤ 1000000) :
    Calls Try.prog 42 #[.agg #[.slice A n c]] w fun e w' => e = .returned (.int .i64 (if rightC l then 0 else 151)) ∧ Below w.heap.size w w' := by
  have HS := Lib.hid h
  clear h
  obtain ⟨er, her⟩ : ∃ er : Int, (if rightC l then 0 else 151) = er := ⟨_, rfl⟩
  have HER := Lib.hid her
  rw [her]
  clear her
  obtain ⟨w0, hw0⟩ : ∃ w0, w.alloc (.cells #[.slice A n c] 36) = w0 := ⟨_, rfl⟩
  have L0 : Hid (Lies w0 w.heap.size 1 [.slice A n c]) := Lib.hid (by rw [← hw0]; exact Lies.new w [.slice A n c] 36)
  have B0 : Hid (Below w.heap.size w w0) := Lib.hid (by rw [← hw0]; exact (Below.refl _ _).alloc (Nat.le_refl _) _)
  have HW0 := Lib.hid hw0
  clear hw0
  have q0 := L0.out.cell (j := 0) rfl
  go_enter Try.func42, Try.ntmps42
  go_upto_region 1 with fail
  rw [HW0.out]
  clear HW0
  go_wp2_with fail
  refine (changes_any A n c w0).mono ?_
  rintro e w1 ⟨rfl, hb1⟩
  have B1 : Hid (Below w0.heap.size w0 w1) := Lib.hid hb1
  clear hb1 q0
  go_upto_region 2 with fail
  obtain ⟨w2, hw2⟩ : ∃ w2, w1.alloc (.cells #[.slice A n c, .func (.func 78) #[] #[]] 106) = w2 := ⟨_, rfl⟩
  rw [hw2]
  have L2 : Hid (Lies w2 w1.heap.size 2 (tbLC A n c)) := Lib.hid (by rw [← hw2]; exact Lies.new w1 (tbLC A n c) 106)
  have B2 : Hid (Below w1.heap.size w1 w2) := Lib.hid (by rw [← hw2]; exact (Below.refl _ _).alloc (Nat.le_refl _) _)
  clear hw2
  have B02 := Lib.hid (B0.out.trans ((B1.out.trans (B2.out.mono B1.out.size)).mono B0.out.size))
  have HF := Lib.hid (changes_fit ((HS.out.below B02.out).more B02.out.size) hn)
  have HR := Lib.hid (fun (w3 : World) (hb : Below w2.heap.size w2 w3) => changes_rise (((HS.out.below B02.out).more B02.out.size).below hb |>.more hb.size) hn)
  have HM := Lib.hid (fun (w3 : World) (hb : Below w2.heap.size w2 w3) => has_mud (((HS.out.below B02.out).more B02.out.size).below hb |>.more hb.size) hn)
  have M2 := Lib.hid ((L0.out.below (B1.out.trans (B2.out.mono B1.out.size)) L0.out.lt))
  have p0 := L2.out.cell (j := 0) rfl
  have p1 := L2.out.cell (j := 1) rfl
  obtain ⟨fq, hfq⟩ : ∃ q, fitW (·.p) (·.t) l = q := ⟨_, rfl⟩
  obtain ⟨rq, hrq⟩ : ∃ q, riseW (l.map (·.p)) = q := ⟨_, rfl⟩
  obtain ⟨mq, hmq⟩ : ∃ q, mudW l = q := ⟨_, rfl⟩
  have HV : Hid (rightC l = (fq && rq && !mq)) := Lib.hid (by unfold rightC; rw [hfq, hrq, hmq])
  rw [hfq] at HF
  rw [hrq] at HR
  rw [hmq] at HM
  clear hmq
  clear hfq hrq HS
  cases fq
  · go_wp2_with (first | (go_at_call 65; have T := HF.out; with_reducible refine Calls.mono T ?_; clear T; rintro e w3 ⟨rfl, hb3⟩; have G3 := Lib.hid hb3; have L3 := Lib.hid (L2.out.below hb3 L2.out.lt); have o0 := L3.out.cell (j := 0) rfl; have o1 := L3.out.cell (j := 1) rfl; clear hb3 p0 p1) | fail)
    go_ret
    exact ⟨by rw [← HER.out, HV.out]; rfl, B02.out.trans (G3.out.mono B02.out.size)⟩
  · cases rq
    · go_wp2_with (first | (go_at_call 65; have T := HF.out; with_reducible refine Calls.mono T ?_; clear T; rintro e w3 ⟨rfl, hb3⟩; have G3 := Lib.hid hb3; have L3 := Lib.hid (L2.out.below hb3 L2.out.lt); have o0 := L3.out.cell (j := 0) rfl; have o1 := L3.out.cell (j := 1) rfl; clear hb3 p0 p1) | (go_at_call 66; have T := HR.out w3 G3.out; with_reducible refine Calls.mono T ?_; clear T; rintro e w4 ⟨rfl, hb4⟩; have G4 := Lib.hid (G3.out.trans (hb4.mono G3.out.size)); have e0 := (G4.out.cell (p := ⟨w.heap.size, 0, none⟩) (M2.out.lt)).trans (M2.out.cell (j := 0) rfl); clear hb4) | fail)
      go_ret
      exact ⟨by rw [← HER.out, HV.out]; rfl, B02.out.trans (G4.out.mono B02.out.size)⟩
    · cases mq
      · go_wp2_with (first | (go_at_call 65; have T := HF.out; with_reducible refine Calls.mono T ?_; clear T; rintro e w3 ⟨rfl, hb3⟩; have G3 := Lib.hid hb3; have L3 := Lib.hid (L2.out.below hb3 L2.out.lt); have o0 := L3.out.cell (j := 0) rfl; have o1 := L3.out.cell (j := 1) rfl; clear hb3 p0 p1) | (go_at_call 66; have T := HR.out w3 G3.out; with_reducible refine Calls.mono T ?_; clear T; rintro e w4 ⟨rfl, hb4⟩; have G4 := Lib.hid (G3.out.trans (hb4.mono G3.out.size)); have e0 := (G4.out.cell (p := ⟨w.heap.size, 0, none⟩) (M2.out.lt)).trans (M2.out.cell (j := 0) rfl); clear hb4) | (go_at_call 67; have T := HM.out w4 G4.out; with_reducible refine Calls.mono T ?_; clear T; rintro e w5 ⟨rfl, hb5⟩; have G5 := Lib.hid (G4.out.trans (hb5.mono G4.out.size)); clear hb5) | fail)
        go_ret
        exact ⟨by rw [← HER.out, HV.out]; rfl, B02.out.trans (G5.out.mono B02.out.size)⟩
      · go_wp2_with (first | (go_at_call 65; have T := HF.out; with_reducible refine Calls.mono T ?_; clear T; rintro e w3 ⟨rfl, hb3⟩; have G3 := Lib.hid hb3; have L3 := Lib.hid (L2.out.below hb3 L2.out.lt); have o0 := L3.out.cell (j := 0) rfl; have o1 := L3.out.cell (j := 1) rfl; clear hb3 p0 p1) | (go_at_call 66; have T := HR.out w3 G3.out; with_reducible refine Calls.mono T ?_; clear T; rintro e w4 ⟨rfl, hb4⟩; have G4 := Lib.hid (G3.out.trans (hb4.mono G3.out.size)); have e0 := (G4.out.cell (p := ⟨w.heap.size, 0, none⟩) (M2.out.lt)).trans (M2.out.cell (j := 0) rfl); clear hb4) | (go_at_call 67; have T := HM.out w4 G4.out; with_reducible refine Calls.mono T ?_; clear T; rintro e w5 ⟨rfl, hb5⟩; have G5 := Lib.hid (G4.out.trans (hb5.mono G4.out.size)); clear hb5) | fail)
        go_ret
        exact ⟨by rw [← HER.out, HV.out]; rfl, B02.out.trans (G5.out.mono B02.out.size)⟩
end Go.Proofs.Ytkdmlffnkomdhaa
