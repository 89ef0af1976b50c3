/-
  PATHMAP: Check and CheckEdit.
  THE ARGUMENTS OF STAGE 5's STATEMENTS: maps; whether two maps are the same; whether a map is more than is gone through.
-/
import Derived.Test.YtcofkhmgmemkmaaGreatDoorK12
import Derived.Deep.Cut
import Derived.Deep.Slices
import Derived.Deep.Fields
import Derived.Lib.SmallJoins
import Derived.ChangeSame
namespace Go.Proofs.YtcofkhmgmemkmaaGreatDoor
set_option linter.unusedVariables false
set_option linter.unusedSimpArgs false
open Go.RowKit Go.WideShapes Go.ChangeShapes Go.Deep

def mud (r : Ch) : Bool := !r.is && !r.t.toList.isEmpty
def mudW (l : List Ch) : Bool := l.any mud

set_option maxRecDepth 100000 in
set_option maxHeartbeats 1600000 in
theorem index_mud {w : World} {A : Option Addr} {n c : Nat} {l : List Ch} (h : SqC w w.heap.size A n c l) (hn : n ≤ 1000000) :
    Calls Tryz.prog 104 #[.slice A n c, .func (.func 99) #[] #[]] w fun e w' => (∃ i : Int, e = .returned (.int .i64 i) ∧ decide (0 ≤ i) = mudW l) ∧ Below w.heap.size w w' := by
  have hlen := h.len
  have HS := Lib.hid h
  clear h
  go_enter Tryz.func104, Tryz.ntmps104
  go_wp2
  go_loopw [8] (fun i wr => ∃ k : Nat, k ≤ n ∧ i = .int .i64 (k : Int) ∧ Hid (∀ j (hj : j < k) (hl : j < l.length), mud l[j] = false) ∧ Hid (Below w.heap.size w wr)) (fun i _ => n - (intOf i).toNat)
  case atStart => exact ⟨0, Nat.zero_le _, rfl, Lib.hid (fun j hj => absurd hj (by omega)), Lib.hid (Below.refl _ _)⟩
  case round =>
    obtain ⟨k, hk, rfl, hg, hb⟩ := hrel
    by_cases hlt : k < n
    · have hd : decide ((k : Int) < (n : Int)) = true := by simp; omega
      have hk0 : (0 : Int) ≤ (k : Int) := Int.natCast_nonneg _
      have hk1 : (k : Int) < (n : Int) := by omega
      obtain ⟨b, o, rfl, hbl, hrg⟩ := (HS.out.below hb.out).at_ hlt
      obtain ⟨r, hr⟩ : ∃ r, l[k]'(by omega) = r := ⟨_, rfl⟩
      rw [hr] at hrg
      have r0 : wr.cell? ⟨b, o + k * 3, none⟩ = some (.string r.p) := hrg 0 _ rfl
      have r1 : wr.cell? ⟨b, o + k * 3 + 1, none⟩ = some (.bool r.is) := hrg 1 _ rfl
      have r2 : wr.cell? ⟨b, o + k * 3 + 2, none⟩ = some (.string r.t) := hrg 2 _ rfl
      obtain ⟨q, hq⟩ : ∃ q, mud r = q := ⟨_, rfl⟩
      have hfn : Hid (∀ w, Calls Tryz.prog 99 #[chV r] w fun e w' => e = .returned (.bool q) ∧ Below w.heap.size w w') := Lib.hid fun w => by rw [← hq]; exact muddled_any r w
      have YES : Hid (mud r = true → mudW l = true) := Lib.hid fun h1 => List.any_eq_true.2 ⟨r, by rw [← hr]; exact List.getElem_mem _, h1⟩
      have ST : Hid (mud r = false → ∀ j (hj : j < k + 1) (hl : j < l.length), mud l[j] = false) := Lib.hid (fun h1 j hj hl => by
        by_cases e : j = k
        · subst e; rw [hr]; exact h1
        · exact hg.out j (by omega) hl)
      rw [hq] at YES ST
      clear hr hrg hq
      cases q
      · go_wp2_with (first | (go_at_call 99; have T := hfn.out wr; with_reducible refine Calls.mono T ?_; clear T; rintro e w5 ⟨rfl, hb5⟩; have G5 := Lib.hid (hb.out.trans (hb5.mono hb.out.size)); clear hb5) | fail)
        go_roundw
        case rel => exact ⟨k + 1, by omega, by go_num, Lib.hid (ST.out (by first | rfl | trivial)), G5⟩
        case measure => simp [intOf]; omega
      · go_wp2_with (first | (go_at_call 99; have T := hfn.out wr; with_reducible refine Calls.mono T ?_; clear T; rintro e w5 ⟨rfl, hb5⟩; have G5 := Lib.hid (hb.out.trans (hb5.mono hb.out.size)); clear hb5) | fail)
        go_ret
        exact ⟨⟨_, rfl, by rw [YES.out (by first | rfl | trivial)]; simp⟩, G5.out⟩
    · have hd : decide ((k : Int) < (n : Int)) = false := by simp; omega
      obtain rfl : k = n := by omega
      have HV : Hid (mudW l = false) := Lib.hid (by
        unfold mudW
        rw [List.any_eq_false]
        intro x hx
        obtain ⟨j, hj, rfl⟩ := List.getElem_of_mem hx
        rw [hg.out j (by omega) hj]
        decide)
      go_wp2
      go_ret
      exact ⟨⟨_, rfl, by rw [HV.out]; decide⟩, hb.out⟩
set_option maxRecDepth 100000 in
set_option maxHeartbeats 1600000 in
theorem has_mud {w : World} {A : Option Addr} {n c : Nat} {l : List Ch} (h : SqC w w.heap.size A n c l) (hn : n ≤ 1000000) :
    Calls Tryz.prog 98 #[.slice A n c, .func (.func 99) #[] #[]] w fun e w' => e = .returned (.bool (mudW l)) ∧ Below w.heap.size w w' := by
  have HX := Lib.hid (index_mud h hn)
  clear h
  go_enter Tryz.func98, Tryz.ntmps98
  go_wp2_with (first | (go_at_call 104; have T := HX.out; with_reducible refine Calls.mono T ?_; clear T; rintro e w5 ⟨⟨i, rfl, hi⟩, hb5⟩; have HI := Lib.hid hi; have G5 := Lib.hid hb5; clear hi hb5) | fail)
  go_ret
  exact ⟨by rw [← HI.out]; rfl, G5.out⟩

/-- Whether it may be. -/
def rightR (l : List Rw) : Bool := fitW (·.p) (·.t) l && riseW (l.map (·.p))
set_option maxRecDepth 100000 in
set_option maxHeartbeats 1600000 in
theorem Check_any {w : World} {A : Option Addr} {n c : Nat} {l : List Rw} (h : SqR w w.heap.size A n c l) (hn : n ≤ 1000000) :
    Calls Tryz.prog 24 #[.agg #[.slice A n c]] w fun e w' => e = .returned (.int .i64 (if rightR l then 0 else 150)) ∧ Below w.heap.size w w' := by
  have HS := Lib.hid h
  clear h
  obtain ⟨er, her⟩ : ∃ er : Int, (if rightR l then 0 else 150) = er := ⟨_, rfl⟩
  have HER := Lib.hid her
  rw [her]
  clear her
  obtain ⟨w0, hw0⟩ : ∃ w0, w.alloc (.cells #[.slice A n c] 51) = w0 := ⟨_, rfl⟩
  have L0 : Hid (Lies w0 w.heap.size 1 [.slice A n c]) := Lib.hid (by rw [← hw0]; exact Lies.new w [.slice A n c] 51)
  have B0 : Hid (Below w.heap.size w w0) := Lib.hid (by rw [← hw0]; exact (Below.refl _ _).alloc (Nat.le_refl _) _)
  have HW0 := Lib.hid hw0
  clear hw0
  have q0 := L0.out.cell (j := 0) rfl
  go_enter Tryz.func24, Tryz.ntmps24
  go_upto_region 1 with fail
  rw [HW0.out]
  clear HW0
  go_wp2_with fail
  refine (texts_any A n c w0).mono ?_
  rintro e w1 ⟨rfl, hb1⟩
  have B1 : Hid (Below w0.heap.size w0 w1) := Lib.hid hb1
  clear hb1 q0
  go_upto_region 2 with fail
  obtain ⟨w2, hw2⟩ : ∃ w2, w1.alloc (.cells #[.slice A n c, .func (.func 67) #[] #[]] 101) = w2 := ⟨_, rfl⟩
  rw [hw2]
  have L2 : Hid (Lies w2 w1.heap.size 2 (tbLR A n c)) := Lib.hid (by rw [← hw2]; exact Lies.new w1 (tbLR A n c) 101)
  have B2 : Hid (Below w1.heap.size w1 w2) := Lib.hid (by rw [← hw2]; exact (Below.refl _ _).alloc (Nat.le_refl _) _)
  clear hw2
  have B02 := Lib.hid (B0.out.trans ((B1.out.trans (B2.out.mono B1.out.size)).mono B0.out.size))
  have HF := Lib.hid (texts_fit ((HS.out.below B02.out).more B02.out.size) hn)
  have HR := Lib.hid (fun (w3 : World) (hb : Below w2.heap.size w2 w3) => texts_rise (((HS.out.below B02.out).more B02.out.size).below hb |>.more hb.size) hn)
  have p0 := L2.out.cell (j := 0) rfl
  have p1 := L2.out.cell (j := 1) rfl
  obtain ⟨fq, hfq⟩ : ∃ q, fitW (·.p) (·.t) l = q := ⟨_, rfl⟩
  obtain ⟨rq, hrq⟩ : ∃ q, riseW (l.map (·.p)) = q := ⟨_, rfl⟩
  have HV : Hid (rightR l = (fq && rq)) := Lib.hid (by unfold rightR; rw [hfq, hrq])
  rw [hfq] at HF
  rw [hrq] at HR
  clear hfq hrq HS
  cases fq
  · go_wp2_with (first | (go_at_call 49; have T := HF.out; with_reducible refine Calls.mono T ?_; clear T; rintro e w3 ⟨rfl, hb3⟩; have G3 := Lib.hid hb3; have L3 := Lib.hid (L2.out.below hb3 L2.out.lt); have o0 := L3.out.cell (j := 0) rfl; have o1 := L3.out.cell (j := 1) rfl; clear hb3 p0 p1) | fail)
    go_ret
    exact ⟨by rw [← HER.out, HV.out]; rfl, B02.out.trans (G3.out.mono B02.out.size)⟩
  · cases rq
    · go_wp2_with (first | (go_at_call 49; have T := HF.out; with_reducible refine Calls.mono T ?_; clear T; rintro e w3 ⟨rfl, hb3⟩; have G3 := Lib.hid hb3; have L3 := Lib.hid (L2.out.below hb3 L2.out.lt); have o0 := L3.out.cell (j := 0) rfl; have o1 := L3.out.cell (j := 1) rfl; clear hb3 p0 p1) | (go_at_call 50; have T := HR.out w3 G3.out; with_reducible refine Calls.mono T ?_; clear T; rintro e w4 ⟨rfl, hb4⟩; have G4 := Lib.hid (G3.out.trans (hb4.mono G3.out.size)); clear hb4) | fail)
      go_ret
      exact ⟨by rw [← HER.out, HV.out]; rfl, B02.out.trans (G4.out.mono B02.out.size)⟩
    · go_wp2_with (first | (go_at_call 49; have T := HF.out; with_reducible refine Calls.mono T ?_; clear T; rintro e w3 ⟨rfl, hb3⟩; have G3 := Lib.hid hb3; have L3 := Lib.hid (L2.out.below hb3 L2.out.lt); have o0 := L3.out.cell (j := 0) rfl; have o1 := L3.out.cell (j := 1) rfl; clear hb3 p0 p1) | (go_at_call 50; have T := HR.out w3 G3.out; with_reducible refine Calls.mono T ?_; clear T; rintro e w4 ⟨rfl, hb4⟩; have G4 := Lib.hid (G3.out.trans (hb4.mono G3.out.size)); clear hb4) | fail)
      go_ret
      exact ⟨by rw [← HER.out, HV.out]; rfl, B02.out.trans (G4.out.mono B02.out.size)⟩

/-- Whether it may be. -/
def rightC (l : List Ch) : Bool := fitW (·.p) (·.t) l && riseW (l.map (·.p)) && !mudW l
set_option maxRecDepth 100000 in
set_option maxHeartbeats 1600000 in
theorem CheckEdit_any {w : World} {A : Option Addr} {n c : Nat} {l : List Ch} (h : SqC w w.heap.size A n c l) (hn : n ≤ 1000000) :
    Calls Tryz.prog 81 #[.agg #[.slice A n c]] w fun e w' => e = .returned (.int .i64 (if rightC l then 0 else 151)) ∧ Below w.heap.size w w' := by
  have HS := Lib.hid h
  clear h
  obtain ⟨er, her⟩ : ∃ er : Int, (if rightC l then 0 else 151) = er := ⟨_, rfl⟩
  have HER := Lib.hid her
  rw [her]
  clear her
  obtain ⟨w0, hw0⟩ : ∃ w0, w.alloc (.cells #[.slice A n c] 31) = w0 := ⟨_, rfl⟩
  have L0 : Hid (Lies w0 w.heap.size 1 [.slice A n c]) := Lib.hid (by rw [← hw0]; exact Lies.new w [.slice A n c] 31)
  have B0 : Hid (Below w.heap.size w w0) := Lib.hid (by rw [← hw0]; exact (Below.refl _ _).alloc (Nat.le_refl _) _)
  have HW0 := Lib.hid hw0
  clear hw0
  have q0 := L0.out.cell (j := 0) rfl
  go_enter Tryz.func81, Tryz.ntmps81
  go_upto_region 1 with fail
  rw [HW0.out]
  clear HW0
  go_wp2_with fail
  refine (changes_any A n c w0).mono ?_
  rintro e w1 ⟨rfl, hb1⟩
  have B1 : Hid (Below w0.heap.size w0 w1) := Lib.hid hb1
  clear hb1 q0
  go_upto_region 2 with fail
  obtain ⟨w2, hw2⟩ : ∃ w2, w1.alloc (.cells #[.slice A n c, .func (.func 102) #[] #[]] 142) = w2 := ⟨_, rfl⟩
  rw [hw2]
  have L2 : Hid (Lies w2 w1.heap.size 2 (tbLC A n c)) := Lib.hid (by rw [← hw2]; exact Lies.new w1 (tbLC A n c) 142)
  have B2 : Hid (Below w1.heap.size w1 w2) := Lib.hid (by rw [← hw2]; exact (Below.refl _ _).alloc (Nat.le_refl _) _)
  clear hw2
  have B02 := Lib.hid (B0.out.trans ((B1.out.trans (B2.out.mono B1.out.size)).mono B0.out.size))
  have HF := Lib.hid (changes_fit ((HS.out.below B02.out).more B02.out.size) hn)
  have HR := Lib.hid (fun (w3 : World) (hb : Below w2.heap.size w2 w3) => changes_rise (((HS.out.below B02.out).more B02.out.size).below hb |>.more hb.size) hn)
  have HM := Lib.hid (fun (w3 : World) (hb : Below w2.heap.size w2 w3) => has_mud (((HS.out.below B02.out).more B02.out.size).below hb |>.more hb.size) hn)
  have M2 := Lib.hid ((L0.out.below (B1.out.trans (B2.out.mono B1.out.size)) L0.out.lt))
  have p0 := L2.out.cell (j := 0) rfl
  have p1 := L2.out.cell (j := 1) rfl
  obtain ⟨fq, hfq⟩ : ∃ q, fitW (·.p) (·.t) l = q := ⟨_, rfl⟩
  obtain ⟨rq, hrq⟩ : ∃ q, riseW (l.map (·.p)) = q := ⟨_, rfl⟩
  obtain ⟨mq, hmq⟩ : ∃ q, mudW l = q := ⟨_, rfl⟩
  have HV : Hid (rightC l = (fq && rq && !mq)) := Lib.hid (by unfold rightC; rw [hfq, hrq, hmq])
  rw [hfq] at HF
  rw [hrq] at HR
  rw [hmq] at HM
  clear hmq
  clear hfq hrq HS
  cases fq
  · go_wp2_with (first | (go_at_call 96; have T := HF.out; with_reducible refine Calls.mono T ?_; clear T; rintro e w3 ⟨rfl, hb3⟩; have G3 := Lib.hid hb3; have L3 := Lib.hid (L2.out.below hb3 L2.out.lt); have o0 := L3.out.cell (j := 0) rfl; have o1 := L3.out.cell (j := 1) rfl; clear hb3 p0 p1) | fail)
    go_ret
    exact ⟨by rw [← HER.out, HV.out]; rfl, B02.out.trans (G3.out.mono B02.out.size)⟩
  · cases rq
    · go_wp2_with (first | (go_at_call 96; have T := HF.out; with_reducible refine Calls.mono T ?_; clear T; rintro e w3 ⟨rfl, hb3⟩; have G3 := Lib.hid hb3; have L3 := Lib.hid (L2.out.below hb3 L2.out.lt); have o0 := L3.out.cell (j := 0) rfl; have o1 := L3.out.cell (j := 1) rfl; clear hb3 p0 p1) | (go_at_call 97; have T := HR.out w3 G3.out; with_reducible refine Calls.mono T ?_; clear T; rintro e w4 ⟨rfl, hb4⟩; have G4 := Lib.hid (G3.out.trans (hb4.mono G3.out.size)); have e0 := (G4.out.cell (p := ⟨w.heap.size, 0, none⟩) (M2.out.lt)).trans (M2.out.cell (j := 0) rfl); clear hb4) | fail)
      go_ret
      exact ⟨by rw [← HER.out, HV.out]; rfl, B02.out.trans (G4.out.mono B02.out.size)⟩
    · cases mq
      · go_wp2_with (first | (go_at_call 96; have T := HF.out; with_reducible refine Calls.mono T ?_; clear T; rintro e w3 ⟨rfl, hb3⟩; have G3 := Lib.hid hb3; have L3 := Lib.hid (L2.out.below hb3 L2.out.lt); have o0 := L3.out.cell (j := 0) rfl; have o1 := L3.out.cell (j := 1) rfl; clear hb3 p0 p1) | (go_at_call 97; have T := HR.out w3 G3.out; with_reducible refine Calls.mono T ?_; clear T; rintro e w4 ⟨rfl, hb4⟩; have G4 := Lib.hid (G3.out.trans (hb4.mono G3.out.size)); have e0 := (G4.out.cell (p := ⟨w.heap.size, 0, none⟩) (M2.out.lt)).trans (M2.out.cell (j := 0) rfl); clear hb4) | (go_at_call 98; have T := HM.out w4 G4.out; with_reducible refine Calls.mono T ?_; clear T; rintro e w5 ⟨rfl, hb5⟩; have G5 := Lib.hid (G4.out.trans (hb5.mono G4.out.size)); clear hb5) | fail)
        go_ret
        exact ⟨by rw [← HER.out, HV.out]; rfl, B02.out.trans (G5.out.mono B02.out.size)⟩
      · go_wp2_with (first | (go_at_call 96; have T := HF.out; with_reducible refine Calls.mono T ?_; clear T; rintro e w3 ⟨rfl, hb3⟩; have G3 := Lib.hid hb3; have L3 := Lib.hid (L2.out.below hb3 L2.out.lt); have o0 := L3.out.cell (j := 0) rfl; have o1 := L3.out.cell (j := 1) rfl; clear hb3 p0 p1) | (go_at_call 97; have T := HR.out w3 G3.out; with_reducible refine Calls.mono T ?_; clear T; rintro e w4 ⟨rfl, hb4⟩; have G4 := Lib.hid (G3.out.trans (hb4.mono G3.out.size)); have e0 := (G4.out.cell (p := ⟨w.heap.size, 0, none⟩) (M2.out.lt)).trans (M2.out.cell (j := 0) rfl); clear hb4) | (go_at_call 98; have T := HM.out w4 G4.out; with_reducible refine Calls.mono T ?_; clear T; rintro e w5 ⟨rfl, hb5⟩; have G5 := Lib.hid (G4.out.trans (hb5.mono G4.out.size)); clear hb5) | fail)
        go_ret
        exact ⟨by rw [← HER.out, HV.out]; rfl, B02.out.trans (G5.out.mono B02.out.size)⟩
end Go.Proofs.YtcofkhmgmemkmaaGreatDoor
namespace Go.Proofs.YtcofkhmgmemkmaaGreatDoor
set_option linter.unusedVariables false
set_option linter.unusedSimpArgs false
open Go.RowKit Go.WideShapes Go.ChangeShapes Go.Deep

/-- A slice of rows that came in. -/
theorem rows_arg {H : Type} {enc : TypeId × Value → H} {W : World} {fuel : Nat} {v : Value} {x : DataW H × List MemPlace} (hf : DataW.trod enc Tryz.prog W 0 (fun _ => true) true fuel 49 [v] = some x) :
    ∃ A n c l, v = .slice A n c ∧ SqR W W.heap.size A n c l := by
  have hC : Tryz.prog.cellsOf 48 = 2 := by kernel_rfl
  rcases open_slice Tryz.underlying49 hf with ⟨hcs, _⟩ | ⟨ad, len, cap, m, nn, D, Pl, hcs, _, hl, hm, hmm, _, hx⟩
  · injection hcs with hcs
    exact ⟨none, 0, 0, [], hcs, Sq.nil_ rw_sz⟩
  · injection hcs with hcs
    simp only [if_true] at hmm
    subst hmm
    have each : ∀ i, i < len → ∃ a : Rw, ∀ j v, a.cells[j]? = some v → W.cell? (ad.add (i * 2 + j)) = some v := by
      intro i hi
      obtain ⟨cs', hcell, ht⟩ := hx i (by omega)
      rw [hC] at hcell
      obtain ⟨_, hcl, hat⟩ := World.cells?_some hcell
      obtain ⟨c0, c1, rfl⟩ : ∃ c0 c1, cs' = [c0, c1] := by
        match cs', hcl with
        | [a, b], _ => exact ⟨a, b, rfl⟩
      obtain ⟨y0, y1, n', _, _, h0, h1⟩ := trod_struct2 Tryz.underlying48 ht
      have k9 : Tryz.prog.cellsOf 9 = 1 := by kernel_rfl
      simp only [k9, List.drop_zero, List.take_succ_cons, List.take_zero, List.drop_succ_cons] at h0 h1
      obtain ⟨s0, e0, _, _⟩ := DataW.trod_string Tryz.underlying9 h0
      obtain ⟨s1, e1, _, _⟩ := DataW.trod_string Tryz.underlying9 h1
      injection e0 with e0
      injection e1 with e1
      refine ⟨⟨s0, s1⟩, fun j v hj => ?_⟩
      have hj2 : j < 2 := by have := (List.getElem?_eq_some_iff.1 hj).1; simpa [Rw.cells] using this
      have := hat j hj2
      rw [Go.Deep.add_add] at this
      rw [this, ← hj, e0, e1]
      rfl
    obtain ⟨b, o, s⟩ := ad
    rcases Nat.eq_zero_or_pos len with hn0 | hn0
    · subst hn0
      exact ⟨_, 0, _, [], hcs, rfl, hl, hm, (fun e => by cases e), rw_sz, fun h => absurd h (by omega)⟩
    · obtain ⟨a0, ha0⟩ := each 0 hn0
      have hs : s = none := by
        have := ha0 0 _ rfl
        simpa [Addr.add] using World.cell?_spot this
      subst hs
      have hlt : b < W.heap.size := by
        have := ha0 0 _ rfl
        exact World.block_lt_of_cell? W _ this
      obtain ⟨l, hlen, hall⟩ : ∃ l : List Rw, l.length = len ∧ ∀ i (h : i < l.length), ∀ j v, l[i].cells[j]? = some v → W.cell? ((⟨b, o, none⟩ : Addr).add (i * 2 + j)) = some v := by
        refine ⟨(List.range len).attach.map fun i => (each i.1 (List.mem_range.1 i.2)).choose, by simp, fun i hi j v hv => ?_⟩
        have hjn : i < len := by simpa using hi
        simp only [List.getElem_map, List.getElem_attach, List.getElem_range] at hv
        exact (each i hjn).choose_spec j v hv
      refine ⟨_, len, _, l, hcs, hlen, hl, hm, (fun e => by cases e), rw_sz, fun _ => ⟨b, o, rfl, hlt, fun j v hv => ?_⟩⟩
      have hjl : j < l.length * 2 := by rw [← flat_len rw_sz l]; exact (List.getElem?_eq_some_iff.1 hv).1
      have hi : j / 2 < l.length := by omega
      have hget : ∀ (l : List Rw) (j : Nat) (hi : j / 2 < l.length), (l.flatMap Rw.cells)[j]? = (l[j / 2]).cells[j % 2]? := by
        intro l
        induction l with
        | nil => intro j hi; simp at hi
        | cons x r ih =>
          intro j hi
          rw [List.flatMap_cons]
          by_cases hj2 : j < 2
          · have e1 : j / 2 = 0 := by omega
            have e2 : j % 2 = j := by omega
            rw [List.getElem?_append_left (by rw [rw_sz]; exact hj2)]
            simp [e1, e2]
          · rw [List.getElem?_append_right (by rw [rw_sz]; omega), rw_sz]
            have hi' : (j - 2) / 2 < r.length := by simp at hi; omega
            rw [ih (j - 2) hi']
            have e1 : j / 2 = (j - 2) / 2 + 1 := by omega
            have e2 : j % 2 = (j - 2) % 2 := by omega
            simp [e1, e2]
      rw [hget l j hi] at hv
      have := hall (j / 2) hi (j % 2) v hv
      rwa [addr_add, show j / 2 * 2 + j % 2 = j by omega] at this
theorem size_one {cs : Array Value} (h : cs.size = 1) : ∃ c0, cs = #[c0] := by
  obtain ⟨ls⟩ := cs
  match ls, h with
  | [a], _ => exact ⟨a, rfl⟩
set_option maxRecDepth 100000 in
/-- A map that came in. -/
theorem map_arg {H : Type} {enc : TypeId × Value → H} {W : World} {r : Reach} {b0 : Nat} {v : Value} {d : DataW H} {p : List MemPlace} (hv : Value.okWide Tryz.prog W r b0 51 v) (h : DataW.Trod enc Tryz.prog W 0 (fun _ => true) true 51 v d p) :
    ∃ A n c l, v = .agg #[.slice A n c] ∧ SqR W W.heap.size A n c l := by
  obtain ⟨cs, rfl, hsz⟩ := okWide_struct Tryz.underlying51 hv
  have hC : Tryz.prog.cellsOf 51 = 1 := by kernel_rfl
  obtain ⟨c0, rfl⟩ := size_one (hsz.trans hC)
  obtain ⟨fuel, hf⟩ := h
  obtain ⟨y0, n, _, _, h0⟩ := trod_struct1 Tryz.underlying51 hf
  have k1 : Tryz.prog.cellsOf 49 = 1 := by kernel_rfl
  simp only [Value.cells, k1, List.drop_zero, List.take_succ_cons, List.take_zero] at h0
  obtain ⟨A, n, c, l, rfl, hs⟩ := rows_arg h0
  exact ⟨A, n, c, l, rfl, hs⟩
end Go.Proofs.YtcofkhmgmemkmaaGreatDoor
