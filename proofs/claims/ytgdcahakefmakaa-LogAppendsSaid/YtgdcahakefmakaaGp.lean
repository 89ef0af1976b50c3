/-
  LOGS: the same.
-/
import Derived.Test.YtgdcahakefmakaaGo
namespace Go.Proofs.Ytgdcahakefmakaa
set_option linter.unusedVariables false
set_option linter.unusedSimpArgs false
open Go.RowKit Go.WideShapes Go.ChangeShapes Go.Deep Go.Shelf
attribute [local irreducible] wpQuiet

def sameE (a b : Ev) : Bool := a.t == b.t && (a.k == b.k && a.d == b.d)
def sameEs : List Ev → List Ev → Bool
  | [], [] => true
  | a :: r, b :: s => sameE a b && sameEs r s
  | _, _ => false
def sameG (a b : Lg) : Bool := (a.bi == b.bi && a.bt == b.bt) && sameEs a.es b.es
theorem sameE_iff {a b : Ev} : sameE a b = true ↔ a = b := by
  unfold sameE
  simp only [Bool.and_eq_true, beq_iff_eq]
  exact ⟨fun ⟨h1, h2, h3⟩ => Ev.ext_ h1 h2 h3, fun h => by subst h; exact ⟨rfl, rfl, rfl⟩⟩
theorem sameEs_iff : ∀ {a b : List Ev}, sameEs a b = true ↔ a = b
  | [], [] => by simp [sameEs]
  | a :: r, b :: s => by
    rw [sameEs, Bool.and_eq_true, sameE_iff, sameEs_iff]
    simp
  | [], b :: s => by simp [sameEs]
  | a :: r, [] => by simp [sameEs]
theorem sameG_iff {a b : Lg} : sameG a b = true ↔ a = b := by
  unfold sameG
  simp only [Bool.and_eq_true, beq_iff_eq, sameEs_iff]
  exact ⟨fun ⟨⟨h1, h2⟩, h3⟩ => Lg.ext_ h1 h2 h3, fun h => by subst h; exact ⟨⟨rfl, rfl⟩, rfl⟩⟩
theorem sameG_self (a : Lg) : sameG a a = true := sameG_iff.2 rfl
theorem sameEs_len : ∀ {a b : List Ev}, a.length ≠ b.length → sameEs a b = false
  | [], [], h => by simp at h
  | a :: r, b :: s, h => by
    rw [sameEs, sameEs_len (by simpa using h), Bool.and_false]
  | [], b :: s, _ => rfl
  | a :: r, [], _ => rfl
theorem sameEs_diff {a b : List Ev} {k : Nat} (h1 : k < a.length) (h2 : k < b.length) (h : sameE a[k] b[k] = false) : sameEs a b = false := by
  rcases hs : sameEs a b with _ | _
  · rfl
  · have e := sameEs_iff.1 hs
    subst e
    rw [sameE_iff.2 rfl] at h
    cases h
theorem sameEs_all {a b : List Ev} (hl : a.length = b.length) (h : ∀ k (h1 : k < a.length) (h2 : k < b.length), sameE a[k] b[k] = true) : sameEs a b = true :=
  sameEs_iff.2 (List.ext_getElem hl fun k h1 h2 => sameE_iff.1 (h k h1 h2))
theorem bytesEqual_any {A A' : Option Addr} {n c n' c' : Nat} {l l' : List UInt8} {w : World} {B B' : Nat} (h : SlB w B A n c l) (h' : SlB w B' A' n' c' l') :
    Calls Try.prog 35 #[.slice A n c, .slice A' n' c'] w fun e w' => e = .returned (.bool (l == l')) ∧ w = w' := by
  have k1 := h.str 42 9 5 Try.underlying42 Try.underlying5 Try.underlying9
  have k2 := h'.str 42 9 5 Try.underlying42 Try.underlying5 Try.underlying9
  clear h h'
  go_enter Try.func35, Try.ntmps35
  go_wp2
  go_ret
  exact ⟨rfl, rfl⟩
set_option maxRecDepth 100000 in
set_option maxHeartbeats 2000000 in
theorem sameEntry_any {w : World} {x y : En} (hx : EnIn w w.heap.size x) (hy : EnIn w w.heap.size y) :
    Calls Try.prog 57 #[enV x, enV y] w fun e w' => e = .returned (.bool (sameE x.v y.v)) ∧ Below w.heap.size w w' := by
  obtain ⟨w1, hw1⟩ : ∃ w1, ((w.alloc (.cells #[.int .u64 (x.t : Int), .int .i64 x.k, .slice x.D.a x.D.n x.D.c] 44)).alloc (.cells #[.int .u64 (y.t : Int), .int .i64 y.k, .slice y.D.a y.D.n y.D.c] 44)) = w1 := ⟨_, rfl⟩
  have L0 : Bl w1 (w.heap.size) 44 [.int .u64 (x.t : Int), .int .i64 x.k, .slice x.D.a x.D.n x.D.c] := by
    rw [← hw1]
    have h := Bl.new w 44 [.int .u64 (x.t : Int), .int .i64 x.k, .slice x.D.a x.D.n x.D.c]
    (try simp only [World.size_alloc] at h)
    exact (h.alloc _)
  have L1 : Bl w1 (w.heap.size + 1) 44 [.int .u64 (y.t : Int), .int .i64 y.k, .slice y.D.a y.D.n y.D.c] := by
    rw [← hw1]
    have h := Bl.new (w.alloc (.cells #[.int .u64 (x.t : Int), .int .i64 x.k, .slice x.D.a x.D.n x.D.c] 44)) 44 [.int .u64 (y.t : Int), .int .i64 y.k, .slice y.D.a y.D.n y.D.c]
    (try simp only [World.size_alloc] at h)
    exact h
  have B1 : Below w.heap.size w w1 := by
    rw [← hw1]
    exact (((Below.refl _ _).alloc (by simp <;> omega) _).alloc (by simp <;> omega) _)
  have Z1 : w1.heap.size = w.heap.size + 2 := by rw [← hw1]; simp
  have c0 := L0.cell 0
  have c1 := L0.cell 1
  have c2 := L0.cell 2
  have d0 := L1.cell 0
  have d1 := L1.cell 1
  have d2 := L1.cell 2
  simp only [List.getElem?_cons_zero, List.getElem?_cons_succ] at c0 c1 c2 d0 d1 d2
  have HW := Lib.hid hw1
  have HB1 := Lib.hid B1
  have CB := Lib.hid (bytesEqual_any (hx.d.below B1) (hy.d.below B1))
  obtain ⟨q1, h1⟩ : ∃ q, (x.t == y.t) = q := ⟨_, rfl⟩
  obtain ⟨q2, h2⟩ : ∃ q, (x.k == y.k) = q := ⟨_, rfl⟩
  obtain ⟨q3, h3⟩ : ∃ q, (x.d == y.d) = q := ⟨_, rfl⟩
  have e0 : sameE x.v y.v = (q1 && (q2 && q3)) := by rw [← h1, ← h2, ← h3]; rfl
  rw [e0]
  rw [h3] at CB
  have dq1 : ((x.t : Int) == (y.t : Int)) = q1 := by
    rw [← h1]
    by_cases h : x.t = y.t
    · rw [h]; simp
    · have : ((x.t : Int) == (y.t : Int)) = false := by simp; omega
      rw [this]; simp [h]
  have dq2 : (x.k == y.k) = q2 := h2
  clear hw1 L0 L1 B1 Z1 hx hy h1 h2 h3 e0
  cases q1
  · go_enter Try.func57, Try.ntmps57
    go_upto_region 1 with fail
    rw [HW.out]
    go_wp2_with fail
    go_ret
    exact ⟨rfl, HB1.out⟩
  cases q2
  · go_enter Try.func57, Try.ntmps57
    go_upto_region 1 with fail
    rw [HW.out]
    go_wp2_with fail
    go_ret
    exact ⟨rfl, HB1.out⟩
  go_enter Try.func57, Try.ntmps57
  go_upto_region 1 with fail
  rw [HW.out]
  go_wp2_with (first | (go_at_call 35; refine CB.out.mono ?_; rintro e w2 ⟨rfl, rfl⟩) | fail)
  go_ret
  exact ⟨rfl, HB1.out⟩
set_option maxRecDepth 100000 in
set_option maxHeartbeats 4000000 in
theorem EqualFunc_any {w : World} {A A' : Option Addr} {n c n' c' : Nat} {l l' : List En} (h : SqE w w.heap.size A n c l) (hn : n ≤ 1000) (h' : SqE w w.heap.size A' n' c' l') (hn' : n' ≤ 1000) :
    Calls Try.prog 56 #[.slice A n c, .slice A' n' c', .func (.func 57) #[] #[]] w fun e w' => e = .returned (.bool (sameEs (vsE l) (vsE l'))) ∧ Below w.heap.size w w' := by
  have hl := h.len
  have hl' := h'.len
  obtain ⟨r, hr⟩ : ∃ r, sameEs (vsE l) (vsE l') = r := ⟨_, rfl⟩
  have HR := Lib.hid hr
  rw [hr]
  clear hr
  have H := Lib.hid h
  have H' := Lib.hid h'
  clear h h'
  by_cases hnn : n = n'
  · subst hnn
    have dn : ((n : Int) == (n : Int)) = true := by simp
    go_enter Try.func56, Try.ntmps56
    go_wp2_with fail
    go_loopw [17] (fun i wr => ∃ k : Nat, k ≤ n ∧ i = .int .i64 (k : Int) ∧ Hid (Below w.heap.size w wr) ∧ Hid (∀ j (h1 : j < (vsE l).length) (h2 : j < (vsE l').length), j < k → sameE (vsE l)[j] (vsE l')[j] = true)) (fun i _ => n - (intOf i).toNat)
    case atStart => exact ⟨0, Nat.zero_le _, rfl, Lib.hid (Below.refl _ _), Lib.hid (fun j _ _ hj => absurd hj (by omega))⟩
    case round =>
      obtain ⟨k, hk, rfl, hb, hsm⟩ := hrel
      have hk0 : (0 : Int) ≤ (k : Int) := Int.natCast_nonneg _
      by_cases hlt : k < n
      · have hd : decide ((k : Int) < (n : Int)) = true := by simp; omega
        have hk1 : (k : Int) < (n : Int) := by omega
        have T := H.out.next (Nat.le_refl _) hb.out
        have T' := H'.out.next (Nat.le_refl _) hb.out
        obtain ⟨b, o, rfl, hbl, hrg⟩ := T.s.at_ hlt
        obtain ⟨b', o', rfl, hbl', hrg'⟩ := T'.s.at_ hlt
        have hkl : k < l.length := by omega
        have hkl' : k < l'.length := by omega
        have hxe := T.e _ (List.getElem_mem hkl)
        have hye := T'.e _ (List.getElem_mem hkl')
        obtain ⟨x, hx⟩ : ∃ x, l[k] = x := ⟨_, rfl⟩
        obtain ⟨y, hy⟩ : ∃ y, l'[k] = y := ⟨_, rfl⟩
        rw [hx] at hrg hxe
        rw [hy] at hrg' hye
        have HXV := Lib.hid (show ∀ (h1 : k < (vsE l).length), (vsE l)[k] = x.v from fun h1 => by rw [← hx]; simp [vsE])
        have HYV := Lib.hid (show ∀ (h1 : k < (vsE l').length), (vsE l')[k] = y.v from fun h1 => by rw [← hy]; simp [vsE])
        have HKL := Lib.hid (show k < (vsE l).length ∧ k < (vsE l').length by rw [vsE_len, vsE_len]; exact ⟨hkl, hkl'⟩)
        have r0 : wr.cell? ⟨b, o + k * 3, none⟩ = some (.int .u64 (x.t : Int)) := by have := hrg 0 _ rfl; simpa using this
        have r1 : wr.cell? ⟨b, o + k * 3 + 1, none⟩ = some (.int .i64 x.k) := by have := hrg 1 _ rfl; simpa using this
        have r2 : wr.cell? ⟨b, o + k * 3 + 2, none⟩ = some (.slice x.D.a x.D.n x.D.c) := by have := hrg 2 _ rfl; simpa using this
        obtain ⟨wA, hwA⟩ : ∃ wA, wr.alloc (.cells #[.int .u64 (x.t : Int), .int .i64 x.k, .slice x.D.a x.D.n x.D.c] 44) = wA := ⟨_, rfl⟩
        have BA : Below wr.heap.size wr wA := by rw [← hwA]; exact (Below.refl _ _).alloc (Nat.le_refl _) _
        have NA : Bl wA wr.heap.size 44 x.cells := by rw [← hwA]; exact Bl.new wr 44 x.cells
        have hrgA : wA.rangeAt b' (o' + k * 3) y.cells := rangeAt_keep hrg' (BA.block b' hbl')
        have s0 : wA.cell? ⟨b', o' + k * 3, none⟩ = some (.int .u64 (y.t : Int)) := by have := hrgA 0 _ rfl; simpa using this
        have s1 : wA.cell? ⟨b', o' + k * 3 + 1, none⟩ = some (.int .i64 y.k) := by have := hrgA 1 _ rfl; simpa using this
        have s2 : wA.cell? ⟨b', o' + k * 3 + 2, none⟩ = some (.slice y.D.a y.D.n y.D.c) := by have := hrgA 2 _ rfl; simpa using this
        obtain ⟨wB, hwB⟩ : ∃ wB, wA.alloc (.cells #[.int .u64 (y.t : Int), .int .i64 y.k, .slice y.D.a y.D.n y.D.c] 44) = wB := ⟨_, rfl⟩
        have BB : Below wr.heap.size wr wB := by rw [← hwB]; exact BA.alloc BA.size _
        have NB : Bl wB wA.heap.size 44 y.cells := by rw [← hwB]; exact Bl.new wA 44 y.cells
        have NA2 : Bl wB wr.heap.size 44 x.cells := by rw [← hwB]; exact NA.alloc _
        have HNA := Lib.hid NA2
        have HNB := Lib.hid NB
        have HWA := Lib.hid hwA
        have HWB := Lib.hid hwB
        have HBB := Lib.hid BB
        have CS := Lib.hid (sameEntry_any ((hxe.below BB).more BB.size) ((hye.below BB).more BB.size))
        obtain ⟨q, hq⟩ : ∃ q, sameE x.v y.v = q := ⟨_, rfl⟩
        rw [hq] at CS
        have HQ := Lib.hid hq
        clear T T' hrg hrg' hrgA hxe hye hx hy BB BA NA NA2 NB hwA hwB hq hbl hbl'
        go_upto_region 6 with fail
        rw [HWA.out]
        clear r0 r1 r2
        go_upto_region 7 with fail
        rw [HWB.out]
        clear s0 s1 s2
        have r0 := HNA.out.cell 0
        have r1 := HNA.out.cell 1
        have r2 := HNA.out.cell 2
        have s0 := HNB.out.cell 0
        have s1 := HNB.out.cell 1
        have s2 := HNB.out.cell 2
        simp only [En.cells, List.getElem?_cons_zero, List.getElem?_cons_succ] at r0 r1 r2 s0 s1 s2
        cases q
        · obtain rfl : r = false := by
            rw [← HR.out]
            exact sameEs_diff HKL.out.1 HKL.out.2 (by rw [HXV.out, HYV.out]; exact HQ.out)
          go_wp2_with (first | (go_at_call 57; refine CS.out.mono ?_; rintro e w2 ⟨rfl, hb2⟩; have HB2 := Lib.hid (hb.out.trans ((HBB.out.trans (hb2.mono HBB.out.size)).mono hb.out.size)); clear hb2) | fail)
          go_ret
          exact ⟨rfl, HB2.out⟩
        · go_wp2_with (first | (go_at_call 57; refine CS.out.mono ?_; rintro e w2 ⟨rfl, hb2⟩; have HB2 := Lib.hid (hb.out.trans ((HBB.out.trans (hb2.mono HBB.out.size)).mono hb.out.size)); clear hb2) | fail)
          go_roundw
          case rel => exact ⟨k + 1, by omega, by go_num, HB2, Lib.hid (fun j h1 h2 hj => by
            by_cases e : j = k
            · subst e
              rw [HXV.out, HYV.out]
              exact HQ.out
            · exact hsm.out j h1 h2 (by omega))⟩
          case measure => simp [intOf]; omega
      · have hd : decide ((k : Int) < (n : Int)) = false := by simp; omega
        obtain rfl : r = true := by
          rw [← HR.out]
          exact sameEs_all (by rw [vsE_len, vsE_len]; omega) fun j h1 h2 => hsm.out j h1 h2 (by rw [vsE_len] at h1; omega)
        go_wp2_with fail
        go_ret
        exact ⟨rfl, hb.out⟩
  · have dn : ((n : Int) == (n' : Int)) = false := by simp; omega
    have dn' : ((n : Int) != (n' : Int)) = true := by simp; omega
    obtain rfl : r = false := by
      rw [← HR.out]
      exact sameEs_len (by rw [vsE_len, vsE_len]; omega)
    go_enter Try.func56, Try.ntmps56
    go_wp2_with fail
    go_ret
    exact ⟨rfl, Below.refl _ _⟩
end Go.Proofs.Ytgdcahakefmakaa
