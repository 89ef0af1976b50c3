/-
  LOGS: a log in two parts.
-/
import Derived.Test.YtgdcahakefmakaaGn
namespace Go.Proofs.Ytgdcahakefmakaa
set_option linter.unusedVariables false
set_option linter.unusedSimpArgs false
open Go.RowKit Go.WideShapes Go.ChangeShapes Go.Deep Go.Shelf
attribute [local irreducible] wpQuiet

theorem SqE.take {w : World} {B n c : Nat} {A : Option Addr} {l : List En} (h : SqE w B A n c l) {k : Nat} (hk : k ≤ n) : SqE w B A k c (l.take k) :=
  ⟨⟨by have := h.s.len; simp; omega, by have := h.s.cap; omega, h.s.max, h.s.non, h.s.sz, fun hp => by
    obtain ⟨b, o, e, hb, hc⟩ := h.s.pos (by omega)
    refine ⟨b, o, e, hb, ?_⟩
    have e1 := congrArg (fun z => z.flatMap En.cells) (List.take_append_drop k l)
    simp only [List.flatMap_append] at e1
    rw [← e1, rangeAt_app] at hc
    exact hc.1⟩, fun x hx => h.e x (List.mem_of_mem_take hx)⟩
theorem SqE.drop {w : World} {B n c : Nat} {A : Option Addr} {l : List En} (h : SqE w B A n c l) {k : Nat} (hk : k ≤ n) (hc : k < c) : SqE w B (A.map fun x => x.add (k * 3)) (n - k) (c - k) (l.drop k) :=
  ⟨⟨by have := h.s.len; simp; omega, by have := h.s.cap; omega, by have := h.s.max; omega, fun e => by have := h.s.non (by simpa using e); omega, h.s.sz, fun hp => by
    obtain ⟨b, o, rfl, hb, hc⟩ := h.s.pos (by omega)
    refine ⟨b, o + k * 3, by simp [addr_add], hb, ?_⟩
    have e1 := congrArg (fun z => z.flatMap En.cells) (List.take_append_drop k l)
    simp only [List.flatMap_append] at e1
    rw [← e1, rangeAt_app] at hc
    have e2 : ((l.take k).flatMap En.cells).length = k * 3 := by rw [flat_len en_sz, List.length_take, h.s.len, Nat.min_eq_left hk]
    rw [e2] at hc
    exact hc.2⟩, fun x hx => h.e x (List.mem_of_mem_drop hx)⟩
theorem SqE.none_ {w : World} {B n c : Nat} {A : Option Addr} {l : List En} (h : SqE w B A n c l) : SqE w B A 0 0 (l.drop n) :=
  ⟨⟨by have := h.s.len; simp; omega, by omega, by omega, fun e => rfl, h.s.sz, fun hp => by omega⟩, fun x hx => h.e x (List.mem_of_mem_drop hx)⟩
set_option maxRecDepth 100000 in
set_option maxHeartbeats 2000000 in
theorem parted_any {w : World} {A : Option Addr} {n c : Nat} {es : List En} (hs : SqE w w.heap.size A n c es) (hn : n ≤ 1000) (i t : Nat) (d u : Nat) (hd : d ≤ n) (hi : i + d < 18446744073709551616) :
    Calls Try.prog 45 #[lgV i t A n c, atV (i + d) u] w fun e w' => (∃ A' c', e = .returned (.tuple #[.slice A d c, .slice A' (n - d) c']) ∧ SqE w w.heap.size A d c (es.take d) ∧ SqE w w.heap.size A' (n - d) c' (es.drop d)) ∧ Below w.heap.size w w' := by
  obtain ⟨w1, hw1⟩ : ∃ w1, ((w.alloc (.cells #[.int .u64 (i : Int), .int .u64 (t : Int), .slice A n c] 27)).alloc (.cells #[.int .u64 ((i : Int) + (d : Int)), .int .u64 (u : Int)] 24)) = w1 := ⟨_, rfl⟩
  have L0 : Bl w1 (w.heap.size) 27 [.int .u64 (i : Int), .int .u64 (t : Int), .slice A n c] := by
    rw [← hw1]
    have h := Bl.new w 27 [.int .u64 (i : Int), .int .u64 (t : Int), .slice A n c]
    (try simp only [World.size_alloc] at h)
    exact (h.alloc _)
  have L1 : Bl w1 (w.heap.size + 1) 24 [.int .u64 ((i : Int) + (d : Int)), .int .u64 (u : Int)] := by
    rw [← hw1]
    have h := Bl.new (w.alloc (.cells #[.int .u64 (i : Int), .int .u64 (t : Int), .slice A n c] 27)) 24 [.int .u64 ((i : Int) + (d : Int)), .int .u64 (u : Int)]
    (try simp only [World.size_alloc] at h)
    exact h
  have B1 : Below w.heap.size w w1 := by
    rw [← hw1]
    exact (((Below.refl _ _).alloc (by simp <;> omega) _).alloc (by simp <;> omega) _)
  have Z1 : w1.heap.size = w.heap.size + 2 := by rw [← hw1]; simp
  have c0 := L0.cell 0
  have c1 := L0.cell 1
  have c2 := L0.cell 2
  have d0 := L1.cell 0
  have d1 := L1.cell 1
  simp only [List.getElem?_cons_zero, List.getElem?_cons_succ] at c0 c1 c2 d0 d1
  have HW := Lib.hid hw1
  have HB1 := Lib.hid B1
  have hcap := hs.s.cap
  have hmax := Lib.hid hs.s.max
  have HS := Lib.hid hs
  have hd0 : (0 : Int) ≤ (d : Int) := Int.natCast_nonneg _
  have hd1 : (d : Int) ≤ (n : Int) := by omega
  have hc1 : (n : Int) ≤ (c : Int) := by omega
  have hd2 : (d : Int) ≤ (c : Int) := by omega
  have hi2 : (i : Int) + (d : Int) < 18446744073709551616 := by omega
  have hi0 : (0 : Int) ≤ (i : Int) := Int.natCast_nonneg _
  clear hw1 L0 L1 B1 Z1 hs hi
  go_enter Try.func45, Try.ntmps45
  go_upto_region 1 with fail
  rw [HW.out]
  go_upto_region 2 with fail
  go_quiet (fail)
  clear hi2 hd0 hd1 hc1 hd2 hi0 c0 c1 c2 d0 d1
  have HCAP := Lib.hid hcap
  have HN := Lib.hid hn
  have HD := Lib.hid hd
  clear hcap hn hd
  obtain ⟨e1, he1⟩ : ∃ e1, i + d - i = e1 := ⟨_, rfl⟩
  rw [he1]
  obtain ⟨A', hA'⟩ : ∃ A', (if c = e1 then A else Option.map (fun x => x.add (e1 * 3)) A) = A' := ⟨_, rfl⟩
  rw [hA']
  have HA' := Lib.hid hA'
  have HE1 := Lib.hid he1
  clear hA' he1
  go_wp2_with fail
  go_ret2
  have e0 : e1 = d := by have := HE1.out; omega
  subst e0
  have hcap := HCAP.out
  have hd := HD.out
  refine ⟨⟨A', c - e1, rfl, HS.out.take hd, ?_⟩, below_drewN HB1.out nq⟩
  rw [← HA'.out]
  by_cases hcd : c = e1
  · rw [if_pos hcd, show n - e1 = 0 by omega, show c - e1 = 0 by omega, show e1 = n by omega]
    exact HS.out.none_
  · rw [if_neg hcd]
    exact HS.out.drop hd (by omega)
end Go.Proofs.Ytgdcahakefmakaa
