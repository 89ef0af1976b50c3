/-
  THE DOCUMENT'S OWN DISK: Holds, Read.
-/
import Derived.Test.YtionbjocfepkaaaRb
namespace Go.Proofs.Ytionbjocfepkaaa
set_option linter.unusedVariables false
set_option linter.unusedSimpArgs false
open Go.RowKit Go.WideShapes Go.ChangeShapes Go.Deep

/-- What a sector holds, by all writes that count. -/
def holdE (l : List En) (i : Nat) : List UInt8 := ((l.filter fun e => e.s == i).map (·.b)).getLast?.getD Zb
theorem holdE_snoc (l : List En) (e : En) (i : Nat) : holdE (l ++ [e]) i = if e.s = i then e.b else holdE l i := by
  unfold holdE
  by_cases h : e.s = i <;> simp [h]
theorem holdE_len {l : List En} (h : ∀ e ∈ l, e.b.length = 64) (i : Nat) : (holdE l i).length = 64 := by
  unfold holdE
  cases hl : ((l.filter fun e => e.s == i).map (·.b)).getLast? with
  | none => exact Zb_len
  | some y =>
    have := List.mem_of_getLast? hl
    simp only [List.mem_map, List.mem_filter] at this
    obtain ⟨e, ⟨he, _⟩, rfl⟩ := this
    exact h e he

abbrev boxR (w : World) (n : Int) (V : Value) (dead : Bool) (fu fa done : Int) : World := w.alloc (.cells #[.int .i64 n, V, .bool dead, .int .i64 fu, .int .i64 fa, .int .i64 done] 30)
abbrev zbW (w : World) : World := w.alloc (.cells Z64 37)
theorem boxR_bl (w : World) (n : Int) (V : Value) (dead : Bool) (fu fa done : Int) : Bl (boxR w n V dead fu fa done) w.heap.size 30 [.int .i64 n, V, .bool dead, .int .i64 fu, .int .i64 fa, .int .i64 done] := Bl.new w 30 [.int .i64 n, V, .bool dead, .int .i64 fu, .int .i64 fa, .int .i64 done]
theorem boxR_below (w : World) (n : Int) (V : Value) (dead : Bool) (fu fa done : Int) : Below w.heap.size w (boxR w n V dead fu fa done) := (Below.refl _ _).alloc (Nat.le_refl _) _
theorem boxR_size (w : World) (n : Int) (V : Value) (dead : Bool) (fu fa done : Int) : (boxR w n V dead fu fa done).heap.size = w.heap.size + 1 := by simp
theorem zbW_size (w : World) : (zbW w).heap.size = w.heap.size + 1 := by simp
theorem zbW_below (w : World) : Below w.heap.size w (zbW w) := (Below.refl _ _).alloc (Nat.le_refl _) _
theorem zbW_range (w : World) : (zbW w).rangeAt w.heap.size 0 (bvs Zb) := rowIs_range (Z64_new w) 0 (bvs Zb) (fun j v hv => by
  obtain ⟨hj, rfl⟩ := bvs_at _ _ _ hv
  rw [Zb_len] at hj
  rw [Zb_at]
  exact ⟨by omega, rfl⟩)

/-- A disk laid, and two blocks behind it. -/
abbrev rbox3 (w : World) (n : Int) (V : Value) (dead : Bool) (fu fa done : Int) : World := zbW (zbW (boxR w n V dead fu fa done))
structure RBox3 (w : World) (n : Int) (V : Value) (dead : Bool) (fu fa done : Int) (W : World) (l : List UInt8) : Prop where
  bx : Bl W w.heap.size 30 [.int .i64 n, V, .bool dead, .int .i64 fu, .int .i64 fa, .int .i64 done]
  t1 : W.there (w.heap.size + 1) 0 64
  t2 : W.there (w.heap.size + 2) 0 64
  rg : W.rangeAt (w.heap.size + 2) 0 (bvs l)
  below : Below w.heap.size w W
theorem rbox3_at (w : World) (n : Int) (V : Value) (dead : Bool) (fu fa done : Int) : RBox3 w n V dead fu fa done (rbox3 w n V dead fu fa done) Zb := by
  have b1 := boxR_below w n V dead fu fa done
  have z1 := boxR_size w n V dead fu fa done
  have b2 := zbW_below (boxR w n V dead fu fa done)
  have z2 := zbW_size (boxR w n V dead fu fa done)
  have b3 := zbW_below (zbW (boxR w n V dead fu fa done))
  refine ⟨(Bl.below (B := w.heap.size + 1) (Bl.below (B := w.heap.size + 1) (boxR_bl w n V dead fu fa done) (b2.mono (by omega)) (by omega)) (b3.mono (by omega)) (by omega)), ?_, ?_, ?_, (b1.trans (b2.mono (by omega))).trans (b3.mono (by omega))⟩
  · have := Z64_there (boxR w n V dead fu fa done)
    rw [z1] at this
    exact there_below this b3 (by omega)
  · have := Z64_there (zbW (boxR w n V dead fu fa done))
    rw [z2, z1] at this
    exact this
  · have := zbW_range (zbW (boxR w n V dead fu fa done))
    rw [z2, z1] at this
    exact this
theorem RBox3.set_ {w : World} {n : Int} {V : Value} {dead : Bool} {fu fa done : Int} {W : World} {l : List UInt8} (h : RBox3 w n V dead fu fa done W l) {x : List UInt8} (hx : x.length = 64) : RBox3 w n V dead fu fa done (W.setCells (w.heap.size + 2) 0 (bvs x)) x :=
  ⟨((setCells_os _ _ _ _).2.2.2.2 w.heap.size (by omega)).trans h.bx, World.there_setCells h.t1 _ _ _, World.there_setCells h.t2 _ _ _, there_set hx h.t2, below_setCells h.below (by omega) _ _⟩

set_option maxRecDepth 100000 in
set_option maxHeartbeats 2000000 in
theorem holds_ref {w : World} {A : Option Addr} {l c : Nat} {es : List En} (h : Ew w A l c es) (hl : l ≤ 1000000) (s : Rs) (n : Int) (i : Nat) (hin : (i : Int) ≤ 9223372036854775807) :
    Calls Try.prog 53 #[s.val n (.slice A l c), .int .i64 (i : Int)] w fun e w' => e = .returned (.agg (bvs (holdE es i)).toArray) ∧ Below w.heap.size w w' := by
  obtain ⟨dead, fu, fa, done⟩ := s
  have HS := Lib.hid h
  have hle := h.len
  clear h
  have B3 := Lib.hid (rbox3_at w n (.slice A l c) dead fu fa done)
  go_enter Try.func53, Try.ntmps53
  go_wp2_with (with_reducible refine al_block rfl rfl ?_)
  go_loopw [6] (fun x wr => ∃ k : Nat, k ≤ l ∧ x = .int .i64 (k : Int) ∧ Hid (RBox3 w n (.slice A l c) dead fu fa done wr (holdE (es.take k) i))) (fun x _ => l - (intOf x).toNat)
  case atStart => exact ⟨0, Nat.zero_le _, rfl, B3⟩
  case round =>
    obtain ⟨k, hk, rfl, hb⟩ := hrel
    have q1 := hb.out.bx.cell 1
    simp only [List.getElem?_cons_zero, List.getElem?_cons_succ] at q1
    by_cases hlt : k < l
    · have hd : decide ((k : Int) < (l : Int)) = true := by simp; omega
      have hk0 : (0 : Int) ≤ (k : Int) := Int.natCast_nonneg _
      have hk1 : (k : Int) < (l : Int) := by omega
      have hes := HS.out.below hb.out.below
      obtain ⟨b, o, rfl, hblt, hrg⟩ := hes.pos (by omega)
      obtain ⟨e, he⟩ : ∃ e, es[k]'(by omega) = e := ⟨_, rfl⟩
      have hfe : e.b.length = 64 := hes.fit e (by rw [← he]; exact List.getElem_mem _)
      have hpe := ens_part (o := o) (b := b) hes.fit hrg k (by omega)
      rw [he] at hpe
      have p1 := En.sector_at hpe
      have P2 := Lib.hid (En.block_at hfe hpe)
      have HFE := Lib.hid hfe
      have htk := take_succ_at (l := es) (k := k) (by omega)
      rw [he] at htk
      have HT := Lib.hid htk
      clear hes hrg he hpe htk hblt hfe
      by_cases hei : e.s = i
      · have hq : ((e.s : Int) == (i : Int)) = true := by simp; omega
        have HEI := Lib.hid hei
        clear hei
        go_wp2_with (first
          | (with_reducible refine ld_block rfl _ rfl b (o + k * 66 + 1) e.b HFE rfl P2.out ?_)
          | (with_reducible refine st_block rfl _ _ rfl (w.heap.size + 2) 0 e.b HFE rfl rfl hb.out.t2 ?_))
        go_roundw
        case rel => exact ⟨k + 1, by omega, by go_num, Lib.hid (by rw [HT.out, holdE_snoc, if_pos HEI.out]; exact hb.out.set_ HFE.out)⟩
        case measure => simp [intOf]; omega
      · have hq : ((e.s : Int) == (i : Int)) = false := by simp; omega
        have HEI := Lib.hid hei
        clear hei
        go_wp2
        go_roundw
        case rel => exact ⟨k + 1, by omega, by go_num, Lib.hid (by rw [HT.out, holdE_snoc, if_neg HEI.out]; exact hb.out)⟩
        case measure => simp [intOf]; omega
    · have hd : decide ((k : Int) < (l : Int)) = false := by simp; omega
      obtain rfl : k = l := by omega
      rw [← hle, List.take_length] at hb
      have HL := Lib.hid (holdE_len HS.out.fit i)
      go_wp2_with (first
        | (with_reducible refine ld_block rfl _ rfl (w.heap.size + 2) 0 (holdE es i) HL rfl hb.out.rg ?_)
        | (with_reducible refine st_block rfl _ _ rfl (w.heap.size + 1) 0 (holdE es i) HL rfl rfl hb.out.t1 ?_))
      exact bodyPost_ret (results_cell_mid rfl _ _ (w.heap.size + 1) 0 (bvs (holdE es i)) _ rfl (there_set HL.out hb.out.t1) Try.underlying37 rfl (size_of HL.out)) rfl ⟨rfl, below_setCells hb.out.below (by omega) _ _⟩
end Go.Proofs.Ytionbjocfepkaaa
