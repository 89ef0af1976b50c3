/-
  CONTRACTS: slices.Clone; Pending; New.
-/
import Derived.Test.YtionbjocfepkaaaDq
namespace Go.Proofs.Ytionbjocfepkaaa
set_option linter.unusedVariables false
open Go.RowKit Go.WideShapes Go.ChangeShapes

theorem info_bool : (Try.prog.info? 4).map (fun i => (i.zero, i.size, i.bytes)) = some (some (.bool false), 1, 1) := by kernel_rfl
/-- A row of the call's own, read. -/
theorem own_slv {w : World} {base : Nat} {e : TypeId} {A : Option Addr} {n c : Nat} {xs : List Value} (h : w.ownsRow base e 1 (.slice A n c) n xs) : SlV w w.heap.size A n c xs := by
  have hl : xs.length = n := by simpa using h.1
  rcases h.2 with ⟨h2, h3⟩ | ⟨g, cap, cur, h2, hb, hg, hnc, hcm, hcs, htk⟩
  · injection h2 with h4 h5 h6
    subst h4; subst h6
    exact ⟨hl, by omega, by unfold maxLen; omega, fun _ => rfl, fun hn => by omega⟩
  · injection h2 with h4 h5 h6
    subst h4; subst h6
    refine ⟨hl, hnc, hcm, fun e => (by cases e), fun hn => ⟨g, 0, rfl, (Array.getElem?_eq_some_iff.1 hg).1, fun j hj => ?_⟩⟩
    have := h.cells (g := g) rfl j _ (List.getElem?_eq_getElem hj)
    rwa [addr_add] at this
theorem own_base {w : World} {base base' : Nat} {e : TypeId} {size n : Nat} {v : Value} {xs : List Value} (h : w.ownsRow base e size v n xs) (hb : base' ≤ base) : w.ownsRow base' e size v n xs :=
  ⟨h.1, h.2.imp id fun ⟨g, cap, cur, h1, h2, rest⟩ => ⟨g, cap, cur, h1, Nat.le_trans hb h2, rest⟩⟩

set_option maxRecDepth 100000 in
theorem clone_int {w : World} {B : Nat} {A : Option Addr} {n c : Nat} {xs : List Value} (hs : SlV w B A n c xs) (hB : B ≤ w.heap.size) (h1 : ∀ u ∈ xs, u.oneCell' = true) (hn : n ≤ 1000000000) :
    Calls Try.prog 33 #[.slice A n c] w fun e w' => ∃ v, e = .returned v ∧ w'.ownsRow w.heap.size 3 1 v n xs ∧ Below w.heap.size w w' := by
  obtain ⟨i0, hi, hz, hz1, hz2⟩ := info_parts info_int
  have hl := hs.len
  have q22 : ∀ (w : World) (a : Option Addr) (n c n' c' : Nat), (binOp .eql 53 (.slice a n c) (.slice none n' c')).run Try.prog w = .ok (.bool a.isNone) w := fun w a n c n' c' => Lib.run_eql_slice_nil w _ _ a n c n' c' Try.underlying53
  have HNN := Lib.hid hn
  clear hn
  rcases A with _ | ad
  · obtain rfl : c = 0 := hs.non rfl
    obtain rfl : n = 0 := by have := hs.cap; omega
    obtain rfl : xs = [] := List.eq_nil_of_length_eq_zero hl
    go_enter Try.func33, Try.ntmps33
    go_wp2
    go_ret
    exact ⟨_, rfl, World.ownsRow_nil _ _ _ _, Below.refl _ _⟩
  · have hnews : ∀ j u, xs[j]? = some u → (w.alloc (.cells #[] 3)).cell? (ad.add j) = some u := by
      intro j u hu
      have hj := (List.getElem?_eq_some_iff.1 hu).1
      obtain ⟨b, o, e, hb, hc⟩ := hs.pos (by omega)
      injection e with e
      subst e
      rw [addr_add]
      have e2 := hc j hj
      rw [List.getElem?_eq_getElem hj] at hu
      injection hu with hu
      rw [hu] at e2
      exact (cell_alloc_old (by simp only; omega)).trans e2
    have hown : (w.alloc (.cells #[] 3)).ownsRow w.heap.size 3 1 (.slice (some ⟨w.heap.size, 0, none⟩) 0 0) 0 [] := World.ownsRow_made w #[] 0 (Nat.le_refl _) (by unfold maxLen; omega) rfl
    have hb0 : Below w.heap.size w (w.alloc (.cells #[] 3)) := (Below.refl _ _).alloc (Nat.le_refl _) _
    have HL := Lib.hid hl
    have HO := Lib.hid hown
    have HN := Lib.hid hnews
    clear hl hown hnews hs
    go_enter Try.func33, Try.ntmps33
    go_wp2_with (at_builtin; refine wpList_append_own _ rfl _ _ 53 rfl w.heap.size 3 i0 (.int .i64 0) 1 8 Try.underlying53 hi hz hz1 hz2 rfl (by omega) _ 0 [] rfl HO.out ad n c xs rfl (by rw [HL.out, Nat.mul_one]) HN.out h1 (by have := HNN.out; unfold maxLen; omega) (by have := HNN.out; omega) (by simp) ?_; intro v' w1 hown' hgrow _)
    go_ret
    refine ⟨v', rfl, by simpa using hown', hb0.grown hgrow hb0.size fun k hk => ?_⟩
    injection hk with hk
    exact Nat.le_of_eq hk

set_option maxRecDepth 100000 in
theorem clone_bool {w : World} {B : Nat} {A : Option Addr} {n c : Nat} {xs : List Value} (hs : SlV w B A n c xs) (hB : B ≤ w.heap.size) (h1 : ∀ u ∈ xs, u.oneCell' = true) (hn : n ≤ 1000000000) :
    Calls Try.prog 18 #[.slice A n c] w fun e w' => ∃ v, e = .returned v ∧ w'.ownsRow w.heap.size 4 1 v n xs ∧ Below w.heap.size w w' := by
  obtain ⟨i0, hi, hz, hz1, hz2⟩ := info_parts info_bool
  have hl := hs.len
  have q22 : ∀ (w : World) (a : Option Addr) (n c n' c' : Nat), (binOp .eql 33 (.slice a n c) (.slice none n' c')).run Try.prog w = .ok (.bool a.isNone) w := fun w a n c n' c' => Lib.run_eql_slice_nil w _ _ a n c n' c' Try.underlying33
  have HNN := Lib.hid hn
  clear hn
  rcases A with _ | ad
  · obtain rfl : c = 0 := hs.non rfl
    obtain rfl : n = 0 := by have := hs.cap; omega
    obtain rfl : xs = [] := List.eq_nil_of_length_eq_zero hl
    go_enter Try.func18, Try.ntmps18
    go_wp2
    go_ret
    exact ⟨_, rfl, World.ownsRow_nil _ _ _ _, Below.refl _ _⟩
  · have hnews : ∀ j u, xs[j]? = some u → (w.alloc (.cells #[] 4)).cell? (ad.add j) = some u := by
      intro j u hu
      have hj := (List.getElem?_eq_some_iff.1 hu).1
      obtain ⟨b, o, e, hb, hc⟩ := hs.pos (by omega)
      injection e with e
      subst e
      rw [addr_add]
      have e2 := hc j hj
      rw [List.getElem?_eq_getElem hj] at hu
      injection hu with hu
      rw [hu] at e2
      exact (cell_alloc_old (by simp only; omega)).trans e2
    have hown : (w.alloc (.cells #[] 4)).ownsRow w.heap.size 4 1 (.slice (some ⟨w.heap.size, 0, none⟩) 0 0) 0 [] := World.ownsRow_made w #[] 0 (Nat.le_refl _) (by unfold maxLen; omega) rfl
    have hb0 : Below w.heap.size w (w.alloc (.cells #[] 4)) := (Below.refl _ _).alloc (Nat.le_refl _) _
    have HL := Lib.hid hl
    have HO := Lib.hid hown
    have HN := Lib.hid hnews
    clear hl hown hnews hs
    go_enter Try.func18, Try.ntmps18
    go_wp2_with (at_builtin; refine wpList_append_own _ rfl _ _ 33 rfl w.heap.size 4 i0 (.bool false) 1 1 Try.underlying33 hi hz hz1 hz2 rfl (by omega) _ 0 [] rfl HO.out ad n c xs rfl (by rw [HL.out, Nat.mul_one]) HN.out h1 (by have := HNN.out; unfold maxLen; omega) (by have := HNN.out; omega) (by simp) ?_; intro v' w1 hown' hgrow _)
    go_ret
    refine ⟨v', rfl, by simpa using hown', hb0.grown hgrow hb0.size fun k hk => ?_⟩
    injection hk with hk
    exact Nat.le_of_eq hk

/-- The order of a disk, read. -/
theorem pending_dk {w : World} {g : Nat} {S : Nat → Prop} {M : Mo} (h : Dk w g S M) (hwt : M.wt.length ≤ 1000000000) :
    Calls Try.prog 16 #[rp g] w fun e w' => ∃ v, e = .returned v ∧ w'.ownsRow w.heap.size 3 1 v M.wt.length (M.wt.map fun p => Value.int .i64 (p.1 : Int)) ∧ Below w.heap.size w w' := by
  obtain ⟨ga, O, W, h⟩ := h
  obtain ⟨A, c, hO⟩ := own_form h.ord
  have c1 := h.db.c1
  have ho := h.ord
  rw [hO] at c1 ho
  have hh := clone_int (own_slv ho) (Nat.le_refl _) (fun u hu => by simp only [List.mem_map] at hu; obtain ⟨p, _, rfl⟩ := hu; rfl) hwt
  have HH := Lib.hid hh
  clear hh ho hO h hwt
  go_enter Try.func16, Try.ntmps16
  go_wp2_with (go_at_call 33; refine (HH.out).mono ?_; rintro e w' ⟨v, rfl, h1, h2⟩)
  go_ret
  exact ⟨v, rfl, h1, h2⟩
theorem pending_nil (w : World) :
    Calls Try.prog 16 #[.pointer none] w fun e w' => e = .returned (.slice none 0 0) ∧ w = w' := by
  go_enter Try.func16, Try.ntmps16
  go_wp2
  go_ret
  exact ⟨rfl, rfl⟩

def ZS : Array Value := (bvs Zb ++ [Value.slice none 0 0]).toArray
theorem info_sector : (Try.prog.info? 80).map (fun i => (i.zero, i.size, i.bytes)) = some (some (.agg ZS), 65, 88) := by kernel_rfl

theorem ZS_cells : (Value.agg ZS).cells = ZS := rfl
theorem ZS_size : ZS.size = 65 := by simp [ZS, bvs_len, Zb_len]
theorem ZS_at (k : Nat) (h : k < 65) : ZS[k]! = if k < 64 then bv 0 else .slice none 0 0 := by
  have hb : (bvs Zb).length = 64 := by rw [bvs_len, Zb_len]
  unfold ZS
  rw [List.getElem!_toArray]
  by_cases hk : k < 64
  · have e : (bvs Zb)[k]? = some (bv 0) := by rw [bvs, List.getElem?_map, List.getElem?_eq_getElem (by rw [Zb_len]; exact hk), Option.map_some, Zb_at]
    rw [if_pos hk, List.getElem!_eq_getElem?_getD, List.getElem?_append_left (by omega), e]
    rfl
  · rw [if_neg hk, List.getElem!_eq_getElem?_getD, List.getElem?_append_right (by omega)]
    have : k - (bvs Zb).length = 0 := by omega
    rw [this]
    rfl
theorem make_sectors (n : Nat) (h : n ≤ 2048) (w : World) :
    (Instr.makeSlice 64 (.int .i64 (n : Int)) (.int .i64 (n : Int))).run Try.prog w = .ok (.slice (some ⟨w.heap.size, 0, none⟩) n n) (w.alloc (.cells (madeCells ZS (n * 65)) 80)) := by
  obtain ⟨i0, hi, hz, hz1, hz2⟩ := info_parts info_sector
  have hr := run_make (P := Try.prog) w 64 _ i0 _ Try.underlying64 hi hz .i64 .i64 (n : Int) (n : Int) (by omega) (by omega) (by rw [hz2]; omega) (by omega)
  simp only [Int.toNat_natCast, hz1] at hr
  exact hr
theorem made_sectors (n : Nat) (w : World) : (w.alloc (.cells (madeCells ZS (n * 65)) 80)).rowIs w.heap.size 80 (65 * n) (cellS (List.replicate n Zb) (fun _ => .slice none 0 0)) := by
  have h := World.rowIs_alloc w (madeCells ZS (n * 65)) 80 (cellS (List.replicate n Zb) (fun _ => .slice none 0 0)) (fun i hi => by
    rw [size_madeCells] at hi
    have hd : i / 65 < n := by omega
    have e : (madeCells ZS (n * 65))[i]? = some (ZS[i % 65]!) := by
      unfold madeCells
      rw [ZS_size, Array.getElem?_map, Array.getElem?_eq_getElem (by simpa using hi)]
      simp
    rw [e, ZS_at _ (by omega)]
    unfold cellS
    by_cases hk : i % 65 < 64
    · rw [if_pos hk, if_pos hk, getD_of_lt (l := List.replicate n Zb) (j := i / 65) (by simpa using hd), List.getElem_replicate, getD_of_lt (by rw [Zb_len]; exact hk), Zb_at]
    · rw [if_neg hk, if_neg hk])
  have e : n * 65 = 65 * n := Nat.mul_comm _ _
  rw [size_madeCells] at h
  rw [e] at h ⊢
  exact h

/-- A new disk. -/
def Mo.new (n : Nat) : Mo := { safe := List.replicate n Zb, wt := [], fu := nope, fa := nope, dead := false, ops := 0 }
theorem new_bad (n : Int) (h : n < 1 ∨ 2048 < n) (w : World) : Calls Try.prog 6 #[.int .i64 n] w fun e w' => e = .returned (.tuple #[.pointer none, .int .i64 2]) ∧ w = w' := by
  rcases h with h | h
  · have hd1 : decide (n < 1) = true := by simpa using h
    go_enter Try.func6, Try.ntmps6
    go_wp2
    go_ret2
    exact ⟨rfl, rfl⟩
  · have hd1 : decide (n < 1) = false := by simp; omega
    have hd2 : decide (2048 < n) = true := by simpa using h
    go_enter Try.func6, Try.ntmps6
    go_wp2
    go_ret2
    exact ⟨rfl, rfl⟩
theorem new_any (n : Nat) (h1 : 1 ≤ n) (h2 : n ≤ 2048) (w : World) : Calls Try.prog 6 #[.int .i64 (n : Int)] w fun e w' => ∃ g S, e = .returned (.tuple #[rp g, .int .i64 0]) ∧ Dk w' g S (Mo.new n) ∧ (∀ b, S b → w.heap.size ≤ b) ∧ Below w.heap.size w w' := by
  have hd1 : decide ((n : Int) < 1) = false := by simp; omega
  have hd2 : decide (2048 < (n : Int)) = false := by simp; omega
  have hmk := make_sectors n h2
  have hr := made_sectors n w
  have HR := Lib.hid hr
  have hb : Below w.heap.size w ((w.alloc (.cells (madeCells ZS (n * 65)) 80)).alloc (.cells #[.slice (some ⟨w.heap.size, 0, none⟩) n n, .slice none 0 0, .bool false, .int .i64 0, .bool false, .int .i64 0, .bool false, .int .i64 0] 68)) := ((Below.refl _ _).alloc (Nat.le_refl _) _).alloc (by simp) _
  have hdb : Db ((w.alloc (.cells (madeCells ZS (n * 65)) 80)).alloc (.cells #[.slice (some ⟨w.heap.size, 0, none⟩) n n, .slice none 0 0, .bool false, .int .i64 0, .bool false, .int .i64 0, .bool false, .int .i64 0] 68)) (w.heap.size + 1) (.slice (some ⟨w.heap.size, 0, none⟩) n n) (.slice none 0 0) nope nope false 0 := by
    have := Bl.new (w.alloc (.cells (madeCells ZS (n * 65)) 80)) 68 [.slice (some ⟨w.heap.size, 0, none⟩) n n, .slice none 0 0, .bool false, .int .i64 0, .bool false, .int .i64 0, .bool false, .int .i64 0]
    have e : (w.alloc (.cells (madeCells ZS (n * 65)) 80)).heap.size = w.heap.size + 1 := by simp
    rw [e] at this
    exact this
  have HB := Lib.hid hb
  have HDB := Lib.hid hdb
  clear hr hb hdb
  go_enter Try.func6, Try.ntmps6
  go_wp2
  go_ret2
  refine ⟨w.heap.size + 1, fun b => b = w.heap.size ∨ b = w.heap.size + 1, rfl, ⟨w.heap.size, .slice none 0 0, fun _ => .slice none 0 0, ?_⟩, fun b hb => by omega, HB.out⟩
  refine ⟨?_, .inr rfl, .inl rfl, fun b hb => ?_, ?_, fun i _ => .inl ⟨rfl, rfl⟩, fun i j b _ _ _ hb => (by cases hb), World.ownsRow_nil _ _ _ _, fun b hb => (by cases hb), ?_⟩
  · show Db _ _ (.slice _ (List.replicate n Zb).length (List.replicate n Zb).length) _ _ _ _ _
    rw [List.length_replicate]
    exact HDB.out
  · simp; omega
  · show World.rowIs _ _ _ (65 * (List.replicate n Zb).length) _
    rw [List.length_replicate]
    exact HR.out.alloc _
  · exact ⟨by simp [Mo.new]; omega, by simp [Mo.new]; omega, fun x hx => by simp [Mo.new] at hx; rw [hx.2]; exact Zb_len, fun p hp => (by cases hp), FitC.nope, FitC.nope, Int.le_refl _⟩
end Go.Proofs.Ytionbjocfepkaaa
