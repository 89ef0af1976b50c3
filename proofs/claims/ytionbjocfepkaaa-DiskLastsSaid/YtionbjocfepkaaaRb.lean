/-
  THE DOCUMENT'S OWN DISK: its writes in memory; Waiting.
-/
import Derived.Test.YtionbjocfepkaaaRa
namespace Go.Proofs.Ytionbjocfepkaaa
set_option linter.unusedVariables false
set_option linter.unusedSimpArgs false
open Go.RowKit Go.WideShapes Go.ChangeShapes Go.Deep

/-- A write that counts. -/
structure En where
  s : Nat
  b : List UInt8
  safe : Bool
def En.cells (e : En) : List Value := .int .i64 (e.s : Int) :: (bvs e.b ++ [.bool e.safe])
def ens (l : List En) : List Value := l.flatMap En.cells
theorem En.cells_len {e : En} (h : e.b.length = 64) : e.cells.length = 66 := by simp [En.cells, bvs_len, h]
theorem ens_len {l : List En} (h : ∀ e ∈ l, e.b.length = 64) : (ens l).length = l.length * 66 := by
  induction l with
  | nil => rfl
  | cons x r ih =>
    have h1 := En.cells_len (h x (by simp))
    have h2 := ih fun y hy => h y (by simp [hy])
    simp only [ens, List.flatMap_cons, List.length_append, List.length_cons] at h2 ⊢
    omega
theorem ens_app (a b : List En) : ens (a ++ b) = ens a ++ ens b := by simp [ens]
theorem ens_one (a : En) : ens [a] = a.cells := by simp [ens]
theorem ens_cons (a : En) (l : List En) : ens (a :: l) = a.cells ++ ens l := by simp [ens]
theorem En.cells_oneCell (e : En) : ∀ v ∈ e.cells, v.oneCell' = true := by
  intro v hv
  simp only [En.cells, List.mem_cons, List.mem_append, List.not_mem_nil, or_false] at hv
  rcases hv with rfl | hv | rfl
  · rfl
  · exact bvs_one _ v hv
  · rfl
theorem ens_oneCell (l : List En) : ∀ v ∈ ens l, v.oneCell' = true := by
  intro v hv
  simp only [ens, List.mem_flatMap] at hv
  obtain ⟨e, _, he⟩ := hv
  exact e.cells_oneCell v he

/-- A slice that reads as these writes. -/
structure Ew (w : World) (A : Option Addr) (n c : Nat) (l : List En) : Prop where
  len : l.length = n
  cap : n ≤ c
  max : c ≤ maxLen
  fit : ∀ e ∈ l, e.b.length = 64
  non : n = 0 → A = none
  pos : 0 < n → ∃ b o, A = some ⟨b, o, none⟩ ∧ b < w.heap.size ∧ w.rangeAt b o (ens l)
  zc : A = none → c = 0
theorem Ew.nil_ (w : World) : Ew w none 0 0 [] := ⟨rfl, Nat.le_refl _, Nat.zero_le _, fun e he => (by cases he), fun _ => rfl, fun h => absurd h (by omega), fun _ => rfl⟩
theorem Ew.below {w w' : World} {A : Option Addr} {n c : Nat} {l : List En} (h : Ew w A n c l) (hb : Below w.heap.size w w') : Ew w' A n c l :=
  ⟨h.len, h.cap, h.max, h.fit, h.non, fun hn => by
    obtain ⟨b, o, e, hlt, hc⟩ := h.pos hn
    exact ⟨b, o, e, Nat.lt_of_lt_of_le hlt hb.size, rangeAt_keep hc (hb.block b hlt)⟩, h.zc⟩
/-- The cells of write k. -/
theorem ens_part {w : World} {b : Nat} : ∀ {l : List En} {o : Nat}, (∀ e ∈ l, e.b.length = 64) → w.rangeAt b o (ens l) → ∀ (k : Nat) (hk : k < l.length), w.rangeAt b (o + k * 66) l[k].cells
  | [], _, _, _, k, hk => by simp at hk
  | x :: r, o, hf, h, k, hk => by
    rw [ens_cons, rangeAt_app, En.cells_len (hf x (by simp))] at h
    rcases k with _ | k
    · simpa using h.1
    · have := ens_part (o := o + 66) (fun e he => hf e (by simp [he])) h.2 k (by simpa using hk)
      rw [show o + 66 + k * 66 = o + (k + 1) * 66 by omega] at this
      exact this
theorem En.sector_at {w : World} {b o : Nat} {e : En} (h : w.rangeAt b o e.cells) : w.cell? ⟨b, o, none⟩ = some (.int .i64 (e.s : Int)) := h 0 _ rfl
theorem En.block_at {w : World} {b o : Nat} {e : En} (hl : e.b.length = 64) (h : w.rangeAt b o e.cells) : w.rangeAt b (o + 1) (bvs e.b) := fun j v hv => by
  have hj := (List.getElem?_eq_some_iff.1 hv).1
  have := h (j + 1) v (by simp only [En.cells, List.getElem?_cons_succ]; rw [List.getElem?_append_left hj]; exact hv)
  rw [← this, show o + 1 + j = o + (j + 1) by omega]
theorem En.safe_at {w : World} {b o : Nat} {e : En} (hl : e.b.length = 64) (h : w.rangeAt b o e.cells) : w.cell? ⟨b, o + 65, none⟩ = some (.bool e.safe) := by
  have hb : (bvs e.b).length = 64 := by rw [bvs_len, hl]
  exact h 65 _ (by simp only [En.cells, List.getElem?_cons_succ]; rw [List.getElem?_append_right (by omega), hb]; rfl)

/-- The sectors of the writes that wait. -/
def waitS (l : List En) : List Nat := (l.filter fun e => !e.safe).map (·.s)
theorem waitS_snoc (l : List En) (e : En) : waitS (l ++ [e]) = if e.safe = true then waitS l else waitS l ++ [e.s] := by
  unfold waitS
  cases h : e.safe <;> simp [h]
theorem waitS_len (l : List En) : (waitS l).length ≤ l.length := by
  unfold waitS
  rw [List.length_map]
  exact List.length_filter_le _ _
theorem take_succ_at {α : Type} {l : List α} {k : Nat} (hk : k < l.length) : l.take (k + 1) = l.take k ++ [l[k]] := by
  rw [List.take_add_one, List.getElem?_eq_getElem hk]; rfl

set_option maxRecDepth 100000 in
set_option maxHeartbeats 2000000 in
theorem waiting_any {w : World} {A : Option Addr} {l c : Nat} {es : List En} (h : Ew w A l c es) (hl : l ≤ 1000000) (s : Rs) (n : Int) :
    Calls Try.prog 34 #[s.val n (.slice A l c)] w fun e w' => ∃ v, e = .returned v ∧ w'.ownsRow w.heap.size 3 1 v (waitS es).length ((waitS es).map fun x : Nat => Value.int .i64 (x : Int)) ∧ Below w.heap.size w w' := by
  obtain ⟨dead, fu, fa, done⟩ := s
  obtain ⟨i0, hi, hz, hz1, hz2⟩ := info_parts info_int
  have HS := Lib.hid h
  have hle := h.len
  clear h
  have BX := Lib.hid (Bl.new w 30 [.int .i64 n, .slice A l c, .bool dead, .int .i64 fu, .int .i64 fa, .int .i64 done])
  have HB0 := Lib.hid (show Below w.heap.size w (w.alloc (.cells #[.int .i64 n, .slice A l c, .bool dead, .int .i64 fu, .int .i64 fa, .int .i64 done] 30)) from (Below.refl _ _).alloc (Nat.le_refl _) _)
  go_enter Try.func34, Try.ntmps34
  go_wp2
  go_loopw [3, 4] (fun v i wr => ∃ (k : Nat) (A' : Option Addr) (m c' : Nat), k ≤ l ∧ i = .int .i64 (k : Int) ∧ v = .slice A' m c' ∧ m ≤ k ∧ Hid (m = (waitS (es.take k)).length) ∧ Hid (wr.ownsRow (w.heap.size + 1) 3 1 (.slice A' m c') m ((waitS (es.take k)).map fun x : Nat => Value.int .i64 (x : Int))) ∧ Hid (Below (w.heap.size + 1) (w.alloc (.cells #[.int .i64 n, .slice A l c, .bool dead, .int .i64 fu, .int .i64 fa, .int .i64 done] 30)) wr)) (fun _ i _ => l - (intOf i).toNat)
  case atStart => exact ⟨0, none, 0, 0, Nat.zero_le _, rfl, rfl, Nat.zero_le _, Lib.hid rfl, Lib.hid (World.ownsRow_nil _ _ _ _), Lib.hid (Below.refl _ _)⟩
  case round =>
    obtain ⟨k, A', m, c', hk, rfl, rfl, hmk, hm, hown, hbel⟩ := hrel
    have bx := BX.out.below hbel.out (Nat.lt_succ_self _)
    have q1 := bx.cell 1
    simp only [List.getElem?_cons_zero, List.getElem?_cons_succ] at q1
    by_cases hlt : k < l
    · have hd : decide ((k : Int) < (l : Int)) = true := by simp; omega
      have hk0 : (0 : Int) ≤ (k : Int) := Int.natCast_nonneg _
      have hk1 : (k : Int) < (l : Int) := by omega
      have hes := ((HS.out.below HB0.out).below (by have := hbel.out; rwa [show (w.alloc (.cells #[.int .i64 n, .slice A l c, .bool dead, .int .i64 fu, .int .i64 fa, .int .i64 done] 30)).heap.size = w.heap.size + 1 by simp]))
      obtain ⟨b, o, rfl, hblt, hrg⟩ := hes.pos (by omega)
      obtain ⟨e, he⟩ : ∃ e, es[k]'(by omega) = e := ⟨_, rfl⟩
      have hfe : e.b.length = 64 := hes.fit e (by rw [← he]; exact List.getElem_mem _)
      have hpe := ens_part (o := o) (b := b) hes.fit hrg k (by omega)
      rw [he] at hpe
      have p1 := En.sector_at hpe
      have p2 := En.safe_at hfe hpe
      have htk := take_succ_at (l := es) (k := k) (by omega)
      rw [he] at htk
      have HT := Lib.hid htk
      have HBL := Lib.hid hblt
      clear hes hrg he hpe htk bx hblt
      cases hsf : e.safe
      · rw [hsf] at p2
        have HSF := Lib.hid hsf
        clear hsf
        have hmm : (m : Int) ≤ 1000000 := by omega
        go_wp2_with (at_builtin; refine wpList_append_lies _ rfl _ _ 53 rfl (w.heap.size + 1) 3 i0 (.int .i64 0) 1 8 Try.underlying53 hi hz hz1 hz2 rfl (by omega) (.slice A' m c') m _ rfl (hown.out.alloc _) ⟨wr.heap.size, 0, none⟩ 1 1 [.int .i64 (e.s : Int)] rfl rfl (World.news_of_block (cs := #[.int .i64 (e.s : Int)]) (heap_alloc_new wr _)) (by simp [Value.oneCell']) (by omega) (by unfold maxLen; omega) (by omega) (by have := hbel.out.size; simp at this ⊢; omega) (wr.heap.size + 1) (by simp) ?_; intro g2 c2 w5 hown5 hg5 hat5 hlt5)
        have hz5 := hg5.size
        have hbs := hbel.out.size
        simp at hz5 hbs
        have hb5 : Below (w.heap.size + 1) (wr.alloc (.cells #[.int .i64 (e.s : Int)] 3)) w5 := (Below.refl _ _).grown hg5 (by simp; omega) fun k hk => (hown.out.lt k hk).1
        have hb6 := (hbel.out.alloc (by simpa using hbs) (.cells #[.int .i64 (e.s : Int)] 3)).trans hb5
        go_roundw
        case rel => exact ⟨k + 1, _, m + 1, c2, by omega, by go_num, rfl, by omega, Lib.hid (by rw [HT.out, waitS_snoc, if_neg (by rw [HSF.out]; decide), List.length_append, ← hm.out]; rfl), Lib.hid (by rw [HT.out, waitS_snoc, if_neg (by rw [HSF.out]; decide), List.map_append]; exact hown5), Lib.hid hb6⟩
        case measure => simp [intOf]; omega
      · rw [hsf] at p2
        have HSF := Lib.hid hsf
        clear hsf
        go_wp2
        go_roundw
        case rel => exact ⟨k + 1, A', m, c', by omega, by go_num, rfl, by omega, Lib.hid (by rw [HT.out, waitS_snoc, if_pos HSF.out]; exact hm.out), Lib.hid (by rw [HT.out, waitS_snoc, if_pos HSF.out]; exact hown.out), hbel⟩
        case measure => simp [intOf]; omega
    · have hd : decide ((k : Int) < (l : Int)) = false := by simp; omega
      obtain rfl : k = l := by omega
      go_wp2
      go_ret
      rw [← hle, List.take_length] at hown hm
      rw [hm.out] at hown ⊢
      exact ⟨_, rfl, own_base hown.out (Nat.le_succ _), HB0.out.trans (hbel.out.mono (Nat.le_succ _))⟩
end Go.Proofs.Ytionbjocfepkaaa
