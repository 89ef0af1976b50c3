/-
  SLICES OF BLOCKS, EACH IN A BLOCK OF MEMORY OF ITS OWN: append, the last one alone; whether a block is there.
  WHAT EACH SECTOR HELD SINCE THE LAST SYNC: pure, and in memory beside a disk; three disks at once.
-/
import Derived.Test.YtionbjocfepkaaaTq
import Derived.ArgAppend
import Derived.Test.YtionbjocfepkaaaLawe
namespace Go.Proofs.Ytionbjocfepkaaa
set_option linter.unusedVariables false
set_option linter.unusedSimpArgs false
open Go.RowKit Go.WideShapes Go.ChangeShapes Go.Deep

/-- A slice of blocks that reads as l; it lies in block b; where it has room it may be stored to. -/
structure Sv (w : World) (b : Nat) (v : Value) (l : List (List UInt8)) : Prop where
  ex : ∃ o c, v = .slice (some ⟨b, o, none⟩) l.length c ∧ l.length ≤ c ∧ c ≤ maxLen ∧ w.rangeAt b o (fl l) ∧ w.there b (o + l.length * 64) ((c - l.length) * 64)
  lt : b < w.heap.size
  fit : ∀ x ∈ l, x.length = 64
section
variable {w w' : World} {b : Nat} {v : Value} {l : List (List UInt8)}
theorem Sv.kp (h : Sv w b v l) (hk : w'.heap[b]? = w.heap[b]?) (hz : w.heap.size ≤ w'.heap.size) : Sv w' b v l := by
  obtain ⟨o, c, h1, h2, h3, h4, h5⟩ := h.ex
  exact ⟨⟨o, c, h1, h2, h3, rangeAt_keep h4 hk, there_keep h5 hk⟩, Nat.lt_of_lt_of_le h.lt hz, h.fit⟩
theorem Sv.below (h : Sv w b v l) (hb : Below w.heap.size w w') : Sv w' b v l := h.kp (hb.block b h.lt) hb.size
theorem Sv.new (w : World) {x : List UInt8} (hx : x.length = 64) : Sv (w.alloc (.cells (bvs x).toArray 37)) w.heap.size (.slice (some ⟨w.heap.size, 0, none⟩) 1 1) [x] := by
  refine ⟨⟨0, 1, rfl, Nat.le_refl _, by unfold maxLen; omega, ?_, fun j hj => by simp at hj⟩, by simp, by simpa using hx⟩
  rw [fl_one]
  exact (Lies.new w (bvs x) _).rg
theorem Sv.last (h : Sv w b v l) (hne : l ≠ []) {x : List UInt8} (hx : l.getLast? = some x) : ∃ o c, v = .slice (some ⟨b, o, none⟩) l.length c ∧ l.length ≤ c ∧ c ≤ maxLen ∧ Sv w b (.slice (some ⟨b, o + (l.length - 1) * 64, none⟩) 1 (c - (l.length - 1))) [x] := by
  obtain ⟨o, c, h1, h2, h3, h4, h5⟩ := h.ex
  have hp : 0 < l.length := List.length_pos_iff.2 hne
  refine ⟨o, c, h1, h2, h3, ⟨o + (l.length - 1) * 64, c - (l.length - 1), rfl, by simp; omega, by omega, ?_, ?_⟩, h.lt, ?_⟩
  · rw [fl_one]
    refine fl_at l o h4 h.fit (l.length - 1) x ?_
    rw [← hx, List.getLast?_eq_getElem?]
  · intro j hj
    have := h5 j (by simp at hj; omega)
    rw [show o + (l.length - 1) * 64 + [x].length * 64 + j = o + l.length * 64 + j by simp; omega]
    exact this
  · intro y hy
    simp at hy
    subst hy
    exact h.fit y (List.mem_of_getLast? hx)
theorem Sv.append (h : Sv w b v l) (a : Addr) (c : Nat) (x : List UInt8) (hx : x.length = 64) (hn : ∀ j u, (bvs x)[j]? = some u → w.cell? (a.add j) = some u) (hlen : l.length ≤ 1000000000) :
    ∃ b' v' w', (Builtin.append_ #[45, 45] 45 #[v, .slice (some a) 1 c]).run Try.prog w = .ok v' w' ∧ Sv w' b' v' (l ++ [x]) ∧ (b' = b ∨ b' = w.heap.size) ∧ Mv (fun k => k = b) w w' := by
  obtain ⟨i0, hi, hz, hz1, hz2⟩ := info_parts info_block
  have hbl : (bvs x).length = 1 * i0.size := by rw [bvs_len, hx, hz1]
  obtain ⟨o, cap, rfl, h2, h3, h4, h5⟩ := h.ex
  have hfit : ∀ y ∈ l ++ [x], y.length = 64 := fun y hy => by
    rcases List.mem_append.1 hy with q | q
    · exact h.fit y q
    · simp at q; subst q; exact hx
  have hfl := fl_len h.fit
  by_cases hlt : l.length < cap
  · have hr := run_append_room_cells (P := Try.prog) w 45 45 37 i0 Try.underlying45 hi b o l.length cap a 1 c (bvs x) hbl hn (bvs_one x) (by omega)
      (fun j hj => by rw [hz1]; exact (h5 j (by rw [bvs_len, hx] at hj; omega)).1) (fun j hj => by rw [hz1]; exact (h5 j (by rw [bvs_len, hx] at hj; omega)).2)
    rw [hz1] at hr
    refine ⟨b, _, _, hr, ⟨⟨o, cap, by simp, by simp; omega, h3, ?_, ?_⟩, by rw [size_setCells]; exact h.lt, hfit⟩, .inl rfl, set_mv b _ _⟩
    · rw [fl_app, fl_one, rangeAt_app, hfl]
      refine ⟨fun j u hu => ?_, World.rangeAt_setCells_same _ _ _ _ (by rw [bvs_len, hx]; exact fun j hj => h5 j (by omega))⟩
      rw [World.cell?_setCells_out b (bvs x) _ w ⟨b, o + j, none⟩ (fun _ _ => .inl (by have := (List.getElem?_eq_some_iff.1 hu).1; rw [hfl] at this; show o + j < o + l.length * 64; omega))]
      exact h4 j u hu
    · refine World.there_setCells (fun j hj => ?_) _ _ _
      have := h5 (64 + j) (by simp at hj; omega)
      rw [show o + (l ++ [x]).length * 64 + j = o + l.length * 64 + (64 + j) by simp; omega]
      exact this
  · have hcl : l.length = cap := by omega
    have hr := run_append_grow (P := Try.prog) w 45 45 37 i0 _ Try.underlying45 hi hz ⟨b, o, none⟩ l.length cap (fl l) (by rw [hfl, hz1]) (fun j u hu => by rw [addr_add]; exact h4 j u hu) a 1 c (bvs x) hbl hn (by omega) (by omega) (growslice_fits (by omega) (by rw [hz2]; omega))
    have hg := grownCap_ge w (l.length + 1) cap 37
    have hm := grownCap_le_maxLen w (l.length + 1) cap 37 (by unfold maxLen; omega)
    generalize grownCap w (l.length + 1) cap 37 = gc at hr hg hm
    have hb : Below w.heap.size w (w.drew.alloc (.cells ((fl l).toArray ++ (bvs x).toArray ++ Builtin.zeroCells (Value.agg Z64).cells (gc - (l.length + 1))) 37)) := ((Below.refl _ _).drew).alloc (Nat.le_refl _) _
    refine ⟨w.heap.size, _, _, hr, ⟨⟨0, gc, by simp, by simpa using hg, hm, ?_, ?_⟩, by simp, hfit⟩, .inr rfl, Mv.of_below hb _⟩
    · have h1 : (w.drew.alloc (.cells ((fl l).toArray ++ (bvs x).toArray ++ Builtin.zeroCells (Value.agg Z64).cells (gc - (l.length + 1))) 37)).rangeAt w.heap.size 0 (((fl l).toArray ++ (bvs x).toArray ++ Builtin.zeroCells (Value.agg Z64).cells (gc - (l.length + 1))).toList) := by
        have := (Lies.new w.drew ((fl l).toArray ++ (bvs x).toArray ++ Builtin.zeroCells (Value.agg Z64).cells (gc - (l.length + 1))).toList 37).rg
        rwa [Array.toArray_toList] at this
      intro j u hu
      refine h1 j u ?_
      rw [fl_app, fl_one] at hu
      rw [Array.toList_append, Array.toList_append, List.getElem?_append_left (by have := (List.getElem?_eq_some_iff.1 hu).1; simpa using this)]
      simpa using hu
    · have h1 : (w.drew.alloc (.cells ((fl l).toArray ++ (bvs x).toArray ++ Builtin.zeroCells (Value.agg Z64).cells (gc - (l.length + 1))) 37)).there w.heap.size 0 (((fl l).toArray ++ (bvs x).toArray ++ Builtin.zeroCells (Value.agg Z64).cells (gc - (l.length + 1))).toList.length) := by
        have := (Lies.new w.drew ((fl l).toArray ++ (bvs x).toArray ++ Builtin.zeroCells (Value.agg Z64).cells (gc - (l.length + 1))).toList 37).th
        rwa [Array.toArray_toList] at this
      have hzc : (Value.agg Z64).cells.size = 64 := by simp [Value.cells, Z64, bvs, Zb_len]
      have hlen2 : ((fl l).toArray ++ (bvs x).toArray ++ Builtin.zeroCells (Value.agg Z64).cells (gc - (l.length + 1))).toList.length = gc * 64 := by
        simp only [Array.toList_append, List.length_append, Array.length_toList, size_zeroCells, hzc, hfl, bvs_len, hx, List.size_toArray]
        omega
      intro j hj
      have := h1 ((l ++ [x]).length * 64 + j) (by rw [hlen2]; simp at hj ⊢; omega)
      rwa [Nat.zero_add] at this ⊢
end

def upd {α : Type} (f : Nat → α) (k : Nat) (x : α) : Nat → α := fun i => if i = k then x else f i
theorem upd_same {α : Type} (f : Nat → α) (k : Nat) (x : α) : upd f k x k = x := if_pos rfl
theorem upd_other {α : Type} (f : Nat → α) {k i : Nat} (x : α) (h : i ≠ k) : upd f k x i = f i := if_neg h
abbrev six6 (V : Nat → Value) : List Value := [V 0, V 1, V 2, V 3, V 4, V 5]
theorem six6_set (V : Nat → Value) {j : Nat} (hj : j < 6) (v : Value) : (six6 V).set j v = six6 (upd V j v) := by
  rcases (show j = 0 ∨ j = 1 ∨ j = 2 ∨ j = 3 ∨ j = 4 ∨ j = 5 by omega) with rfl | rfl | rfl | rfl | rfl | rfl <;> simp [upd]
theorem six6_at (V : Nat → Value) {j : Nat} (hj : j < 6) : (six6 V)[j]? = some (V j) := by
  rcases (show j = 0 ∨ j = 1 ∨ j = 2 ∨ j = 3 ∨ j = 4 ∨ j = 5 by omega) with rfl | rfl | rfl | rfl | rfl | rfl <;> rfl
/-- Six slices of blocks side by side, the first k of them known. -/
structure Si (k : Nat) (w : World) (Bs : Nat) (b : Nat → Nat) (V : Nat → Value) (L : Nat → List (List UInt8)) : Prop where
  blk : Lies w Bs 6 (six6 V)
  sv : ∀ i, i < k → Sv w (b i) (V i) (L i)
  inj : ∀ i j, i < k → j < k → i ≠ j → b i ≠ b j
  nB : ∀ i, i < k → b i ≠ Bs
/-- The blocks that they lie in. -/
def Ui (k Bs : Nat) (b : Nat → Nat) : Nat → Prop := fun x => x = Bs ∨ ∃ i, i < k ∧ x = b i
section
variable {k Bs : Nat} {w w' : World} {b : Nat → Nat} {V : Nat → Value} {L : Nat → List (List UInt8)}
theorem Si.lt (h : Si k w Bs b V L) {x : Nat} (hx : Ui k Bs b x) : x < w.heap.size := by
  rcases hx with rfl | ⟨i, hi, rfl⟩
  · exact h.blk.lt
  · exact (h.sv i hi).lt
theorem Lies.kp {x n : Nat} {l : List Value} (h : Lies w x n l) (hk : w'.heap[x]? = w.heap[x]?) (hz : w.heap.size ≤ w'.heap.size) : Lies w' x n l :=
  ⟨rangeAt_keep h.rg hk, there_keep h.th hk, Nat.lt_of_lt_of_le h.lt hz, h.len⟩
theorem Si.kp (h : Si k w Bs b V L) (hk : ∀ x, Ui k Bs b x → w'.heap[x]? = w.heap[x]?) (hz : w.heap.size ≤ w'.heap.size) : Si k w' Bs b V L :=
  ⟨h.blk.kp (hk Bs (.inl rfl)) hz, fun i hi => (h.sv i hi).kp (hk _ (.inr ⟨i, hi, rfl⟩)) hz, h.inj, h.nB⟩
theorem Si.below (h : Si k w Bs b V L) (hb : Below w.heap.size w w') : Si k w' Bs b V L := h.kp (fun x hx => hb.block x (h.lt hx)) hb.size
theorem Si.mv {S : Nat → Prop} (h : Si k w Bs b V L) (hm : Mv S w w') (hn : ∀ x, Ui k Bs b x → ¬ S x) : Si k w' Bs b V L := h.kp (fun x hx => hm.block x (h.lt hx) (hn x hx)) hm.size
/-- Number j is laid anew. -/
theorem Si.put {k' j bj : Nat} {v : Value} {l : List (List UInt8)} (hj : j < 6) (hB : Lies w Bs 6 (six6 V)) (hsv : ∀ i, i < k' → i ≠ j → Sv w (b i) (V i) (L i)) (hinj : ∀ i i', i < k' → i' < k' → i ≠ j → i' ≠ j → i ≠ i' → b i ≠ b i') (hnB : ∀ i, i < k' → i ≠ j → b i ≠ Bs)
    (hs : Sv w bj v l) (hbj : bj ≠ Bs) (hne : ∀ i, i < k' → i ≠ j → b i ≠ bj) : Si k' (w.setCell ⟨Bs, j, none⟩ v) Bs (upd b j bj) (upd V j v) (upd L j l) := by
  have hkp : ∀ x, x ≠ Bs → (w.setCell ⟨Bs, j, none⟩ v).heap[x]? = w.heap[x]? := fun x hx => Below.heap_setCell w _ v x hx
  have hz : w.heap.size ≤ (w.setCell ⟨Bs, j, none⟩ v).heap.size := by simp [World.setCell]
  refine ⟨?_, fun i hi => ?_, fun i i' hi hi' hn => ?_, fun i hi => ?_⟩
  · rw [← six6_set V hj v]; exact hB.fld hj v
  · by_cases e : i = j
    · subst e; rw [upd_same, upd_same, upd_same]; exact hs.kp (hkp _ hbj) hz
    · rw [upd_other _ _ e, upd_other _ _ e, upd_other _ _ e]; exact (hsv i hi e).kp (hkp _ (hnB i hi e)) hz
  · by_cases e : i = j
    · subst e; rw [upd_same, upd_other _ _ (Ne.symm hn)]; exact fun q => hne i' hi' (Ne.symm hn) q.symm
    · by_cases e' : i' = j
      · subst e'; rw [upd_same, upd_other _ _ e]; exact hne i hi e
      · rw [upd_other _ _ e, upd_other _ _ e']; exact hinj i i' hi hi' e e' hn
  · by_cases e : i = j
    · subst e; rw [upd_same]; exact hbj
    · rw [upd_other _ _ e]; exact hnB i hi e
end
/-- One of six slices. -/
theorem index_six (V : Nat → Value) (hV : ∀ i, i < 6 → ∃ a n c, V i = .slice a n c) {k : Nat} (hk : k < 6) (w : World) :
    (Instr.index 46 (.agg (six6 V).toArray) (.int .i64 (k : Int))).run Try.prog w = .ok (V k) w := by
  have hx : (six6 V).toArray[k]? = some (V k) := by simpa using six6_at V hk
  have hsz : ∀ w, (sizeOf 45).run Try.prog w = .ok 1 w := fun w => by kernel_rfl
  obtain ⟨a, n, c, hv⟩ := hV k hk
  simp only [Instr.index, asIntOf, Sem.run_bind, Sem.run_pure, Result.andThen_ok, run_underlying Try.underlying46, hsz]
  rw [if_pos ⟨by omega, by omega⟩]
  simp only [Sem.run_bind, hsz, Result.andThen_ok, Int.toNat_natCast, Nat.mul_one]
  simp only [part, isAgg, Sem.run_bind, run_underlying Try.underlying45, Result.andThen_ok, Sem.run_pure, Bool.false_eq_true, if_false, hx]

set_option maxRecDepth 100000 in
set_option maxHeartbeats 1600000 in
theorem index_blocks {w : World} {b : Nat} {v : Value} {l : List (List UInt8)} (h : Sv w b v l) (hmax : l.length ≤ 1000000) {x : List UInt8} (hx : x.length = 64) :
    Calls Try.prog 39 #[v, .agg (bvs x).toArray] w fun e w' => (∃ r : Int, e = .returned (.int .i64 r) ∧ decide (0 ≤ r) = l.contains x) ∧ Below w.heap.size w w' := by
  obtain ⟨o, c, rfl, hlc, hcm, hrg, _⟩ := h.ex
  obtain ⟨n, hn⟩ : ∃ n, l.length = n := ⟨_, rfl⟩
  rw [hn] at hlc hmax ⊢
  have HN := Lib.hid hn
  have HL := Lib.hid hx
  have hmx : (n : Int) ≤ 1000000 := by omega
  obtain ⟨w1, hw1⟩ : ∃ w1, w1 = w.alloc (.cells (bvs x).toArray 37) := ⟨_, rfl⟩
  have HB1 := Lib.hid (show Below w.heap.size w w1 by rw [hw1]; exact (Below.refl _ _).alloc (Nat.le_refl _) _)
  have HX := Lib.hid (show Lies w1 w.heap.size 64 (bvs x) by rw [hw1]; have := Lies.new w (bvs x) 37; rwa [bvs_len, hx] at this)
  have HR := Lib.hid hrg
  have HBL := Lib.hid h.lt
  have HF := Lib.hid h.fit
  have HW1 := Lib.hid hw1
  clear h hx hrg hn hw1 hcm
  go_enter Try.func39, Try.ntmps39
  go_wp2_with fail
  rw [← HW1.out]
  go_loopw [8] (fun i wr => ∃ k : Nat, k ≤ n ∧ i = .int .i64 (k : Int) ∧ Hid (Below w1.heap.size w1 wr) ∧ Hid (∀ j, j < k → ∀ y, l[j]? = some y → y ≠ x)) (fun i _ => n - (intOf i).toNat)
  case atStart => exact ⟨0, Nat.zero_le _, rfl, Lib.hid (Below.refl _ _), Lib.hid (fun j hj => absurd hj (Nat.not_lt_zero j))⟩
  case round =>
    obtain ⟨k, hk, rfl, hB, hno⟩ := hrel
    by_cases hlt : k < n
    · have hd : decide ((k : Int) < (n : Int)) = true := by simp; omega
      have hk0 : (0 : Int) ≤ (k : Int) := Int.natCast_nonneg _
      have hk1 : (k : Int) < (n : Int) := by omega
      obtain ⟨y, hy⟩ : ∃ y, l[k]? = some y := ⟨_, List.getElem?_eq_getElem (by rw [HN.out]; exact hlt)⟩
      have HYL := Lib.hid (HF.out y (List.mem_of_getElem? hy))
      have HY := Lib.hid (fun (w' : World) (hb : Below w1.heap.size w1 w') => show w'.rangeAt b (o + k * 64) (bvs y) from rangeAt_keep (fl_at l o HR.out HF.out k y hy) ((HB1.out.trans (hb.mono HB1.out.size)).block b HBL.out))
      have HYK := Lib.hid hy
      have hE := fun w => run_eql_blocks x y HL.out HYL.out w
      obtain ⟨q, hq⟩ : ∃ q, (x == y) = q := ⟨_, rfl⟩
      rw [hq] at hE
      have HQ := Lib.hid hq
      have hB' := Lib.hid (hB.out.drew)
      have HB := hB'
      clear hy hq hB'
      go_upto_region 4 with fail
      refine wp_region_noPanic ?_
      refine wp_region_held_drew (S := fun w' => w'.rangeAt w.heap.size 0 (bvs x) ∧ w'.rangeAt b (o + k * 64) (bvs y)) (by kernel_rfl) ⟨(HX.out.below HB.out HX.out.lt).rg, HY.out _ HB.out⟩ (fun _ => ?_)
      refine wpAnyH_take (i := 0) rfl (by kernel_rfl) (by kernel_rfl) (by kernel_rfl) (fun _ _ _ h => h) (yieldsIf_load_mid rfl 37 _ rfl (w.heap.size) (0) rfl (bvs x) _ (fun w' hw' => hw'.1) Try.underlying37 rfl (size_of HL.out)) ⟨(HX.out.below HB.out HX.out.lt).rg, HY.out _ HB.out⟩ ?_
      simp only [List.getElem_toArray, List.getElem_cons_zero, List.getElem_cons_succ, Act.put, List.setIfInBounds_toArray, List.set_cons_succ, List.set_cons_zero]
      refine wpAnyH_take (i := 1) rfl (by kernel_rfl) (by kernel_rfl) (by kernel_rfl) (fun _ _ _ h => h) (.inl ⟨rfl, fun w' hw' => (by clear hw'; go_simp; rfl)⟩) ⟨(HX.out.below HB.out HX.out.lt).rg, HY.out _ HB.out⟩ ?_
      simp only [List.getElem_toArray, List.getElem_cons_zero, List.getElem_cons_succ, Act.put, List.setIfInBounds_toArray, List.set_cons_succ, List.set_cons_zero]
      refine wpAnyH_take (i := 2) rfl (by kernel_rfl) (by kernel_rfl) (by kernel_rfl) (fun _ _ _ h => h) (.inl ⟨rfl, fun w' hw' => (by clear hw'; go_simp; rfl)⟩) ⟨(HX.out.below HB.out HX.out.lt).rg, HY.out _ HB.out⟩ ?_
      simp only [List.getElem_toArray, List.getElem_cons_zero, List.getElem_cons_succ, Act.put, List.setIfInBounds_toArray, List.set_cons_succ, List.set_cons_zero]
      refine wpAnyH_take (i := 3) rfl (by kernel_rfl) (by kernel_rfl) (by kernel_rfl) (fun _ _ _ h => h) (.inl ⟨rfl, fun w' hw' => (by clear hw'; go_simp; rfl)⟩) ⟨(HX.out.below HB.out HX.out.lt).rg, HY.out _ HB.out⟩ ?_
      simp only [List.getElem_toArray, List.getElem_cons_zero, List.getElem_cons_succ, Act.put, List.setIfInBounds_toArray, List.set_cons_succ, List.set_cons_zero]
      refine wpAnyH_take (i := 4) rfl (by kernel_rfl) (by kernel_rfl) (by kernel_rfl) (fun _ _ _ h => h) (yieldsIf_load_mid rfl 37 _ rfl (b) (o + k * 64) rfl (bvs y) _ (fun w' hw' => hw'.2) Try.underlying37 rfl (size_of HYL.out)) ⟨(HX.out.below HB.out HX.out.lt).rg, HY.out _ HB.out⟩ ?_
      simp only [List.getElem_toArray, List.getElem_cons_zero, List.getElem_cons_succ, Act.put, List.setIfInBounds_toArray, List.set_cons_succ, List.set_cons_zero]
      refine wpAnyH_take (i := 5) rfl (by kernel_rfl) (by kernel_rfl) (by kernel_rfl) (fun _ _ _ h => h) (.inl ⟨rfl, fun w' hw' => (by clear hw'; go_simp; rfl)⟩) ⟨(HX.out.below HB.out HX.out.lt).rg, HY.out _ HB.out⟩ ?_
      simp only [List.getElem_toArray, List.getElem_cons_zero, List.getElem_cons_succ, Act.put, List.setIfInBounds_toArray, List.set_cons_succ, List.set_cons_zero]
      refine wpAnyH_done (by kernel_rfl) ?_ _
      refine NoPanic.normal ?_
      cases q with
      | true =>
        go_wp2
        go_ret
        refine ⟨⟨(k : Int), rfl, ?_⟩, (HB1.out.trans (HB.out.mono HB1.out.size))⟩
        have e : x = y := by simpa using HQ.out
        subst e
        rw [List.contains_iff_mem.2 (List.mem_of_getElem? HYK.out)]
        simp
      | false =>
        go_wp2
        go_roundw
        case rel =>
          refine ⟨k + 1, by omega, by go_num, HB, Lib.hid fun j hj z hz => ?_⟩
          by_cases e : j = k
          · subst e
            rw [HYK.out] at hz
            injection hz with hz
            subst hz
            intro e
            have := HQ.out
            rw [e] at this
            simp at this
          · exact hno.out j (by omega) z hz
        case measure => simp [intOf]; omega
    · have hd : decide ((k : Int) < (n : Int)) = false := by simp; omega
      have HNO := hno
      have HB := hB
      clear hno hB
      go_wp2
      go_ret
      refine ⟨⟨-1, rfl, ?_⟩, (HB1.out.trans (HB.out.mono HB1.out.size))⟩
      have : ¬ x ∈ l := fun hm => by
        obtain ⟨j, hj, e⟩ := List.getElem_of_mem hm
        have hjn : j < k := by have := HN.out; omega
        exact HNO.out j hjn x (by rw [List.getElem?_eq_getElem hj, e]) rfl
      have h2 : l.contains x = false := by simpa using this
      rw [h2]
      rfl

set_option maxRecDepth 100000 in
set_option maxHeartbeats 1600000 in
theorem contains_any {w : World} {b : Nat} {v : Value} {l : List (List UInt8)} (h : Sv w b v l) (hmax : l.length ≤ 1000000) {x : List UInt8} (hx : x.length = 64) :
    Calls Try.prog 19 #[v, .agg (bvs x).toArray] w fun e w' => e = .returned (.bool (l.contains x)) ∧ Below w.heap.size w w' := by
  obtain ⟨w1, hw1⟩ : ∃ w1, w1 = w.alloc (.cells (bvs x).toArray 37) := ⟨_, rfl⟩
  have hb1 : Below w.heap.size w w1 := by rw [hw1]; exact (Below.refl _ _).alloc (Nat.le_refl _) _
  have HX := Lib.hid (show Lies w1 w.heap.size 64 (bvs x) by rw [hw1]; have := Lies.new w (bvs x) 37; rwa [bvs_len, hx] at this)
  have HIX := Lib.hid (index_blocks (h.below hb1) hmax hx)
  have HB1 := Lib.hid hb1
  have HW1 := Lib.hid hw1
  have HL := Lib.hid hx
  obtain ⟨q, hq⟩ : ∃ q, l.contains x = q := ⟨_, rfl⟩
  rw [hq] at HIX ⊢
  clear hq h hx hb1 hw1
  go_enter Try.func19, Try.ntmps19
  go_upto_region 1 with fail
  rw [← HW1.out]
  go_wp2_with (first
    | (with_reducible refine ld_block rfl (.tmp 3) rfl w.heap.size 0 x HL rfl HX.out.rg ?_))
  refine (HIX.out).mono ?_
  rintro e w2 ⟨⟨r, rfl, hr⟩, hb2⟩
  have HB2 := Lib.hid (HB1.out.trans (hb2.mono HB1.out.size))
  have HRQ := Lib.hid hr
  clear hr hb2
  go_wp2_with fail
  go_ret
  exact ⟨by first | rfl | (rw [HRQ.out]; rfl), HB2.out⟩
end Go.Proofs.Ytionbjocfepkaaa
namespace Go.Proofs.Ytionbjocfepkaaa
set_option linter.unusedVariables false
set_option linter.unusedSimpArgs false
open Go.RowKit Go.WideShapes Go.ChangeShapes Go.Deep

/-- All that a sector held since the last sync, the safe block first. -/
def LQ (M : Mo) (i : Nat) : List (List UInt8) := M.safe.getD i [] :: waitsOf M.wt i
theorem safe_fit {M : Mo} (h : M.Ok) {i : Nat} (hi : i < M.safe.length) : (M.safe.getD i []).length = 64 := by
  rw [List.getD_eq_getElem?_getD, List.getElem?_eq_getElem hi]
  exact h.len _ (List.getElem_mem _)
theorem LQ_len (M : Mo) (i : Nat) : (LQ M i).length ≤ M.wt.length + 1 := by
  have := waitsOf_len M.wt i
  simp [LQ]
  omega
theorem LQ_last (M : Mo) (i : Nat) : (LQ M i).getLast? = some (M.hold i) := by
  unfold LQ Mo.hold holdsOf
  cases h : waitsOf M.wt i with
  | nil => simp
  | cons y l => rw [List.getLast?_cons_cons, List.getLast?_eq_some_getLast (by simp)]; rfl
theorem LQ_new {i : Nat} (hi : i < 6) : LQ (Mo.new 6) i = [Zb] := by
  unfold LQ Mo.new
  have h : (List.replicate 6 Zb).getD i [] = Zb := by rw [List.getD_eq_getElem?_getD, List.getElem?_replicate, if_pos hi]; rfl
  show (List.replicate 6 Zb).getD i [] :: waitsOf [] i = [Zb]
  rw [h, waitsOf_nil]
theorem settle_in (lv : Nat → Bool) : ∀ (wt : List (Nat × List UInt8)) (k : Nat) (safe : List (List UInt8)) (i : Nat), (∀ p ∈ wt, p.1 < safe.length) → (settleL lv wt k safe).getD i [] ∈ safe.getD i [] :: waitsOf wt i
  | [], _, _, _, _ => by simp [settleL]
  | p :: r, k, safe, i, hp => by
    obtain ⟨n, x⟩ := p
    rw [settleL]
    have h0 := hp (n, x) (by simp)
    by_cases hl : lv k = true
    · rw [if_pos hl]
      have ih := settle_in lv r (k + 1) (safe.set n x) i (fun q hq => by rw [List.length_set]; exact hp q (by simp [hq]))
      by_cases e : n = i
      · subst e
        rw [waitsOf_cons_same]
        have hs : (safe.set n x).getD n [] = x := by rw [List.getD_eq_getElem?_getD, List.getElem?_set_self h0]; rfl
        rw [hs] at ih
        exact List.mem_cons_of_mem _ ih
      · rw [waitsOf_cons_other e]
        have hs : (safe.set n x).getD i [] = safe.getD i [] := by rw [List.getD_eq_getElem?_getD, List.getD_eq_getElem?_getD, List.getElem?_set_ne e]
        rw [hs] at ih
        exact ih
    · rw [if_neg hl]
      have ih := settle_in lv r (k + 1) safe i (fun q hq => hp q (by simp [hq]))
      by_cases e : n = i
      · subst e
        rw [waitsOf_cons_same]
        rcases List.mem_cons.1 ih with q | q
        · rw [q]; simp
        · exact List.mem_cons_of_mem _ (List.mem_cons_of_mem _ q)
      · rw [waitsOf_cons_other e]
        exact ih
theorem crash_in {M : Mo} (h : M.Ok) (lv : Nat → Bool) (i : Nat) : (M.crash lv).hold i ∈ LQ M i := settle_in lv M.wt 0 M.safe i fun p hp => (h.wt p hp).1
theorem crash_all {M : Mo} (h : M.Ok) (lv : Nat → Bool) (hl : ∀ j, j < M.wt.length → lv j = true) (i : Nat) : (M.crash lv).hold i = M.hold i :=
  settle_all lv M.wt 0 M.safe i (fun p hp => (h.wt p hp).1) fun j hj => by rw [Nat.zero_add]; exact hl j hj
theorem crash_none (M : Mo) (lv : Nat → Bool) (hl : ∀ j, j < M.wt.length → lv j = false) (i : Nat) : (M.crash lv).hold i = M.safe.getD i [] := by
  show (settleL lv M.wt 0 M.safe).getD i [] = _
  rw [settle_none lv M.wt 0 M.safe fun j hj => by rw [Nat.zero_add]; exact hl j hj]
section
variable {M : Mo} {kind n : Int} {b : UInt8} {ks : List Bool}
/-- What an act does to a disk with power: none, or as it says. -/
theorem bare_ok (h : M.Bare) (hk : whichI kind ≤ 3) (ht : thB M.safe.length kind n = true) : (M.act kind n b ks).2.2 = 0 := by
  obtain ⟨h1, h2, h3⟩ := h
  rcases kinds hk with e | e | e
  · rw [thB_0 (by omega)] at ht
    rw [act_0 e]
    simp [Mo.read, h1, h3, ht, dueB, nope]
  · rw [thB_0 (by omega)] at ht
    rw [act_12 e]
    simp [Mo.write, Mo.alter, h1, h2, h3, ht, dueB, nope]
  · rw [act_3 e]
    simp [Mo.sync, Mo.alter, h1, h2, h3, dueB, nope]
theorem lq_read (h : M.Bare) (hk : whichI kind = 0) : LQ (M.act kind n b ks).1 = LQ M := by
  obtain ⟨_, h2, h3, _⟩ := act_read h.plain (n := n) b ks hk
  unfold LQ
  rw [h2, h3]
theorem lq_write (h : M.Bare) (hk : whichI kind = 1 ∨ whichI kind = 2) (ht : thB M.safe.length kind n = true) : LQ (M.act kind n b ks).1 = upd (LQ M) n.toNat (LQ M n.toNat ++ [actB b]) := by
  rw [thB_0 (by omega)] at ht
  obtain ⟨_, h2, h3, _⟩ := act_write h.plain b ks hk ht
  funext i
  unfold LQ
  rw [h2, h3]
  by_cases e : i = n.toNat
  · subst e
    rw [upd_same, waitsOf_snoc_same]
    rfl
  · rw [upd_other _ _ e, waitsOf_snoc_other (Ne.symm e)]
theorem lq_sync (h : M.Bare) (hok : M.Ok) (hk : whichI kind = 3) (i : Nat) (hi : i < M.safe.length) : LQ (M.act kind n b ks).1 i = [M.hold i] := by
  obtain ⟨_, h2, h3, _, h5⟩ := act_sync h.plain hok (n := n) b ks hk
  have h6 := h5 i
  unfold Mo.hld at h6
  rw [h2, if_pos hi, if_pos hi] at h6
  unfold LQ
  rw [h3, waitsOf_nil]
  unfold Mo.hold holdsOf at h6
  rw [h3, waitsOf_nil] at h6
  simp only [List.getLast?_nil, Option.getD_none] at h6
  rw [h6]
  rfl
end

/-- While the disk is used: it, and what was laid by for each sector. -/
structure Us (W : World) (g Bs k : Nat) (S : Nat → Prop) (M : Mo) (b : Nat → Nat) (V : Nat → Value) (L : Nat → List (List UInt8)) (w : World) : Prop where
  live : Live W w g S M
  bare : M.Bare
  six : M.safe.length = 6
  ops : M.ops ≤ k
  cnt : (M.wt.length : Int) ≤ k
  si : Si 6 w Bs b V L
  off : ∀ x, Ui 6 Bs b x → ¬ S x ∧ W.heap.size ≤ x
section
variable {W w w' : World} {g Bs k : Nat} {S S' : Nat → Prop} {M M' : Mo} {b b' : Nat → Nat} {V V' : Nat → Value} {L L' : Nat → List (List UInt8)}
theorem Us.below (h : Us W g Bs k S M b V L w) (hb : Below w.heap.size w w') : Us W g Bs k S M b V L w' := ⟨h.live.below hb, h.bare, h.six, h.ops, h.cnt, h.si.below hb, h.off⟩
theorem Si.congr {n : Nat} (h : Si n w Bs b V L) (hl : ∀ i, i < n → L i = L' i) : Si n w Bs b V L' := ⟨h.blk, fun i hi => hl i hi ▸ h.sv i hi, h.inj, h.nB⟩
theorem Us.congr (h : Us W g Bs k S M b V L w) (hl : ∀ i, i < 6 → L i = L' i) : Us W g Bs k S M b V L' w := ⟨h.live, h.bare, h.six, h.ops, h.cnt, h.si.congr hl, h.off⟩
theorem Us.step {kind n : Int} {by_ : UInt8} {ks : List Bool} (h : Us W g Bs k S M b V L w) (hk : whichI kind ≤ 3) (hd : Dk w' g S' (M.act kind n by_ ks).1) (hm : Mv S w w') (hg : Grow S S' w) : Us W g Bs (k + 1) S' (M.act kind n by_ ks).1 b V L w' := by
  obtain ⟨a1, a2, a3, a4, a5⟩ := h.bare.act (i := n) (b := by_) (ks := ks) hk
  have h1 := h.ops
  have h2 := h.cnt
  refine ⟨h.live.step hd hm hg, a1, a2.trans h.six, by omega, by omega, h.si.mv hm fun x hx => (h.off x hx).1, fun x hx => ⟨fun hS => ?_, (h.off x hx).2⟩⟩
  rcases hg x hS with q | q
  · exact (h.off x hx).1 q
  · have := h.si.lt hx; omega
/-- Something else than the disk turns. -/
theorem Us.apart {T : Nat → Prop} (h : Us W g Bs k S M b V L w) (hm : Mv T w w') (hT : ∀ x, T x → W.heap.size ≤ x ∧ ¬ S x) (hs : Si 6 w' Bs b' V' L') (hoff : ∀ x, Ui 6 Bs b' x → ¬ S x ∧ W.heap.size ≤ x) : Us W g Bs k S M b' V' L' w' :=
  ⟨h.live.apart hm (fun x hx ht => (hT x ht).2 hx) fun x hx => (hT x hx).1, h.bare, h.six, h.ops, h.cnt, hs, hoff⟩
theorem Us.weak (h : Us W g Bs k S M b V L w) : Us W g Bs (k + 1) S M b V L w := ⟨h.live, h.bare, h.six, by have := h.ops; omega, by have := h.cnt; omega, h.si, h.off⟩
/-- Number j's slice is laid anew, out of the same block. -/
theorem Us.cut (h : Us W g Bs k S M b V L w) {j : Nat} (hj : j < 6) {v : Value} {l : List (List UInt8)} (hs : Sv w (b j) v l) : Us W g Bs k S M b (upd V j v) (upd L j l) (w.setCell ⟨Bs, j, none⟩ v) := by
  have hB := h.off Bs (.inl rfl)
  have hb : upd b j (b j) = b := by
    funext i
    unfold upd
    by_cases e : i = j
    · rw [if_pos e, e]
    · rw [if_neg e]
  refine h.apart (T := fun x => x = Bs) (set_mv Bs j [v]) (fun x hx => by subst hx; exact ⟨hB.2, hB.1⟩) ?_ h.off
  have := Si.put (k' := 6) hj h.si.blk (fun i hi _ => h.si.sv i hi) (fun i i' hi hi' _ _ hn => h.si.inj i i' hi hi' hn) (fun i hi _ => h.si.nB i hi) hs (h.si.nB j hj) (fun i hi hn => h.si.inj i j hi hj hn)
  rwa [hb] at this
/-- Something was appended to number j. -/
theorem Us.app {w2 : World} (h : Us W g Bs k S M b V L w) (hb : Below w.heap.size w w2) {j : Nat} (hj : j < 6) {bj : Nat} {v : Value} {l : List (List UInt8)} (hs : Sv w' bj v l) (hbj : bj = b j ∨ bj = w2.heap.size) (hm : Mv (fun x => x = b j) w2 w') : Us W g Bs k S M (upd b j bj) (upd V j v) (upd L j l) (w'.setCell ⟨Bs, j, none⟩ v) := by
  have h2 := h.below hb
  have hB := h.off Bs (.inl rfl)
  have hbJ := h.off (b j) (.inr ⟨j, hj, rfl⟩)
  have hne : ∀ i, i < 6 → i ≠ j → b i ≠ bj := fun i hi hn => by
    rcases hbj with e | e
    · rw [e]; exact h.si.inj i j hi hj hn
    · have := (h2.si.sv i hi).lt; omega
  have hnB : bj ≠ Bs := by
    rcases hbj with e | e
    · rw [e]; exact h.si.nB j hj
    · have := h2.si.blk.lt; omega
  refine h2.apart (T := fun x => x = b j ∨ x = Bs) ((hm.mono fun x hx => .inl (.inl hx)).then (set_mv Bs j [v]) fun x hx => .inl (.inr hx)) (fun x hx => hx.elim (fun e => e ▸ ⟨hbJ.2, hbJ.1⟩) fun e => e ▸ ⟨hB.2, hB.1⟩) ?_ ?_
  · refine Si.put (k' := 6) hj (h2.si.blk.kp (hm.block Bs h2.si.blk.lt fun e => h.si.nB j hj e.symm) hm.size) (fun i hi hn => (h2.si.sv i hi).kp (hm.block _ (h2.si.sv i hi).lt fun e => h.si.inj i j hi hj hn e) hm.size) (fun i i' hi hi' _ _ hn => h.si.inj i i' hi hi' hn) (fun i hi _ => h.si.nB i hi) hs hnB hne
  · intro x hx
    rcases hx with rfl | ⟨i, hi, rfl⟩
    · exact hB
    · by_cases e : i = j
      · subst e
        rw [upd_same]
        rcases hbj with e | e
        · rw [e]; exact hbJ
        · rw [e]; exact ⟨fun hS => by have := h2.live.1.lt _ hS; omega, h2.live.2.2.size⟩
      · rw [upd_other _ _ e]; exact h.off (b i) (.inr ⟨i, hi, rfl⟩)
end
/-- The append of one block, in a walk. -/
theorem wp_append_sv {w : World} {b : Nat} {o : Oper} {act : Act} {K : Act → World → Prop} {Q : Exit → Act → World → Prop} (s y : Operand)
    (ho : o.op = .call { callee := .builtin .append, args := #[s, y], argTypes := #[45, 45] }) (hty : o.type = 45)
    (v : Value) (l : List (List UInt8)) (hs : act.eval s = v) (hw : Sv w b v l) (a : Addr) (c : Nat) (x : List UInt8) (hy : act.eval y = .slice (some a) 1 c) (hx : x.length = 64) (hn : ∀ j u, (bvs x)[j]? = some u → w.cell? (a.add j) = some u) (hlen : l.length ≤ 1000000000)
    (h : ∀ b' v' w', Sv w' b' v' (l ++ [x]) → (b' = b ∨ b' = w.heap.size) → Mv (fun k => k = b) w w' → K (act.put o.dst v') w') : Oper.wp Try.prog o act w K Q := by
  obtain ⟨b', v', w', hr, h1, h2, h3⟩ := hw.append a c x hx hn hlen
  unfold Oper.wp execOp
  simp only [ho, hty, resolve, invoke, builtin, Sem.run_bind, Sem.run_pure, Result.andThen_ok, List.map_toArray, List.map_cons, List.map_nil, hs, hy, hr]
  exact h b' v' w' h1 h2 h3

/-- Three disks that have to do with one another no more; what is of U none of them touches. -/
structure Th (W : World) (U : Nat → Prop) (w : World) (g0 : Nat) (S0 : Nat → Prop) (M0 : Mo) (g1 : Nat) (S1 : Nat → Prop) (M1 : Mo) (g2 : Nat) (S2 : Nat → Prop) (M2 : Mo) : Prop where
  a : Live W w g0 S0 M0
  b : Live W w g1 S1 M1
  c : Live W w g2 S2 M2
  ab : ∀ x, S0 x → ¬ S1 x
  ac : ∀ x, S0 x → ¬ S2 x
  bc : ∀ x, S1 x → ¬ S2 x
  u : ∀ x, U x → x < w.heap.size ∧ ¬ S0 x ∧ ¬ S1 x ∧ ¬ S2 x
/-- The blocks of U are as they were. -/
structure Kp (U : Nat → Prop) (w w' : World) : Prop where
  block : ∀ x, U x → w'.heap[x]? = w.heap[x]?
  size : w.heap.size ≤ w'.heap.size
section
variable {W w w' : World} {U : Nat → Prop} {g0 g1 g2 : Nat} {S0 S1 S2 S' : Nat → Prop} {M0 M1 M2 M' : Mo}
theorem Th.below (t : Th W U w g0 S0 M0 g1 S1 M1 g2 S2 M2) (hb : Below w.heap.size w w') : Th W U w' g0 S0 M0 g1 S1 M1 g2 S2 M2 ∧ Kp U w w' :=
  ⟨⟨t.a.below hb, t.b.below hb, t.c.below hb, t.ab, t.ac, t.bc, fun x hx => ⟨Nat.lt_of_lt_of_le (t.u x hx).1 hb.size, (t.u x hx).2⟩⟩, ⟨fun x hx => hb.block x (t.u x hx).1, hb.size⟩⟩
theorem Th.turn (t : Th W U w g0 S0 M0 g1 S1 M1 g2 S2 M2) : Th W U w g1 S1 M1 g2 S2 M2 g0 S0 M0 := ⟨t.b, t.c, t.a, t.bc, fun x h1 h0 => t.ab x h0 h1, fun x h2 h0 => t.ac x h0 h2, fun x hx => ⟨(t.u x hx).1, (t.u x hx).2.2.1, (t.u x hx).2.2.2, (t.u x hx).2.1⟩⟩
theorem Th.step (t : Th W U w g0 S0 M0 g1 S1 M1 g2 S2 M2) (hd : Dk w' g0 S' M') (hm : Mv S0 w w') (hg : Grow S0 S' w) : Th W U w' g0 S' M' g1 S1 M1 g2 S2 M2 ∧ Kp U w w' := by
  have n1 : ∀ x, S' x → ¬ S1 x := fun x hx h1 => (hg x hx).elim (fun q => t.ab x q h1) fun q => by have := t.b.1.lt x h1; omega
  have n2 : ∀ x, S' x → ¬ S2 x := fun x hx h1 => (hg x hx).elim (fun q => t.ac x q h1) fun q => by have := t.c.1.lt x h1; omega
  refine ⟨⟨t.a.step hd hm hg, t.b.apart hm (fun x h1 h0 => t.ab x h0 h1) t.a.2.1, t.c.apart hm (fun x h1 h0 => t.ac x h0 h1) t.a.2.1, n1, n2, t.bc, fun x hx => ⟨Nat.lt_of_lt_of_le (t.u x hx).1 hm.size, fun hS => ?_, (t.u x hx).2.2⟩⟩, ⟨fun x hx => hm.block x (t.u x hx).1 (t.u x hx).2.1, hm.size⟩⟩
  rcases hg x hS with q | q
  · exact (t.u x hx).2.1 q
  · have := (t.u x hx).1; omega
theorem Th.start {w1 w2 : World} {g S M h1 T1 h2 T2} (l : Live W w g S M) (hU : ∀ x, U x → x < w.heap.size ∧ ¬ S x) (d1 : Dk w1 h1 T1 M) (s1 : ∀ x, T1 x → w.heap.size ≤ x) (b1 : Below w.heap.size w w1) (d2 : Dk w2 h2 T2 M) (s2 : ∀ x, T2 x → w1.heap.size ≤ x) (b2 : Below w1.heap.size w1 w2) :
    Th W U w2 g S M h1 T1 M h2 T2 M ∧ Kp U w w2 := by
  have z := l.2.2.size
  have z1 := b1.size
  have b12 := b1.trans (b2.mono b1.size)
  refine ⟨⟨l.below b12, ⟨d1.below b2, fun x hx => by have := s1 x hx; omega, l.2.2.trans (b12.mono z)⟩, ⟨d2, fun x hx => by have := s2 x hx; omega, l.2.2.trans (b12.mono z)⟩, fun x h0 h1 => by have := l.1.lt x h0; have := s1 x h1; omega, fun x h0 h1 => by have := l.1.lt x h0; have := s2 x h1; omega, fun x h0 h1 => by have := d1.lt x h0; have := s2 x h1; omega, fun x hx => ?_⟩, ⟨fun x hx => b12.block x (hU x hx).1, b12.size⟩⟩
  have hx1 := (hU x hx).1
  exact ⟨by have := b12.size; omega, (hU x hx).2, fun h => by have := s1 x h; omega, fun h => by have := s2 x h; omega⟩
/-- One block more that is let alone. -/
theorem Th.more (t : Th W U w g0 S0 M0 g1 S1 M1 g2 S2 M2) {y : Nat} (h1 : y < w.heap.size) (h0 : ¬ S0 y ∧ ¬ S1 y ∧ ¬ S2 y) : Th W (fun x => U x ∨ x = y) w g0 S0 M0 g1 S1 M1 g2 S2 M2 :=
  ⟨t.a, t.b, t.c, t.ab, t.ac, t.bc, fun x hx => hx.elim (t.u x) fun e => by subst e; exact ⟨h1, h0⟩⟩
/-- A new variable, filled. -/
theorem Th.fresh (t : Th W U w g0 S0 M0 g1 S1 M1 g2 S2 M2) {y : Nat} (hy : w.heap.size ≤ y) (hb : Below w.heap.size w w') (hl : y < w'.heap.size) : Th W (fun x => U x ∨ x = y) w' g0 S0 M0 g1 S1 M1 g2 S2 M2 ∧ Kp U w w' := by
  obtain ⟨t2, k⟩ := t.below hb
  exact ⟨t2.more hl ⟨fun h => by have := t.a.1.lt _ h; omega, fun h => by have := t.b.1.lt _ h; omega, fun h => by have := t.c.1.lt _ h; omega⟩, k⟩
theorem Kp.left {U' : Nat → Prop} (k : Kp (fun x => U x ∨ U' x) w w') : Kp U w w' := ⟨fun x hx => k.block x (.inl hx), k.size⟩
end
theorem Us.to {W w w' : World} {g Bs k k' : Nat} {S S' : Nat → Prop} {M M1 : Mo} {b : Nat → Nat} {V : Nat → Value} {L : Nat → List (List UInt8)} (h : Us W g Bs k S M b V L w) (hd : Dk w' g S' M1) (hm : Mv S w w') (hg : Grow S S' w) (hb : M1.Bare) (h6 : M1.safe.length = 6) (ho : M1.ops ≤ k') (hc : (M1.wt.length : Int) ≤ k') : Us W g Bs k' S' M1 b V L w' := by
  refine ⟨h.live.step hd hm hg, hb, h6, ho, hc, h.si.mv hm fun x hx => (h.off x hx).1, fun x hx => ⟨fun hS => ?_, (h.off x hx).2⟩⟩
  rcases hg x hS with q | q
  · exact (h.off x hx).1 q
  · have := h.si.lt hx; omega

/-- Boxes of six blocks each. -/
abbrev Bxs := List (Nat × (Nat → List UInt8))
def Uz (Bs : Nat) (b : Nat → Nat) (l : Bxs) : Nat → Prop := fun x => Ui 6 Bs b x ∨ ∃ p ∈ l, x = p.1
theorem lies_six {w : World} {f : Nat → List UInt8} (hf : ∀ i, (f i).length = 64) : Lies ((w.alloc (.cells Z6 50)).setCells w.heap.size 0 (bvs (sixB f))) w.heap.size 384 (bvs (sixB f)) := by
  have th := rowIs_there (Z6_new w) 0 384 (by omega)
  exact ⟨six_set hf th, World.there_setCells th _ _ _, by rw [size_setCells]; simp, by rw [bvs_len, sixB_len f hf]⟩
theorem below_six (w : World) (f : Nat → List UInt8) : Below w.heap.size w ((w.alloc (.cells Z6 50)).setCells w.heap.size 0 (bvs (sixB f))) := below_setCells ((Below.refl _ _).alloc (Nat.le_refl _) _) (Nat.le_refl _) _ _
theorem there_six (w : World) : (w.alloc (.cells Z6 50)).there w.heap.size 0 384 := rowIs_there (Z6_new w) 0 384 (by omega)
theorem six_fl (f : Nat → List UInt8) : bvs (sixB f) = fl ((List.range 6).map f) := by
  unfold sixB fl bvs
  simp [List.flatMap_map, List.map_flatMap]
theorem six_part {w : World} {y : Nat} {f : Nat → List UInt8} (hf : ∀ i, (f i).length = 64) (h : w.rangeAt y 0 (bvs (sixB f))) {i : Nat} (hi : i < 6) : w.rangeAt y (i * 64) (bvs (f i)) := by
  rw [six_fl] at h
  have := fl_at _ 0 h (fun x hx => by simp only [List.mem_map] at hx; obtain ⟨j, _, rfl⟩ := hx; exact hf j) i (f i) (by simp [hi])
  rwa [Nat.zero_add] at this
/-- All that the end of the law has in memory. -/
structure Zz (W : World) (Bs : Nat) (b : Nat → Nat) (V : Nat → Value) (L : Nat → List (List UInt8)) (l : Bxs) (w : World) (g0 : Nat) (S0 : Nat → Prop) (M0 : Mo) (g1 : Nat) (S1 : Nat → Prop) (M1 : Mo) (g2 : Nat) (S2 : Nat → Prop) (M2 : Mo) : Prop where
  th : Th W (Uz Bs b l) w g0 S0 M0 g1 S1 M1 g2 S2 M2
  si : Si 6 w Bs b V L
  bx : ∀ p ∈ l, Lies w p.1 384 (bvs (sixB p.2))
section
variable {W w w' : World} {Bs : Nat} {b : Nat → Nat} {V : Nat → Value} {L : Nat → List (List UInt8)} {l : Bxs} {g0 g1 g2 : Nat} {S0 S1 S2 S' : Nat → Prop} {M0 M1 M2 M' : Mo}
theorem Zz.kp (z : Zz W Bs b V L l w g0 S0 M0 g1 S1 M1 g2 S2 M2) {h0 h1 h2 : Nat} {T0 T1 T2 : Nat → Prop} {N0 N1 N2 : Mo} (t : Th W (Uz Bs b l) w' h0 T0 N0 h1 T1 N1 h2 T2 N2 ∧ Kp (Uz Bs b l) w w') : Zz W Bs b V L l w' h0 T0 N0 h1 T1 N1 h2 T2 N2 :=
  ⟨t.1, z.si.kp (fun x hx => t.2.block x (.inl hx)) t.2.size, fun p hp => (z.bx p hp).kp (t.2.block p.1 (.inr ⟨p, hp, rfl⟩)) t.2.size⟩
theorem Zz.below (z : Zz W Bs b V L l w g0 S0 M0 g1 S1 M1 g2 S2 M2) (hb : Below w.heap.size w w') : Zz W Bs b V L l w' g0 S0 M0 g1 S1 M1 g2 S2 M2 := z.kp (z.th.below hb)
theorem Zz.turn (z : Zz W Bs b V L l w g0 S0 M0 g1 S1 M1 g2 S2 M2) : Zz W Bs b V L l w g1 S1 M1 g2 S2 M2 g0 S0 M0 := ⟨z.th.turn, z.si, z.bx⟩
theorem Zz.step (z : Zz W Bs b V L l w g0 S0 M0 g1 S1 M1 g2 S2 M2) (hd : Dk w' g0 S' M') (hm : Mv S0 w w') (hg : Grow S0 S' w) : Zz W Bs b V L l w' g0 S' M' g1 S1 M1 g2 S2 M2 := z.kp (z.th.step hd hm hg)
theorem Zz.set_ (z : Zz W Bs b V L l w g0 S0 M0 g1 S1 M1 g2 S2 M2) {y : Nat} (h : ¬ S0 y ∧ ¬ S1 y ∧ ¬ S2 y ∧ ¬ Uz Bs b l y) (hW : W.heap.size ≤ y) (j : Nat) (v : Value) : Zz W Bs b V L l (w.setCell ⟨y, j, none⟩ v) g0 S0 M0 g1 S1 M1 g2 S2 M2 := by
  have hk : ∀ x, x ≠ y → (w.setCell ⟨y, j, none⟩ v).heap[x]? = w.heap[x]? := fun x hx => Below.heap_setCell w _ v x hx
  have hz : (w.setCell ⟨y, j, none⟩ v).heap.size = w.heap.size := by simp [World.setCell]
  refine z.kp ⟨⟨live_set z.th.a h.1 hW j [v], live_set z.th.b h.2.1 hW j [v], live_set z.th.c h.2.2.1 hW j [v], z.th.ab, z.th.ac, z.th.bc, fun x hx => ⟨by rw [hz]; exact (z.th.u x hx).1, (z.th.u x hx).2⟩⟩, ⟨fun x hx => hk x fun e => h.2.2.2 (e ▸ hx), by rw [hz]; exact Nat.le_refl _⟩⟩
theorem Zz.box (z : Zz W Bs b V L l w g0 S0 M0 g1 S1 M1 g2 S2 M2) {f : Nat → List UInt8} (hf : ∀ i, (f i).length = 64) : Zz W Bs b V L ((w.heap.size, f) :: l) ((w.alloc (.cells Z6 50)).setCells w.heap.size 0 (bvs (sixB f))) g0 S0 M0 g1 S1 M1 g2 S2 M2 := by
  have hb := below_six w f
  have z2 := z.below hb
  have hl := (lies_six (w := w) hf).lt
  refine ⟨⟨z2.th.a, z2.th.b, z2.th.c, z2.th.ab, z2.th.ac, z2.th.bc, fun x hx => ?_⟩, z2.si, fun p hp => ?_⟩
  · rcases hx with hx | ⟨p, hp, rfl⟩
    · exact z2.th.u x (.inl hx)
    · rcases List.mem_cons.1 hp with rfl | hp
      · exact ⟨hl, fun h => by have := z.th.a.1.lt _ h; omega, fun h => by have := z.th.b.1.lt _ h; omega, fun h => by have := z.th.c.1.lt _ h; omega⟩
      · exact z2.th.u _ (.inr ⟨p, hp, rfl⟩)
  · rcases List.mem_cons.1 hp with rfl | hp
    · exact lies_six hf
    · exact z2.bx p hp
theorem Zz.notin (z : Zz W Bs b V L l w g0 S0 M0 g1 S1 M1 g2 S2 M2) {y : Nat} (hy : w.heap.size ≤ y) : ¬ S0 y ∧ ¬ S1 y ∧ ¬ S2 y ∧ ¬ Uz Bs b l y :=
  ⟨fun h => by have := z.th.a.1.lt _ h; omega, fun h => by have := z.th.b.1.lt _ h; omega, fun h => by have := z.th.c.1.lt _ h; omega, fun h => by have := (z.th.u y h).1; omega⟩
end
theorem run_make_bools (n : Nat) (h : n ≤ 1000000000) (w : World) :
    (Instr.makeSlice 33 (.int .i64 (n : Int)) (.int .i64 (n : Int))).run Try.prog w = .ok (.slice (some ⟨w.heap.size, 0, none⟩) n n) (w.alloc (.cells (bls (List.replicate n false)).toArray 4)) := by
  obtain ⟨i0, hi, hz, hz1, hz2⟩ := info_parts info_bool
  have hr := run_make (P := Try.prog) w 33 _ i0 _ Try.underlying33 hi hz .i64 .i64 (n : Int) (n : Int) (by omega) (by omega) (by rw [hz2]; omega) (by omega)
  simp only [Int.toNat_natCast, hz1, Nat.mul_one] at hr
  rw [hr]
  congr 3
  apply Array.ext
  · simp [madeCells, bls]
  · intro i _ _
    simp [madeCells, bls, Value.cells, Nat.mod_one]
theorem crash_plain (M : Mo) (lv : Nat → Bool) : (M.crash lv).Plain := ⟨rfl, rfl, rfl⟩
theorem crash_len (M : Mo) (lv : Nat → Bool) : (M.crash lv).safe.length = M.safe.length := settle_len _ _ _ _
theorem crash_hld {M : Mo} (h6 : M.safe.length = 6) (lv : Nat → Bool) {i : Nat} (hi : i < 6) : (M.crash lv).hld i = (M.crash lv).hold i := if_pos (by rw [crash_len, h6]; exact hi)
theorem crash_full {M : Mo} (h : M.Ok) (h6 : M.safe.length = 6) (lv : Nat → Bool) (hl : ∀ j, j < M.wt.length → lv j = true) : (M.crash lv).hld = M.hld := by
  funext i
  by_cases hi : i < 6
  · rw [crash_hld h6 lv hi, crash_all h lv hl]
    exact (if_pos (by rw [h6]; exact hi)).symm
  · unfold Mo.hld
    rw [if_neg (by rw [crash_len, h6]; exact hi), if_neg (by rw [h6]; exact hi)]
end Go.Proofs.Ytionbjocfepkaaa
