/-
  OBJECTS AS A WHOLE, AND AS ARGUMENTS.
  TWO LISTS WHOSE PATHS RISE, GONE THROUGH TOGETHER: pure.
  PATHMAP: whether two maps are the same; STAGE 5's STATEMENTS: whether a map is more than is gone through.
  PATHMAP: whether two edits are the same.
-/
import Derived.Test.YtcofkhmgmemkmaaGreatDoorK09
import Derived.Test.YtcofkhmgmemkmaaGreatDoorK13
import Derived.Test.YtcofkhmgmemkmaaGreatDoorK07
import Derived.Laws.StructEq
import Derived.Deep.Cut
namespace Go.Proofs.YtcofkhmgmemkmaaGreatDoor
set_option linter.unusedVariables false
set_option linter.unusedSimpArgs false
open Go.RowKit Go.WideShapes Go.ChangeShapes Go.Deep

/-- An object. -/
structure Ov where
  kind : Int
  text : ByteArray
  lv : List Lf
  style : Int
  tree : Idv
  base : Idv
  ps : List Idv
  es : List Ch
  num : Nat
  auth : Nat
  note : ByteArray
/-- A slice. -/
structure Sl where
  a : Option Addr
  n : Nat
  c : Nat
def Ov.at_ (x : Ov) (L P E : Sl) : Of := ⟨x.kind, x.text, .slice L.a L.n L.c, x.style, x.tree, x.base, .slice P.a P.n P.c, .slice E.a E.n E.c, x.num, x.auth, x.note⟩
/-- An object whose lists stand below B. -/
structure Obj3 (w : World) (B : Nat) (x : Ov) (L P E : Sl) : Prop where
  l : SqL w B L.a L.n L.c x.lv
  p : SqI w B P.a P.n P.c x.ps
  e : SqC w B E.a E.n E.c x.es
  kb : -9223372036854775808 ≤ x.kind ∧ x.kind ≤ 9223372036854775807
  sb : -9223372036854775808 ≤ x.style ∧ x.style ≤ 9223372036854775807
  nb : x.num < 4294967296
  ab : x.auth < 4294967296
theorem Obj3.below {w w' : World} {B : Nat} {x : Ov} {L P E : Sl} (h : Obj3 w B x L P E) (hb : Below B w w') : Obj3 w' B x L P E := ⟨h.l.below hb, h.p.below hb, h.e.below hb, h.kb, h.sb, h.nb, h.ab⟩
theorem Obj3.more {w : World} {B B' : Nat} {x : Ov} {L P E : Sl} (h : Obj3 w B x L P E) (hB : B ≤ B') : Obj3 w B' x L P E := ⟨h.l.more hB, h.p.more hB, h.e.more hB, h.kb, h.sb, h.nb, h.ab⟩
theorem flat_get {α : Type} {f : α → List Value} {k : Nat} (hk : 0 < k) (hs : ∀ x, (f x).length = k) : ∀ (l : List α) (j : Nat) (hi : j / k < l.length), (l.flatMap f)[j]? = (f l[j / k])[j % k]?
  | [], j, hi => by simp at hi
  | x :: r, j, hi => by
    rw [List.flatMap_cons]
    by_cases hj : j < k
    · have e1 : j / k = 0 := Nat.div_eq_of_lt hj
      have e2 : j % k = j := Nat.mod_eq_of_lt hj
      rw [List.getElem?_append_left (by rw [hs]; exact hj)]
      simp [e1, e2]
    · have e1 : j / k = (j - k) / k + 1 := Nat.div_eq_sub_div hk (by omega)
      have e2 : j % k = (j - k) % k := Nat.mod_eq_sub_mod (by omega)
      rw [List.getElem?_append_right (by rw [hs]; omega), hs, flat_get hk hs r (j - k) (by rw [e1] at hi; simpa using hi)]
      simp [e1, e2]
/-- A slice that came in. -/
theorem slice_arg {α : Type} (f : α → List Value) (k : Nat) (hk : 0 < k) (hs : ∀ x, (f x).length = k) {T E : TypeId} (hu : Tryz.prog.underlying T = some (.slice E)) (hC : Tryz.prog.cellsOf E = k)
    {H : Type} {enc : TypeId × Value → H} {W : World} {fuel : Nat} {v : Value} {x : DataW H × List MemPlace} (hf : DataW.trod enc Tryz.prog W 0 (fun _ => true) true fuel T [v] = some x)
    (el : ∀ n cs y, cs.length = k → DataW.trod enc Tryz.prog W 0 (fun _ => true) true n E cs = some y → ∃ a : α, cs = f a) :
    ∃ A n c l, v = .slice A n c ∧ Sq f k W W.heap.size A n c l := by
  rcases open_slice hu hf with ⟨hcs, _⟩ | ⟨ad, len, cap, m, nn, D, Pl, hcs, _, hl, hm, hmm, _, hx⟩
  · injection hcs with hcs
    exact ⟨none, 0, 0, [], hcs, Sq.nil_ hs⟩
  · injection hcs with hcs
    simp only [if_true] at hmm
    subst hmm
    have each : ∀ i, i < len → ∃ a : α, ∀ j v, (f a)[j]? = some v → W.cell? (ad.add (i * k + j)) = some v := by
      intro i hi
      obtain ⟨cs', hcell, ht⟩ := hx i (by omega)
      rw [hC] at hcell
      obtain ⟨_, hcl, hat⟩ := World.cells?_some hcell
      obtain ⟨a, rfl⟩ := el _ _ _ hcl ht
      refine ⟨a, fun j v hj => ?_⟩
      have hj2 : j < k := by have := (List.getElem?_eq_some_iff.1 hj).1; rwa [hs] at this
      have := hat j hj2
      rw [Go.Deep.add_add] at this
      rw [this, hj]
    obtain ⟨b, o, s⟩ := ad
    rcases Nat.eq_zero_or_pos len with hn0 | hn0
    · subst hn0
      exact ⟨_, 0, _, [], hcs, rfl, hl, hm, (fun e => by cases e), hs, fun h => absurd h (by omega)⟩
    · obtain ⟨a0, ha0⟩ := each 0 hn0
      obtain ⟨v0, hv0⟩ : ∃ v, (f a0)[0]? = some v := ⟨_, List.getElem?_eq_getElem (by rw [hs]; exact hk)⟩
      have hss : s = none := by
        have := ha0 0 _ hv0
        simpa [Addr.add] using World.cell?_spot this
      subst hss
      have hlt : b < W.heap.size := by
        have := ha0 0 _ hv0
        rw [S3.addr_add] at this
        exact World.block_lt_of_cell? W _ this
      obtain ⟨l, hlen, hall⟩ : ∃ l : List α, l.length = len ∧ ∀ i (h : i < l.length), ∀ j v, (f l[i])[j]? = some v → W.cell? ((⟨b, o, none⟩ : Addr).add (i * k + j)) = some v := by
        refine ⟨(List.range len).attach.map fun i => (each i.1 (List.mem_range.1 i.2)).choose, by simp, fun i hi j v hv => ?_⟩
        have hjn : i < len := by simpa using hi
        simp only [List.getElem_map, List.getElem_attach, List.getElem_range] at hv
        exact (each i hjn).choose_spec j v hv
      refine ⟨_, len, _, l, hcs, hlen, hl, hm, (fun e => by cases e), hs, fun _ => ⟨b, o, rfl, hlt, fun j v hv => ?_⟩⟩
      have hjl : j < l.length * k := by rw [← flat_len hs l]; exact (List.getElem?_eq_some_iff.1 hv).1
      have hi : j / k < l.length := by rw [Nat.div_lt_iff_lt_mul hk]; exact hjl
      rw [flat_get hk hs l j hi] at hv
      have := hall (j / k) hi (j % k) v hv
      have e := Nat.div_add_mod j k
      rwa [S3.addr_add, show j / k * k + j % k = j by rw [Nat.mul_comm]; exact e] at this
def asU8 : Value → UInt8
  | .int _ k => UInt8.ofNat k.toNat
  | _ => 0
/-- A row of bytes that came in. -/
theorem arr8_el {H : Type} {enc : TypeId × Value → H} {W : World} {base n m : Nat} {sp : Nat → Bool} {held : Bool} {t : TypeId} {cs : List Value} {y : DataW H × List MemPlace}
    (ht : Tryz.prog.underlying t = some (.array n 5)) (hc : Tryz.prog.cellsOf t = n) (hf : DataW.trod enc Tryz.prog W base sp held m t cs = some y) :
    ∃ l : List UInt8, l.length = n ∧ cs = S3.bvs l := by
  obtain ⟨xs, m, _, _, hlen, hn, hel⟩ := DataW.trod_array ht hf
  have c1 : Tryz.prog.cellsOf 5 = 1 := by kernel_rfl
  rw [c1] at hel
  rw [hc] at hlen
  have hall : ∀ j, j < n → ∃ x : UInt8, cs[j]? = some (S3.bv x) := fun j hj => by
    have h2 := hel j hj
    rw [Nat.mul_one] at h2
    obtain ⟨x, hx⟩ : ∃ x, xs[j]? = some x := ⟨_, List.getElem?_eq_getElem (by omega)⟩
    rw [hx] at h2
    obtain ⟨k, e1, _, hw⟩ := DataW.trod_int Tryz.underlying5 h2
    have h4 : cs[j]? = some (.int .u8 k) := by
      have := congrArg (fun l => l[0]?) e1
      simp only [List.getElem?_take, List.getElem?_drop] at this
      simpa using this
    have hb := bounds_u8 hw
    refine ⟨UInt8.ofNat k.toNat, h4.trans ?_⟩
    have : ((UInt8.ofNat k.toNat).toNat : Int) = k := by
      rw [UInt8.toNat_ofNat']
      omega
    unfold S3.bv
    rw [this]
  refine ⟨cs.map asU8, by simpa using hlen, ?_⟩
  simp only [S3.bvs]
  apply List.ext_getElem?
  intro j
  by_cases hj : j < n
  · obtain ⟨x, hx⟩ := hall j hj
    rw [hx, List.getElem?_map, List.getElem?_map, hx]
    simp [S3.bv, asU8]
  · rw [List.getElem?_eq_none (by omega), List.getElem?_eq_none (by simp only [List.length_map]; omega)]
section
variable {H : Type} {enc : TypeId × Value → H} {W : World}
theorem cells_id : Tryz.prog.cellsOf 27 = 32 := by kernel_rfl
theorem cells_lf : Tryz.prog.cellsOf 68 = 33 := by kernel_rfl
theorem cells_chg : Tryz.prog.cellsOf 71 = 3 := by kernel_rfl
theorem cells_str : Tryz.prog.cellsOf 9 = 1 := by kernel_rfl
theorem cells_bool : Tryz.prog.cellsOf 4 = 1 := by kernel_rfl
theorem ids_arg {fuel : Nat} {v : Value} {x : DataW H × List MemPlace} (hf : DataW.trod enc Tryz.prog W 0 (fun _ => true) true fuel 28 [v] = some x) :
    ∃ A n c l, v = .slice A n c ∧ SqI W W.heap.size A n c l :=
  slice_arg Idv.cells 32 (by omega) id_sz Tryz.underlying28 cells_id hf fun n cs y _ h => by
    obtain ⟨l, hl, e⟩ := arr8_el Tryz.underlying27 cells_id h
    exact ⟨⟨l, hl⟩, e⟩
theorem leaves_arg {fuel : Nat} {v : Value} {x : DataW H × List MemPlace} (hf : DataW.trod enc Tryz.prog W 0 (fun _ => true) true fuel 25 [v] = some x) :
    ∃ A n c l, v = .slice A n c ∧ SqL W W.heap.size A n c l :=
  slice_arg Lf.cells 33 (by omega) lf_sz Tryz.underlying25 cells_lf hf fun n cs y hcl h => by
    obtain ⟨y0, y1, n', _, _, h0, h1⟩ := trod_struct2 Tryz.underlying68 h
    simp only [cells_str, cells_id] at h0 h1
    obtain ⟨s0, e0, _, _⟩ := DataW.trod_string Tryz.underlying9 h0
    obtain ⟨l1, hl1, e1⟩ := arr8_el Tryz.underlying27 cells_id h1
    refine ⟨⟨s0, ⟨l1, hl1⟩⟩, ?_⟩
    rw [List.drop_zero] at e0
    rw [List.take_of_length_le (by rw [List.length_drop]; omega)] at e1
    rw [← List.take_append_drop 1 cs, e0, e1]
    rfl
theorem changes_arg {fuel : Nat} {v : Value} {x : DataW H × List MemPlace} (hf : DataW.trod enc Tryz.prog W 0 (fun _ => true) true fuel 29 [v] = some x) :
    ∃ A n c l, v = .slice A n c ∧ SqC W W.heap.size A n c l :=
  slice_arg Ch.cells 3 (by omega) ch_sz Tryz.underlying29 cells_chg hf fun n cs y hcl h => by
    obtain ⟨c0, c1, c2, rfl⟩ : ∃ c0 c1 c2, cs = [c0, c1, c2] := by
      match cs, hcl with
      | [a, b, c], _ => exact ⟨a, b, c, rfl⟩
    obtain ⟨y0, y1, y2, n', _, _, h0, h1, h2⟩ := trod_struct3 Tryz.underlying71 h
    simp only [cells_str, cells_bool, List.drop_zero, List.take_succ_cons, List.take_zero, List.drop_succ_cons] at h0 h1 h2
    obtain ⟨s0, e0, _, _⟩ := DataW.trod_string Tryz.underlying9 h0
    obtain ⟨b1, e1, _, _⟩ := DataW.trod_bool Tryz.underlying4 h1
    obtain ⟨s2, e2, _, _⟩ := DataW.trod_string Tryz.underlying9 h2
    injection e0 with e0
    injection e1 with e1
    injection e2 with e2
    exact ⟨⟨s0, b1, s2⟩, by rw [e0, e1, e2]; rfl⟩
theorem split_at {α : Type} (l : List α) (a b : Nat) : l.drop a = (l.drop a).take b ++ l.drop (a + b) := by
  rw [← List.drop_drop, List.take_append_drop]
theorem fields_obj : (Tryz.prog.fieldsOf 34).size = 11 := by kernel_rfl
set_option maxRecDepth 100000 in
set_option maxHeartbeats 1000000 in
/-- An object that came in. -/
theorem obj_arg {r : Reach} {b0 : Nat} {v : Value} {d : DataW H} {p : List MemPlace} (hv : Value.okWide Tryz.prog W r b0 34 v) (h : DataW.Trod enc Tryz.prog W 0 (fun _ => true) true 34 v d p) :
    ∃ x L P E, v = ofV (Ov.at_ x L P E) ∧ Obj3 W W.heap.size x L P E := by
  obtain ⟨cs, rfl, hsz⟩ := okWide_struct Tryz.underlying34 hv
  have hC : Tryz.prog.cellsOf 34 = 73 := by kernel_rfl
  obtain ⟨fuel, hf⟩ := h
  obtain ⟨xs, n, _, _, hl, hlen, hfs⟩ := DataW.trod_struct Tryz.underlying34 hf
  have k2 : Tryz.prog.cellsOf 25 = 1 := by kernel_rfl
  have k6 : Tryz.prog.cellsOf 28 = 1 := by kernel_rfl
  have k7 : Tryz.prog.cellsOf 31 = 1 := by kernel_rfl
  have k8 : Tryz.prog.cellsOf 29 = 1 := by kernel_rfl
  have k9 : Tryz.prog.cellsOf 32 = 1 := by kernel_rfl
  have k10 : Tryz.prog.cellsOf 3 = 1 := by kernel_rfl
  obtain ⟨y0, y1, y2, y3, y4, y5, y6, y7, y8, y9, y10, rfl⟩ : ∃ y0 y1 y2 y3 y4 y5 y6 y7 y8 y9 y10, xs = [y0, y1, y2, y3, y4, y5, y6, y7, y8, y9, y10] := by
    match xs, hlen with
    | [y0, y1, y2, y3, y4, y5, y6, y7, y8, y9, y10], _ => exact ⟨y0, y1, y2, y3, y4, y5, y6, y7, y8, y9, y10, rfl⟩
  have f0 := hfs 0 _ rfl
  have f1 := hfs 1 _ rfl
  have f2 := hfs 2 _ rfl
  have f3 := hfs 3 _ rfl
  have f4 := hfs 4 _ rfl
  have f5 := hfs 5 _ rfl
  have f6 := hfs 6 _ rfl
  have f7 := hfs 7 _ rfl
  have f8 := hfs 8 _ rfl
  have f9 := hfs 9 _ rfl
  have f10 := hfs 10 _ rfl
  clear hfs
  simp only [Value.cells, List.getElem?_cons_zero, List.getElem?_cons_succ, List.getElem_toArray, List.getElem_cons_zero, List.getElem_cons_succ, cells_str, cells_id, k2, k6, k7, k9, k10] at f0 f1 f2 f3 f4 f5 f6 f7 f8 f9 f10
  obtain ⟨a0, e0, _, w0⟩ := DataW.trod_int Tryz.underlying3 f0
  obtain ⟨a1, e1, _, _⟩ := DataW.trod_string Tryz.underlying9 f1
  obtain ⟨a3, e3, _, w3⟩ := DataW.trod_int Tryz.underlying3 f3
  obtain ⟨a4, l4, e4⟩ := arr8_el Tryz.underlying27 cells_id f4
  obtain ⟨a5, l5, e5⟩ := arr8_el Tryz.underlying27 cells_id f5
  obtain ⟨a8, e8, _, w8⟩ := DataW.trod_int Tryz.underlying32 f8
  obtain ⟨a9, e9, _, w9⟩ := DataW.trod_int Tryz.underlying32 f9
  obtain ⟨a10, e10, _, _⟩ := DataW.trod_string Tryz.underlying9 f10
  have one : ∀ k, k < 73 → ∃ c, (cs.toList.drop k).take 1 = [c] := fun k hk => by
    exact List.length_eq_one_iff.1 (by rw [List.length_take, List.length_drop, Array.length_toList]; omega)
  obtain ⟨c2, e2⟩ := one 2 (by omega)
  obtain ⟨c6, e6⟩ := one 68 (by omega)
  obtain ⟨c7, e7⟩ := one 69 (by omega)
  rw [e2] at f2
  rw [e6] at f6
  rw [e7] at f7
  obtain ⟨AL, nL, cL, L, rfl, hL⟩ := leaves_arg f2
  obtain ⟨AP, nP, cP, P, rfl, hP⟩ := ids_arg f6
  obtain ⟨z0, n', _, _, g0⟩ := trod_struct1 Tryz.underlying31 f7
  simp only [k8, List.drop_zero, List.take_succ_cons, List.take_zero] at g0
  obtain ⟨AE, nE, cE, E, rfl, hE⟩ := changes_arg g0
  have b0 := bounds_i64 w0
  have b3 := bounds_i64 w3
  have b8 := bounds_u32 w8
  have b9 := bounds_u32 w9
  refine ⟨⟨a0, a1, L, a3, ⟨a4, l4⟩, ⟨a5, l5⟩, P, E, a8.toNat, a9.toNat, a10⟩, ⟨AL, nL, cL⟩, ⟨AP, nP, cP⟩, ⟨AE, nE, cE⟩, ?_, hL, hP, hE, b0, b3, by show a8.toNat < _; omega, by show a9.toNat < _; omega⟩
  have hall : cs.toList = Of.cells (Ov.at_ ⟨a0, a1, L, a3, ⟨a4, l4⟩, ⟨a5, l5⟩, P, E, a8.toNat, a9.toNat, a10⟩ ⟨AL, nL, cL⟩ ⟨AP, nP, cP⟩ ⟨AE, nE, cE⟩) := by
    have hlen : cs.toList.length = 73 := by rw [Array.length_toList]; omega
    have s0 := split_at cs.toList 0 1
    have s1 := split_at cs.toList 1 1
    have s2 := split_at cs.toList 2 1
    have s3 := split_at cs.toList 3 1
    have s4 := split_at cs.toList 4 32
    have s5 := split_at cs.toList 36 32
    have s6 := split_at cs.toList 68 1
    have s7 := split_at cs.toList 69 1
    have s8 := split_at cs.toList 70 1
    have s9 := split_at cs.toList 71 1
    have s10 := split_at cs.toList 72 1
    have s11 : cs.toList.drop 73 = [] := List.drop_eq_nil_of_le (by omega)
    rw [s11] at s10
    simp only [Nat.reduceAdd, List.drop_zero] at s0 s1 s2 s3 s4 s5 s6 s7 s8 s9 s10
    rw [List.drop_zero] at e0
    rw [s0, s1, s2, s3, s4, s5, s6, s7, s8, s9, s10, e0, e1, e2, e3, e4, e5, e6, e7, e8, e9, e10]
    unfold Of.cells Ov.at_
    rw [show ((a8.toNat : Nat) : Int) = a8 by omega, show ((a9.toNat : Nat) : Int) = a9 by omega]
    simp
  rw [show ofV (Ov.at_ ⟨a0, a1, L, a3, ⟨a4, l4⟩, ⟨a5, l5⟩, P, E, a8.toNat, a9.toNat, a10⟩ ⟨AL, nL, cL⟩ ⟨AP, nP, cP⟩ ⟨AE, nE, cE⟩) = .agg cs.toList.toArray from by rw [hall]]
end
end Go.Proofs.YtcofkhmgmemkmaaGreatDoor
namespace Go.Proofs.YtcofkhmgmemkmaaGreatDoor
set_option linter.unusedVariables false
set_option linter.unusedSimpArgs false
open Go.RowKit Go.WideShapes Go.ChangeShapes Go.Deep

theorem less_irrefl : ∀ l : List UInt8, Op.bytesLess l l = false
  | [] => rfl
  | x :: r => by simp [Op.bytesLess, less_irrefl r]
theorem less_trans : ∀ {a b c : List UInt8}, Op.bytesLess a b = true → Op.bytesLess b c = true → Op.bytesLess a c = true
  | _, [], _, h, _ => by simp [Op.bytesLess] at h
  | _, _ :: _, [], _, h => by simp [Op.bytesLess] at h
  | [], _ :: _, _ :: _, _, _ => by simp [Op.bytesLess]
  | x :: a, y :: b, z :: c, h, k => by
    have ih := @less_trans a b c
    simp only [Op.bytesLess, Bool.or_eq_true, Bool.and_eq_true, decide_eq_true_eq, beq_iff_eq] at h k ⊢
    rcases h with h | ⟨rfl, h⟩
    · rcases k with k | ⟨rfl, k⟩
      · exact .inl (UInt8.lt_trans h k)
      · exact .inl h
    · rcases k with k | ⟨rfl, k⟩
      · exact .inl k
      · exact .inr ⟨rfl, ih h k⟩
theorem less_total : ∀ {a b : List UInt8}, Op.bytesLess a b = false → Op.bytesLess b a = false → a = b
  | [], [], _, _ => rfl
  | [], _ :: _, h, _ => by simp [Op.bytesLess] at h
  | _ :: _, [], _, h => by simp [Op.bytesLess] at h
  | x :: a, y :: b, h, k => by
    have ih := @less_total a b
    simp only [Op.bytesLess, Bool.or_eq_false_iff, Bool.and_eq_false_iff, decide_eq_false_iff_not, beq_eq_false_iff_ne] at h k
    obtain ⟨h1, h2⟩ := h
    obtain ⟨k1, k2⟩ := k
    have e : x = y := by
      rw [UInt8.lt_iff_toNat_lt] at h1 k1
      exact UInt8.toNat_inj.1 (by omega)
    subst e
    rw [ih (h2.resolve_left (fun q => q rfl)) (k2.resolve_left (fun q => q rfl))]
def le (a b : ByteArray) : Bool := lt a b || (a.toList == b.toList)
theorem le_total {a b : ByteArray} (h : le a b = false) : lt b a = true := by
  unfold le lt at *
  rw [Bool.or_eq_false_iff] at h
  cases hb : Op.bytesLess b.toList a.toList with
  | true => rfl
  | false =>
    have := less_total h.1 hb
    rw [this] at h
    simp at h
theorem lt_le {a b : ByteArray} (h : lt a b = true) : le a b = true := by unfold le; rw [h]; rfl
theorem lt_not_le {a b : ByteArray} (h : lt a b = true) : le b a = false := by
  unfold le lt at *
  rw [Bool.or_eq_false_iff]
  refine ⟨?_, ?_⟩
  · cases hb : Op.bytesLess b.toList a.toList with
    | false => rfl
    | true => have := less_trans h hb; rw [less_irrefl] at this; cases this
  · simp only [beq_eq_false_iff_ne, ne_eq]
    intro e
    rw [e, less_irrefl] at h
    cases h

theorem tri_ (a b : ByteArray) : (Op.bytesLess a.toList b.toList = true ∧ (a.toList == b.toList) = false ∧ Op.bytesLess b.toList a.toList = false ∧ (b.toList == a.toList) = false) ∨
    (Op.bytesLess a.toList b.toList = false ∧ (a.toList == b.toList) = true ∧ Op.bytesLess b.toList a.toList = false ∧ (b.toList == a.toList) = true) ∨
    (Op.bytesLess a.toList b.toList = false ∧ (a.toList == b.toList) = false ∧ Op.bytesLess b.toList a.toList = true ∧ (b.toList == a.toList) = false) := by
  have key : ∀ x y : List UInt8, Op.bytesLess x y = true → (x == y) = false ∧ Op.bytesLess y x = false ∧ (y == x) = false := by
    intro x y h
    have h1 : x ≠ y := fun e => by rw [e, less_irrefl] at h; cases h
    refine ⟨by simpa using h1, ?_, by simpa using h1.symm⟩
    cases hb : Op.bytesLess y x with
    | false => rfl
    | true => have := less_trans h hb; rw [less_irrefl] at this; cases this
  cases h1 : Op.bytesLess a.toList b.toList with
  | true => exact .inl ⟨rfl, key _ _ h1⟩
  | false =>
    cases h2 : Op.bytesLess b.toList a.toList with
    | true => obtain ⟨k1, k2, k3⟩ := key _ _ h2; exact .inr (.inr ⟨rfl, k3, rfl, k1⟩)
    | false => have e := less_total h1 h2; exact .inr (.inl ⟨rfl, by simp [e], rfl, by simp [e]⟩)
/-- What one round tells: the places of the rows, or none. -/
structure Mi (n m : Nat) where
  i : Option (Fin n)
  k : Option (Fin m)
  ne : i.isSome = true ∨ k.isSome = true
section
variable {α β : Type} (fa : α → ByteArray) (fb : β → ByteArray) (la : List α) (lb : List β)
def takeA (i k : Nat) : Bool := if hi : i < la.length then (if hk : k < lb.length then le (fa la[i]) (fb lb[k]) else true) else false
def takeB (i k : Nat) : Bool := if hk : k < lb.length then (if hi : i < la.length then le (fb lb[k]) (fa la[i]) else true) else false
theorem takeA_lt {i k : Nat} (h : takeA fa fb la lb i k = true) : i < la.length := by
  unfold takeA at h
  split at h
  · assumption
  · cases h
theorem takeB_lt {i k : Nat} (h : takeB fa fb la lb i k = true) : k < lb.length := by
  unfold takeB at h
  split at h
  · assumption
  · cases h
theorem take_one {i k : Nat} (h : i < la.length ∨ k < lb.length) : takeA fa fb la lb i k = true ∨ takeB fa fb la lb i k = true := by
  unfold takeA takeB
  by_cases hi : i < la.length
  · by_cases hk : k < lb.length
    · simp only [hi, hk, dif_pos]
      cases hl : le (fa la[i]) (fb lb[k]) with
      | true => exact .inl rfl
      | false => exact .inr (lt_le (le_total hl))
    · simp [hi, hk]
  · have hk : k < lb.length := h.resolve_left hi
    simp [hi, hk]
def nx (i k : Nat) (h : i < la.length ∨ k < lb.length) : Mi la.length lb.length :=
  ⟨if ha : takeA fa fb la lb i k = true then some ⟨i, takeA_lt fa fb la lb ha⟩ else none, if hb : takeB fa fb la lb i k = true then some ⟨k, takeB_lt fa fb la lb hb⟩ else none, by
    rcases take_one fa fb la lb h with q | q
    · left; simp [q]
    · right; simp [q]⟩
theorem nx_a {i k : Nat} (hi : i < la.length) (hk : lb.length ≤ k) {h : i < la.length ∨ k < lb.length} : nx fa fb la lb i k h = ⟨some ⟨i, hi⟩, none, .inl rfl⟩ ∧ takeA fa fb la lb i k = true ∧ takeB fa fb la lb i k = false := by
  have ha : takeA fa fb la lb i k = true := by unfold takeA; rw [dif_pos hi, dif_neg (by omega)]
  have hb : takeB fa fb la lb i k = false := by unfold takeB; rw [dif_neg (by omega)]
  refine ⟨?_, ha, hb⟩
  unfold nx
  simp [ha, hb]
theorem nx_b {i k : Nat} (hi : la.length ≤ i) (hk : k < lb.length) {h : i < la.length ∨ k < lb.length} : nx fa fb la lb i k h = ⟨none, some ⟨k, hk⟩, .inr rfl⟩ ∧ takeA fa fb la lb i k = false ∧ takeB fa fb la lb i k = true := by
  have ha : takeA fa fb la lb i k = false := by unfold takeA; rw [dif_neg (by omega)]
  have hb : takeB fa fb la lb i k = true := by unfold takeB; rw [dif_pos hk, dif_neg (by omega)]
  refine ⟨?_, ha, hb⟩
  unfold nx
  simp [ha, hb]
theorem nx_le {i k : Nat} (hi : i < la.length) (hk : k < lb.length) {h : i < la.length ∨ k < lb.length} :
    takeA fa fb la lb i k = le (fa la[i]) (fb lb[k]) ∧ takeB fa fb la lb i k = le (fb lb[k]) (fa la[i]) := by
  unfold takeA takeB
  simp only [hi, hk, dif_pos, and_self]
theorem nx_t {i k : Nat} {h : i < la.length ∨ k < lb.length} {qa qb : Bool} (ha : takeA fa fb la lb i k = qa) (hb : takeB fa fb la lb i k = qb) :
    nx fa fb la lb i k h = ⟨if q : qa = true then some ⟨i, takeA_lt fa fb la lb (ha.trans q)⟩ else none, if q : qb = true then some ⟨k, takeB_lt fa fb la lb (hb.trans q)⟩ else none, by
      rcases take_one fa fb la lb h with q | q
      · left; rw [ha] at q; simp [q]
      · right; rw [hb] at q; simp [q]⟩ := by
  subst ha hb
  rfl
/-- The rounds from these places on. -/
def runW : Nat → Nat → Nat → List (Mi la.length lb.length)
  | 0, _, _ => []
  | f + 1, i, k => if h : i < la.length ∨ k < lb.length then nx fa fb la lb i k h :: runW f (if takeA fa fb la lb i k then i + 1 else i) (if takeB fa fb la lb i k then k + 1 else k) else []
def allW : List (Mi la.length lb.length) := runW fa fb la lb (la.length + lb.length) 0 0
theorem runW_end {i k : Nat} (hi : i = la.length) (hk : k = lb.length) : ∀ f, runW fa fb la lb f i k = []
  | 0 => rfl
  | f + 1 => by rw [runW, dif_neg (by omega)]
theorem run_step {f i k i' k' : Nat} (h : i < la.length ∨ k < lb.length) {x : Mi la.length lb.length} (hx : nx fa fb la lb i k h = x) {qa qb : Bool} (ha : takeA fa fb la lb i k = qa) (hb : takeB fa fb la lb i k = qb) (hi : i' = if qa = true then i + 1 else i) (hk : k' = if qb = true then k + 1 else k) :
    runW fa fb la lb (f + 1) i k = x :: runW fa fb la lb f i' k' := by
  rw [runW, dif_pos h, hx, ha, hb, ← hi, ← hk]
/-- One more round has come. -/
theorem run_next {f i k i' k' : Nat} {pre all : List (Mi la.length lb.length)} (ha0 : all = pre ++ runW fa fb la lb f i k) (hf : la.length + lb.length ≤ f + i + k) (h : i < la.length ∨ k < lb.length) (hle : i ≤ la.length ∧ k ≤ lb.length) {x : Mi la.length lb.length} (hx : nx fa fb la lb i k h = x) {qa qb : Bool} (ha : takeA fa fb la lb i k = qa) (hb : takeB fa fb la lb i k = qb) (hi : i' = if qa = true then i + 1 else i) (hk : k' = if qb = true then k + 1 else k) :
    ∃ f', f = f' + 1 ∧ all = (pre ++ [x]) ++ runW fa fb la lb f' i' k' := by
  rcases f with _ | f
  · omega
  · exact ⟨f, rfl, by rw [ha0, run_step fa fb la lb h hx ha hb hi hk]; simp⟩
theorem runW_len : ∀ (f i k : Nat), (runW fa fb la lb f i k).length ≤ f
  | 0, _, _ => Nat.le_refl _
  | f + 1, i, k => by
    rw [runW]
    split
    · rw [List.length_cons]; have := runW_len f (if takeA fa fb la lb i k then i + 1 else i) (if takeB fa fb la lb i k then k + 1 else k); omega
    · simp
end
end Go.Proofs.YtcofkhmgmemkmaaGreatDoor
namespace Go.Proofs.YtcofkhmgmemkmaaGreatDoor
set_option linter.unusedVariables false
set_option linter.unusedSimpArgs false
open Go.RowKit Go.WideShapes Go.ChangeShapes Go.Deep
attribute [local irreducible] wpQuiet

def sameRw (a b : Rw) : Bool := a.p.toList == b.p.toList && a.t.toList == b.t.toList
open Classical in
/-- Whether two maps have the same rows. -/
noncomputable def sameL (l l' : List Rw) : Bool := decide (l.length = l'.length ∧ ∀ j (hj : j < l.length) (hj' : j < l'.length), sameRw l[j] l'[j] = true)
theorem sameL_yes {l l' : List Rw} (h : l.length = l'.length) (k : ∀ j (hj : j < l.length) (hj' : j < l'.length), sameRw l[j] l'[j] = true) : sameL l l' = true := decide_eq_true ⟨h, k⟩
theorem sameL_no {l l' : List Rw} (h : ¬ (l.length = l'.length ∧ ∀ j (hj : j < l.length) (hj' : j < l'.length), sameRw l[j] l'[j] = true)) : sameL l l' = false := decide_eq_false h
theorem row_flat : Tryz.prog.stoodInHeld 48 = false := by kernel_rfl
theorem row_guard : Tryz.prog.eqGuardType Tryz.prog.depth 48 = false := by kernel_rfl
theorem row_fields : Tryz.prog.underlying 48 = some (.struct (Tryz.prog.fieldsOf 48)) := by kernel_rfl
theorem eq_rows (d : Nat) (a b : Rw) (w : World) : (Op.equalIn (d + 2) 48 (rwV a) (rwV b)).run Tryz.prog w = .ok (sameRw a b) w := by
  rw [run_equalIn_agg w (d + 1) 48 _ _ row_fields row_flat]
  have hs := Tryz.underlying9
  unfold sameRw
  simp only [Program.fieldsOf, Tryz.underlying48]
  cases h1 : a.p.toList == b.p.toList <;> cases h2 : a.t.toList == b.t.toList <;> simp [Op.eqFields, part, isAgg, Sem.run_bind, run_underlying hs, run_equalIn_string, hs, h1, h2]
theorem neq_rows (a b : Rw) (w : World) : (binOp .neq 48 (rwV a) (rwV b)).run Tryz.prog w = .ok (.bool (!sameRw a b)) w := by
  rw [run_neq_struct, eq_rows]
  rfl
theorem eql_rows (a b : Rw) (w : World) : (binOp .eql 48 (rwV a) (rwV b)).run Tryz.prog w = .ok (.bool (sameRw a b)) w := by
  rw [run_eql_struct, eq_rows]
  rfl
end Go.Proofs.YtcofkhmgmemkmaaGreatDoor
namespace Go.Proofs.YtcofkhmgmemkmaaGreatDoor
set_option linter.unusedVariables false
set_option linter.unusedSimpArgs false
open Go.RowKit Go.WideShapes Go.ChangeShapes Go.Deep
attribute [local irreducible] wpQuiet

def sameCh (a b : Ch) : Bool := a.p.toList == b.p.toList && (a.is == b.is) && a.t.toList == b.t.toList
open Classical in
/-- Whether two maps have the same rows. -/
noncomputable def sameE (l l' : List Ch) : Bool := decide (l.length = l'.length ∧ ∀ j (hj : j < l.length) (hj' : j < l'.length), sameCh l[j] l'[j] = true)
theorem sameE_yes {l l' : List Ch} (h : l.length = l'.length) (k : ∀ j (hj : j < l.length) (hj' : j < l'.length), sameCh l[j] l'[j] = true) : sameE l l' = true := decide_eq_true ⟨h, k⟩
theorem sameE_no {l l' : List Ch} (h : ¬ (l.length = l'.length ∧ ∀ j (hj : j < l.length) (hj' : j < l'.length), sameCh l[j] l'[j] = true)) : sameE l l' = false := decide_eq_false h
theorem chg_flat : Tryz.prog.stoodInHeld 71 = false := by kernel_rfl
theorem chg_guard : Tryz.prog.eqGuardType Tryz.prog.depth 71 = false := by kernel_rfl
theorem chg_fields : Tryz.prog.underlying 71 = some (.struct (Tryz.prog.fieldsOf 71)) := by kernel_rfl
theorem eq_chgs (d : Nat) (a b : Ch) (w : World) : (Op.equalIn (d + 2) 71 (chV a) (chV b)).run Tryz.prog w = .ok (sameCh a b) w := by
  rw [run_equalIn_agg w (d + 1) 71 _ _ chg_fields chg_flat]
  have hs := Tryz.underlying9
  unfold sameCh
  simp only [Program.fieldsOf, Tryz.underlying71]
  have hb := Tryz.underlying4
  obtain ⟨ap, ai, at'⟩ := a
  obtain ⟨bp, bi, bt⟩ := b
  cases h1 : ap.toList == bp.toList <;> cases h2 : at'.toList == bt.toList <;> cases ai <;> cases bi <;> simp [Op.eqFields, part, isAgg, Sem.run_bind, run_underlying hs, run_underlying hb, run_equalIn_string, run_equalIn_bool, hs, hb, h1, h2]
theorem neq_chgs (a b : Ch) (w : World) : (binOp .neq 71 (chV a) (chV b)).run Tryz.prog w = .ok (.bool (!sameCh a b)) w := by
  rw [run_neq_struct, eq_chgs]
  rfl
theorem eql_chgs (a b : Ch) (w : World) : (binOp .eql 71 (chV a) (chV b)).run Tryz.prog w = .ok (.bool (sameCh a b)) w := by
  rw [run_eql_struct, eq_chgs]
  rfl
set_option maxRecDepth 100000 in
set_option maxHeartbeats 2000000 in
theorem equal_chgs {w : World} {A : Option Addr} {n c : Nat} {l : List Ch} (h : SqC w w.heap.size A n c l) {A' : Option Addr} {n' c' : Nat} {l' : List Ch} (h' : SqC w w.heap.size A' n' c' l') (hn : n ≤ 1000000) :
    Calls Tryz.prog 85 #[.slice A n c, .slice A' n' c'] w fun e w' => e = .returned (.bool (sameE l l')) ∧ Below w.heap.size w w' := by
  have HS := Lib.hid h
  have HS' := Lib.hid h'
  have hl := h.len
  have hl' := h'.len
  clear h h'
  obtain ⟨sq, hsq⟩ : ∃ sq, sameE l l' = sq := ⟨_, rfl⟩
  have HSQ := Lib.hid hsq
  rw [hsq]
  clear hsq
  go_enter Tryz.func85, Tryz.ntmps85
  by_cases hnn : n = n'
  · subst hnn
    have dn : ((n : Int) == (n : Int)) = true := by simp
    go_wp2
    go_loopw [13] (fun i wr => ∃ k : Nat, k ≤ n ∧ i = .int .i64 (k : Int) ∧ Hid (∀ j (hk : j < k) (hj : j < l.length) (hj' : j < l'.length), sameCh l[j] l'[j] = true) ∧ Hid (Below w.heap.size w wr)) (fun i _ => n - (intOf i).toNat)
    case atStart => exact ⟨0, Nat.zero_le _, rfl, Lib.hid (fun j hj => absurd hj (by omega)), Lib.hid (Below.refl _ _)⟩
    case round =>
      obtain ⟨k, hk, rfl, hg, hb⟩ := hrel
      by_cases hlt : k < n
      · have hd : decide ((k : Int) < (n : Int)) = true := by simp; omega
        have hk0 : (0 : Int) ≤ (k : Int) := Int.natCast_nonneg _
        have hk1 : (k : Int) < (n : Int) := by omega
        obtain ⟨b, o, rfl, hbl, hrg⟩ := (HS.out.below hb.out).at_ hlt
        obtain ⟨b', o', rfl, hbl', hrg'⟩ := (HS'.out.below hb.out).at_ (show k < n by omega)
        obtain ⟨r, hr⟩ : ∃ r, l[k]'(by omega) = r := ⟨_, rfl⟩
        obtain ⟨r', hr'⟩ : ∃ r', l'[k]'(by omega) = r' := ⟨_, rfl⟩
        rw [hr] at hrg
        rw [hr'] at hrg'
        have r0 : wr.cell? ⟨b, o + k * 3, none⟩ = some (.string r.p) := hrg 0 _ rfl
        have r1 : wr.cell? ⟨b, o + k * 3 + 1, none⟩ = some (.bool r.is) := hrg 1 _ rfl
        have r2 : wr.cell? ⟨b, o + k * 3 + 2, none⟩ = some (.string r.t) := hrg 2 _ rfl
        have s0 : wr.cell? ⟨b', o' + k * 3, none⟩ = some (.string r'.p) := hrg' 0 _ rfl
        have s1 : wr.cell? ⟨b', o' + k * 3 + 1, none⟩ = some (.bool r'.is) := hrg' 1 _ rfl
        have s2 : wr.cell? ⟨b', o' + k * 3 + 2, none⟩ = some (.string r'.t) := hrg' 2 _ rfl
        have hne := fun w => neq_chgs r r' w
        have hgd := chg_guard
        obtain ⟨q, hq⟩ : ∃ q, sameCh r r' = q := ⟨_, rfl⟩
        rw [hq] at hne
        clear hrg hrg'
        have YES : Hid (q = true → ∀ j (hk : j < k + 1) (hj : j < l.length) (hj' : j < l'.length), sameCh l[j] l'[j] = true) := Lib.hid (fun h1 j hjk hj hj' => by
          by_cases e : j = k
          · subst e; rw [hr, hr', hq]; exact h1
          · exact hg.out j (by omega) hj hj')
        have NO : Hid (q = false → ¬ ∀ j (hj : j < l.length) (hj' : j < l'.length), sameCh l[j] l'[j] = true) := Lib.hid (fun h1 h2 => by
          have := h2 k (by omega) (by omega)
          rw [hr, hr', hq, h1] at this
          cases this)
        clear hr hr' hq
        cases q
        · go_wp2
          go_quiet (fail)
          go_wp2
          go_ret
          exact ⟨by rw [← HSQ.out, sameE_no (fun h => NO.out (by first | rfl | trivial) h.2)]; rfl, below_drewN hb.out _⟩
        · go_wp2
          go_quiet (fail)
          go_wp2
          go_roundw
          case rel => exact ⟨k + 1, by omega, by go_num, Lib.hid (YES.out (by first | rfl | trivial)), Lib.hid (below_drewN hb.out _)⟩
          case measure => simp [intOf]; omega
      · have hd : decide ((k : Int) < (n : Int)) = false := by simp; omega
        obtain rfl : k = n := by omega
        go_wp2
        go_ret
        exact ⟨by rw [← HSQ.out, sameE_yes (by omega) (fun j hj hj' => hg.out j (by omega) hj hj')]; rfl, hb.out⟩
  · have dn : ((n : Int) == (n' : Int)) = false := by simp; omega
    go_wp2
    go_ret
    exact ⟨by rw [← HSQ.out, sameE_no (fun h => hnn (by omega))]; rfl, Below.refl _ _⟩
set_option maxHeartbeats 1600000 in
theorem sameE_any {w : World} {A : Option Addr} {n c : Nat} {l : List Ch} (h : SqC w w.heap.size A n c l) {A' : Option Addr} {n' c' : Nat} {l' : List Ch} (h' : SqC w w.heap.size A' n' c' l') (hn : n ≤ 1000000) :
    Calls Tryz.prog 73 #[.agg #[.slice A n c], .agg #[.slice A' n' c']] w fun e w' => e = .returned (.bool (sameE l l')) ∧ Below w.heap.size w w' := by
  obtain ⟨w2, hw2⟩ : ∃ w2, (w.alloc (.cells #[.slice A n c] 31)).alloc (.cells #[.slice A' n' c'] 31) = w2 := ⟨_, rfl⟩
  have B2 : Hid (Below w.heap.size w w2) := Lib.hid (by rw [← hw2]; exact ((Below.refl _ _).alloc (Nat.le_refl _) _).alloc (by simp) _)
  have X0 : Hid (Lies w2 w.heap.size 1 [.slice A n c]) := Lib.hid (by rw [← hw2]; exact (Lies.new w [.slice A n c] 31).alloc _)
  have X1 : Hid (Lies w2 (w.heap.size + 1) 1 [.slice A' n' c']) := Lib.hid (by
    rw [← hw2]
    have := Lies.new (w.alloc (.cells #[.slice A n c] 31)) [.slice A' n' c'] 31
    rwa [World.size_alloc] at this)
  have HE := Lib.hid (equal_chgs ((h.below B2.out).more B2.out.size) ((h'.below B2.out).more B2.out.size) hn)
  have HW := Lib.hid hw2
  clear hw2 h h'
  go_enter Tryz.func73, Tryz.ntmps73
  go_upto_region 1 with fail
  rw [HW.out]
  clear HW
  have q0 := X0.out.cell (j := 0) rfl
  have q1 := X1.out.cell (j := 0) rfl
  go_wp2_with fail
  refine HE.out.mono ?_
  rintro e w3 ⟨rfl, hb⟩
  have HB := Lib.hid hb
  clear hb
  go_wp2_with fail
  go_ret
  exact ⟨rfl, B2.out.trans (HB.out.mono B2.out.size)⟩
end Go.Proofs.YtcofkhmgmemkmaaGreatDoor
