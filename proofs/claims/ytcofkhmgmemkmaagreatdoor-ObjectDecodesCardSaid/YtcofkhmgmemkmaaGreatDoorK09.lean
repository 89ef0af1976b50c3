/-
  ROWS OF IDS: equal.
  LEAVES: equal.
  ROWS OF LEAVES: equal.
-/
import Derived.Test.YtcofkhmgmemkmaaGreatDoorK08
namespace Go.Proofs.YtcofkhmgmemkmaaGreatDoor
set_option linter.unusedVariables false
set_option linter.unusedSimpArgs false
open Go.RowKit Go.WideShapes Go.ChangeShapes Go.Deep

theorem id_guard : Tryz.prog.eqGuardType Tryz.prog.depth 27 = false := by kernel_rfl
theorem neq_id (a c : Idv) (w : World) : (binOp .neq 27 (idV a) (idV c)).run Tryz.prog w = .ok (.bool (!(a.b == c.b))) w := by
  rw [run_neq_struct, S3.run_equalIn_rows 9999 a.b c.b 32 _ Tryz.underlying27 a.h c.h (fun x y w => run_equalIn_int w 9998 _ _ _ x y Tryz.underlying5) w]
  rfl
theorem eql_id (a c : Idv) (w : World) : (binOp .eql 27 (idV a) (idV c)).run Tryz.prog w = .ok (.bool (a.b == c.b)) w := by
  rw [run_eql_struct, S3.run_equalIn_rows 9999 a.b c.b 32 _ Tryz.underlying27 a.h c.h (fun x y w => run_equalIn_int w 9998 _ _ _ x y Tryz.underlying5) w]
  rfl
theorem eq_id (a c : Idv) (w : World) : (Op.equalIn 10000 27 (.agg a.cells.toArray) (.agg c.cells.toArray)).run Tryz.prog w = .ok (a.b == c.b) w :=
  S3.run_equalIn_rows 9999 a.b c.b 32 _ Tryz.underlying27 a.h c.h (fun x y w => run_equalIn_int w 9998 _ _ _ x y Tryz.underlying5) w
def sameI (l l' : List Idv) : Bool := decide (l.map Idv.b = l'.map Idv.b)
theorem sameI_yes {l l' : List Idv} (h : l.length = l'.length) (k : ∀ j (hj : j < l.length) (hj' : j < l'.length), l[j].b = l'[j].b) : sameI l l' = true := by
  unfold sameI
  rw [decide_eq_true_iff]
  refine List.ext_getElem (by simpa using h) fun j hj hj2 => ?_
  simp only [List.getElem_map]
  exact k j (by simpa using hj) (by simpa using hj2)
theorem sameI_len {l l' : List Idv} (h : l.length ≠ l'.length) : sameI l l' = false := by
  unfold sameI
  rw [decide_eq_false_iff_not]
  intro e
  exact h (by have := congrArg List.length e; simpa using this)
theorem sameI_not {l l' : List Idv} {j : Nat} (hj : j < l.length) (hj' : j < l'.length) (h : l[j].b ≠ l'[j].b) : sameI l l' = false := by
  unfold sameI
  rw [decide_eq_false_iff_not]
  intro e
  have h1 := congrArg (fun x : List (List UInt8) => x[j]?) e
  simp [hj, hj'] at h1
  exact h h1
set_option maxRecDepth 100000 in
set_option maxHeartbeats 2000000 in
theorem equalI_any {w : World} {A : Option Addr} {n c : Nat} {l : List Idv} (h : SqI w w.heap.size A n c l) {A' : Option Addr} {n' c' : Nat} {l' : List Idv} (h' : SqI w w.heap.size A' n' c' l') (hn : n ≤ 1000000) :
    Calls Tryz.prog 72 #[.slice A n c, .slice A' n' c'] w fun e w' => e = .returned (.bool (sameI l l')) ∧ Below w.heap.size w w' := by
  have HS := Lib.hid h
  have HS' := Lib.hid h'
  have hl := h.len
  have hl' := h'.len
  clear h h'
  obtain ⟨sq, hsq⟩ : ∃ sq, sameI l l' = sq := ⟨_, rfl⟩
  have HSQ := Lib.hid hsq
  rw [hsq]
  clear hsq
  go_enter Tryz.func72, Tryz.ntmps72
  by_cases hnn : n = n'
  · subst hnn
    have dn : ((n : Int) == (n : Int)) = true := by simp
    go_wp2
    go_loopw [13] (fun i wr => ∃ k : Nat, k ≤ n ∧ i = .int .i64 (k : Int) ∧ Hid (∀ j (hk : j < k) (hj : j < l.length) (hj' : j < l'.length), l[j].b = l'[j].b) ∧ Hid (Below w.heap.size w wr)) (fun i _ => n - (intOf i).toNat)
    case atStart => exact ⟨0, Nat.zero_le _, rfl, Lib.hid (fun j hj => absurd hj (by omega)), Lib.hid (Below.refl _ _)⟩
    case round =>
      obtain ⟨k, hk, rfl, hg, hb⟩ := hrel
      by_cases hlt : k < n
      · have hd : decide ((k : Int) < (n : Int)) = true := by simp; omega
        have hk0 : (0 : Int) ≤ (k : Int) := Int.natCast_nonneg _
        have hk1 : (k : Int) < (n : Int) := by omega
        obtain ⟨b, o, rfl, hbl, hrg⟩ := (HS.out.below hb.out).at_ hlt
        obtain ⟨b', o', rfl, hbl', hrg'⟩ := (HS'.out.below hb.out).at_ (show k < n by omega)
        obtain ⟨r, hr⟩ : ∃ r, l[k]'(by omega) = r := ⟨_, rfl⟩
        obtain ⟨r', hr'⟩ : ∃ r', l'[k]'(by omega) = r' := ⟨_, rfl⟩
        rw [hr] at hrg
        rw [hr'] at hrg'
        have hne := fun w => eq_id r r' w
        have hgd := id_guard
        obtain ⟨q, hq⟩ : ∃ q, (r.b == r'.b) = q := ⟨_, rfl⟩
        rw [hq] at hne
        have YES : Hid (q = true → ∀ j (hk : j < k + 1) (hj : j < l.length) (hj' : j < l'.length), l[j].b = l'[j].b) := Lib.hid (fun h1 j hjk hj hj' => by
          by_cases e : j = k
          · subst e; rw [hr, hr']; rw [h1] at hq; exact by simpa using hq
          · exact hg.out j (by omega) hj hj')
        have NO : Hid (q = false → sq = false) := Lib.hid (fun h1 => by
          rw [← HSQ.out]
          exact sameI_not (j := k) (by omega) (by omega) (by rw [hr, hr']; rw [h1] at hq; simpa using hq))
        clear hr hr' hq
        go_upto_region 6 with fail
        refine wp_region_noPanic ?_
        refine wp_region_held_drew (S := (fun w' => w'.rangeAt b (o + k * 32) r.cells ∧ w'.rangeAt b' (o' + k * 32) r'.cells ∧ w'.heap.size = wr.heap.size ∧ Below w.heap.size w w')) (by kernel_rfl) ⟨hrg, hrg', rfl, hb.out.drew⟩ (fun _ => ?_)
        refine wpAnyH_take (i := 0) rfl (by kernel_rfl) (by kernel_rfl) (by kernel_rfl) (fun _ _ _ h => h) (.inl ⟨rfl, fun w' hw' => (by clear hw'; go_simp; (try rfl))⟩) ⟨hrg, hrg', rfl, hb.out.drew⟩ ?_
        simp only [List.getElem_toArray, List.getElem_cons_zero, List.getElem_cons_succ, Act.put, List.setIfInBounds_toArray, List.set_cons_succ, List.set_cons_zero]
        refine wpAnyH_take (i := 1) rfl (by kernel_rfl) (by kernel_rfl) (by kernel_rfl) (fun _ _ _ h => h) (.inl ⟨rfl, fun w' hw' => (by clear hw'; go_simp; (try rfl))⟩) ⟨hrg, hrg', rfl, hb.out.drew⟩ ?_
        simp only [List.getElem_toArray, List.getElem_cons_zero, List.getElem_cons_succ, Act.put, List.setIfInBounds_toArray, List.set_cons_succ, List.set_cons_zero]
        refine wpAnyH_take (i := 2) rfl (by kernel_rfl) (by kernel_rfl) (by kernel_rfl) (fun _ _ _ h => h) (.inl ⟨rfl, fun w' hw' => (by clear hw'; go_simp; (try rfl))⟩) ⟨hrg, hrg', rfl, hb.out.drew⟩ ?_
        simp only [List.getElem_toArray, List.getElem_cons_zero, List.getElem_cons_succ, Act.put, List.setIfInBounds_toArray, List.set_cons_succ, List.set_cons_zero]
        refine wpAnyH_take (i := 3) rfl (by kernel_rfl) (by kernel_rfl) (by kernel_rfl) (fun _ _ _ h => h) (yieldsIf_load_mid rfl 27 _ rfl (b) ((o + k * 32)) rfl (r.cells) _ (fun w' hw' => hw'.1) Tryz.underlying27 rfl (by rw [id_sz]; exact size_idv)) ⟨hrg, hrg', rfl, hb.out.drew⟩ ?_
        simp only [List.getElem_toArray, List.getElem_cons_zero, List.getElem_cons_succ, Act.put, List.setIfInBounds_toArray, List.set_cons_succ, List.set_cons_zero]
        refine wpAnyH_take (i := 4) rfl (by kernel_rfl) (by kernel_rfl) (by kernel_rfl) (fun _ _ _ h => h) (.inl ⟨rfl, fun w' hw' => (by clear hw'; go_simp; (try rfl))⟩) ⟨hrg, hrg', rfl, hb.out.drew⟩ ?_
        simp only [List.getElem_toArray, List.getElem_cons_zero, List.getElem_cons_succ, Act.put, List.setIfInBounds_toArray, List.set_cons_succ, List.set_cons_zero]
        refine wpAnyH_take (i := 5) rfl (by kernel_rfl) (by kernel_rfl) (by kernel_rfl) (fun _ _ _ h => h) (.inl ⟨rfl, fun w' hw' => (by clear hw'; go_simp; (try rfl))⟩) ⟨hrg, hrg', rfl, hb.out.drew⟩ ?_
        simp only [List.getElem_toArray, List.getElem_cons_zero, List.getElem_cons_succ, Act.put, List.setIfInBounds_toArray, List.set_cons_succ, List.set_cons_zero]
        refine wpAnyH_take (i := 6) rfl (by kernel_rfl) (by kernel_rfl) (by kernel_rfl) (fun _ _ _ h => h) (.inl ⟨rfl, fun w' hw' => (by clear hw'; go_simp; (try rfl))⟩) ⟨hrg, hrg', rfl, hb.out.drew⟩ ?_
        simp only [List.getElem_toArray, List.getElem_cons_zero, List.getElem_cons_succ, Act.put, List.setIfInBounds_toArray, List.set_cons_succ, List.set_cons_zero]
        refine wpAnyH_take (i := 7) rfl (by kernel_rfl) (by kernel_rfl) (by kernel_rfl) (fun _ _ _ h => h) (yieldsIf_load_mid rfl 27 _ rfl (b') ((o' + k * 32)) rfl (r'.cells) _ (fun w' hw' => hw'.2.1) Tryz.underlying27 rfl (by rw [id_sz]; exact size_idv)) ⟨hrg, hrg', rfl, hb.out.drew⟩ ?_
        simp only [List.getElem_toArray, List.getElem_cons_zero, List.getElem_cons_succ, Act.put, List.setIfInBounds_toArray, List.set_cons_succ, List.set_cons_zero]
        refine wpAnyH_take (i := 8) rfl (by kernel_rfl) (by kernel_rfl) (by kernel_rfl) (fun _ _ _ h => h) (.inl ⟨rfl, fun w' hw' => (by clear hw'; have e := hne w'; go_simp; (try rfl))⟩) ⟨hrg, hrg', rfl, hb.out.drew⟩ ?_
        simp only [List.getElem_toArray, List.getElem_cons_zero, List.getElem_cons_succ, Act.put, List.setIfInBounds_toArray, List.set_cons_succ, List.set_cons_zero]
        refine wpAnyH_done (by kernel_rfl) ?_ _
        refine NoPanic.normal ?_
        have GE := Lib.hid (show Below w.heap.size w wr.drew from hb.out.drew)
        clear hrg hrg'
        cases q
        · have e := NO.out (by first | rfl | trivial)
          subst e
          go_wp2_with fail
          go_ret
          exact ⟨rfl, GE.out⟩
        · go_wp2_with fail
          go_roundw
          case rel => exact ⟨k + 1, by omega, by go_num, Lib.hid (YES.out (by first | rfl | trivial)), GE⟩
          case measure => simp [intOf]; omega
      · have hd : decide ((k : Int) < (n : Int)) = false := by simp; omega
        obtain rfl : k = n := by omega
        go_wp2
        go_ret
        exact ⟨by rw [← HSQ.out, sameI_yes (by omega) (fun j hj hj' => hg.out j (by omega) hj hj')]; rfl, hb.out⟩
  · have dn : ((n : Int) == (n' : Int)) = false := by simp; omega
    go_wp2
    go_ret
    exact ⟨by rw [← HSQ.out, sameI_len (fun h => hnn (by omega))]; rfl, Below.refl _ _⟩
end Go.Proofs.YtcofkhmgmemkmaaGreatDoor
namespace Go.Proofs.YtcofkhmgmemkmaaGreatDoor
set_option linter.unusedVariables false
set_option linter.unusedSimpArgs false
open Go.RowKit Go.WideShapes Go.ChangeShapes Go.Deep

theorem lf_flat : Tryz.prog.stoodInHeld 68 = false := by kernel_rfl
theorem lf_guard : Tryz.prog.eqGuardType Tryz.prog.depth 68 = false := by kernel_rfl
theorem lf_fields : Tryz.prog.underlying 68 = some (.struct (Tryz.prog.fieldsOf 68)) := by kernel_rfl
theorem lf_part1 (l : Lf) (w : World) : (part 27 l.cells.toArray 1).run Tryz.prog w = .ok (.agg (S3.bvs l.id.b).toArray) w := by
  have hu := Tryz.underlying27
  have hs : (sizeOf 27).run Tryz.prog w = .ok 32 w := by kernel_rfl
  simp only [part, isAgg, Sem.run_bind, run_underlying hu, Result.andThen_ok, Sem.run_pure, if_true, hs]
  have e : l.cells.toArray.extract 1 (1 + 32) = (S3.bvs l.id.b).toArray := by
    apply Array.ext'
    simp [Lf.cells]
    exact List.take_of_length_le (by rw [S3.bvs_len, l.id.h]; exact Nat.le_refl _)
  rw [e]
theorem lf_part0 (l : Lf) (w : World) : (part 9 l.cells.toArray 0).run Tryz.prog w = .ok (.string l.p) w := by
  have hu := Tryz.underlying9
  simp [part, isAgg, Sem.run_bind, run_underlying hu, Lf.cells]
def sameLf (a b : Lf) : Bool := a.p.toList == b.p.toList && a.id.b == b.id.b

/-- Equality of structs, field by field. -/
theorem eqF_nil {P : Program} (w : World) (dd : Nat) (xs ys : Array Value) : (Op.eqFields dd xs ys []).run P w = .ok true w := by simp [Op.eqFields]
theorem eqF_cons {P : Program} {w : World} {dd : Nat} {xs ys : Array Value} {f : Field} {fs : List Field} {a b : Value} {r r' : Bool} (hn : f.name ≠ "_") (p1 : (part f.type xs f.offset).run P w = .ok a w)
    (p2 : (part f.type ys f.offset).run P w = .ok b w) (p3 : (Op.equalIn dd f.type a b).run P w = .ok r w) (p4 : (Op.eqFields dd xs ys fs).run P w = .ok r' w) : (Op.eqFields dd xs ys (f :: fs)).run P w = .ok (r && r') w := by
  simp only [Op.eqFields, hn, ne_eq, not_false_eq_true, if_true, Sem.run_bind, p1, p2, p3, Result.andThen_ok]
  cases r
  · simp
  · simpa using p4
set_option maxRecDepth 100000 in
theorem eq_lf (a b : Lf) (w : World) : (Op.equalIn 10000 68 (.agg a.cells.toArray) (.agg b.cells.toArray)).run Tryz.prog w = .ok (sameLf a b) w := by
  rw [run_equalIn_agg w 9999 68 _ _ lf_fields lf_flat]
  simp only [Program.fieldsOf, Tryz.underlying68]
  unfold sameLf
  have h1 : (Op.equalIn 9999 9 (.string a.p) (.string b.p)).run Tryz.prog w = .ok (a.p.toList == b.p.toList) w := run_equalIn_string w 9998 _ _ _ Tryz.underlying9
  have h2 : (Op.equalIn 9999 27 (.agg (S3.bvs a.id.b).toArray) (.agg (S3.bvs b.id.b).toArray)).run Tryz.prog w = .ok (a.id.b == b.id.b) w := S3.run_equalIn_rows 9998 a.id.b b.id.b 32 _ Tryz.underlying27 a.id.h b.id.h (fun x y w => run_equalIn_int w 9997 _ _ _ x y Tryz.underlying5) w
  show (Op.eqFields 9999 a.cells.toArray b.cells.toArray [_, _]).run Tryz.prog w = _
  exact (eqF_cons (by decide) (lf_part0 a w) (lf_part0 b w) h1 (eqF_cons (by decide) (lf_part1 a w) (lf_part1 b w) h2 (eqF_nil w 9999 _ _))).trans (by rw [Bool.and_true])
end Go.Proofs.YtcofkhmgmemkmaaGreatDoor
namespace Go.Proofs.YtcofkhmgmemkmaaGreatDoor
set_option linter.unusedVariables false
set_option linter.unusedSimpArgs false
open Go.RowKit Go.WideShapes Go.ChangeShapes Go.Deep

open Classical in
noncomputable def sameLs (l l' : List Lf) : Bool := decide (l.length = l'.length ∧ ∀ j (hj : j < l.length) (hj' : j < l'.length), sameLf l[j] l'[j] = true)
theorem sameLs_yes {l l' : List Lf} (h : l.length = l'.length) (k : ∀ j (hj : j < l.length) (hj' : j < l'.length), sameLf l[j] l'[j] = true) : sameLs l l' = true := decide_eq_true ⟨h, k⟩
theorem sameLs_no {l l' : List Lf} (h : ¬ (l.length = l'.length ∧ ∀ j (hj : j < l.length) (hj' : j < l'.length), sameLf l[j] l'[j] = true)) : sameLs l l' = false := decide_eq_false h
set_option maxRecDepth 100000 in
set_option maxHeartbeats 2000000 in
theorem equalL_any {w : World} {A : Option Addr} {n c : Nat} {l : List Lf} (h : SqL w w.heap.size A n c l) {A' : Option Addr} {n' c' : Nat} {l' : List Lf} (h' : SqL w w.heap.size A' n' c' l') (hn : n ≤ 1000000) :
    Calls Tryz.prog 71 #[.slice A n c, .slice A' n' c'] w fun e w' => e = .returned (.bool (sameLs l l')) ∧ Below w.heap.size w w' := by
  have HS := Lib.hid h
  have HS' := Lib.hid h'
  have hl := h.len
  have hl' := h'.len
  clear h h'
  obtain ⟨sq, hsq⟩ : ∃ sq, sameLs l l' = sq := ⟨_, rfl⟩
  have HSQ := Lib.hid hsq
  rw [hsq]
  clear hsq
  go_enter Tryz.func71, Tryz.ntmps71
  by_cases hnn : n = n'
  · subst hnn
    have dn : ((n : Int) == (n : Int)) = true := by simp
    go_wp2
    go_loopw [13] (fun i wr => ∃ k : Nat, k ≤ n ∧ i = .int .i64 (k : Int) ∧ Hid (∀ j (hk : j < k) (hj : j < l.length) (hj' : j < l'.length), sameLf l[j] l'[j] = true) ∧ Hid (Below w.heap.size w wr)) (fun i _ => n - (intOf i).toNat)
    case atStart => exact ⟨0, Nat.zero_le _, rfl, Lib.hid (fun j hj => absurd hj (by omega)), Lib.hid (Below.refl _ _)⟩
    case round =>
      obtain ⟨k, hk, rfl, hg, hb⟩ := hrel
      by_cases hlt : k < n
      · have hd : decide ((k : Int) < (n : Int)) = true := by simp; omega
        have hk0 : (0 : Int) ≤ (k : Int) := Int.natCast_nonneg _
        have hk1 : (k : Int) < (n : Int) := by omega
        obtain ⟨b, o, rfl, hbl, hrg⟩ := (HS.out.below hb.out).at_ hlt
        obtain ⟨b', o', rfl, hbl', hrg'⟩ := (HS'.out.below hb.out).at_ (show k < n by omega)
        obtain ⟨r, hr⟩ : ∃ r, l[k]'(by omega) = r := ⟨_, rfl⟩
        obtain ⟨r', hr'⟩ : ∃ r', l'[k]'(by omega) = r' := ⟨_, rfl⟩
        rw [hr] at hrg
        rw [hr'] at hrg'
        have hne := fun w => eq_lf r r' w
        have hgd := lf_guard
        obtain ⟨q, hq⟩ : ∃ q, sameLf r r' = q := ⟨_, rfl⟩
        rw [hq] at hne
        have YES : Hid (q = true → ∀ j (hk : j < k + 1) (hj : j < l.length) (hj' : j < l'.length), sameLf l[j] l'[j] = true) := Lib.hid (fun h1 j hjk hj hj' => by
          by_cases e : j = k
          · subst e; rw [hr, hr', hq]; exact h1
          · exact hg.out j (by omega) hj hj')
        have NO : Hid (q = false → sq = false) := Lib.hid (fun h1 => by
          rw [← HSQ.out]
          exact sameLs_no (fun hh => by have := hh.2 k (by omega) (by omega); rw [hr, hr', hq, h1] at this; cases this))
        clear hr hr' hq
        go_upto_region 6 with fail
        refine wp_region_noPanic ?_
        refine wp_region_held_drew (S := (fun w' => w'.rangeAt b (o + k * 33) r.cells ∧ w'.rangeAt b' (o' + k * 33) r'.cells ∧ w'.heap.size = wr.heap.size ∧ Below w.heap.size w w')) (by kernel_rfl) ⟨hrg, hrg', rfl, hb.out.drew⟩ (fun _ => ?_)
        refine wpAnyH_take (i := 0) rfl (by kernel_rfl) (by kernel_rfl) (by kernel_rfl) (fun _ _ _ h => h) (.inl ⟨rfl, fun w' hw' => (by clear hw'; go_simp; (try rfl))⟩) ⟨hrg, hrg', rfl, hb.out.drew⟩ ?_
        simp only [List.getElem_toArray, List.getElem_cons_zero, List.getElem_cons_succ, Act.put, List.setIfInBounds_toArray, List.set_cons_succ, List.set_cons_zero]
        refine wpAnyH_take (i := 1) rfl (by kernel_rfl) (by kernel_rfl) (by kernel_rfl) (fun _ _ _ h => h) (.inl ⟨rfl, fun w' hw' => (by clear hw'; go_simp; (try rfl))⟩) ⟨hrg, hrg', rfl, hb.out.drew⟩ ?_
        simp only [List.getElem_toArray, List.getElem_cons_zero, List.getElem_cons_succ, Act.put, List.setIfInBounds_toArray, List.set_cons_succ, List.set_cons_zero]
        refine wpAnyH_take (i := 2) rfl (by kernel_rfl) (by kernel_rfl) (by kernel_rfl) (fun _ _ _ h => h) (.inl ⟨rfl, fun w' hw' => (by clear hw'; go_simp; (try rfl))⟩) ⟨hrg, hrg', rfl, hb.out.drew⟩ ?_
        simp only [List.getElem_toArray, List.getElem_cons_zero, List.getElem_cons_succ, Act.put, List.setIfInBounds_toArray, List.set_cons_succ, List.set_cons_zero]
        refine wpAnyH_take (i := 3) rfl (by kernel_rfl) (by kernel_rfl) (by kernel_rfl) (fun _ _ _ h => h) (yieldsIf_load_mid rfl 68 _ rfl (b) ((o + k * 33)) rfl (r.cells) _ (fun w' hw' => hw'.1) Tryz.underlying68 rfl (by rw [lf_sz]; exact size_lf)) ⟨hrg, hrg', rfl, hb.out.drew⟩ ?_
        simp only [List.getElem_toArray, List.getElem_cons_zero, List.getElem_cons_succ, Act.put, List.setIfInBounds_toArray, List.set_cons_succ, List.set_cons_zero]
        refine wpAnyH_take (i := 4) rfl (by kernel_rfl) (by kernel_rfl) (by kernel_rfl) (fun _ _ _ h => h) (.inl ⟨rfl, fun w' hw' => (by clear hw'; go_simp; (try rfl))⟩) ⟨hrg, hrg', rfl, hb.out.drew⟩ ?_
        simp only [List.getElem_toArray, List.getElem_cons_zero, List.getElem_cons_succ, Act.put, List.setIfInBounds_toArray, List.set_cons_succ, List.set_cons_zero]
        refine wpAnyH_take (i := 5) rfl (by kernel_rfl) (by kernel_rfl) (by kernel_rfl) (fun _ _ _ h => h) (.inl ⟨rfl, fun w' hw' => (by clear hw'; go_simp; (try rfl))⟩) ⟨hrg, hrg', rfl, hb.out.drew⟩ ?_
        simp only [List.getElem_toArray, List.getElem_cons_zero, List.getElem_cons_succ, Act.put, List.setIfInBounds_toArray, List.set_cons_succ, List.set_cons_zero]
        refine wpAnyH_take (i := 6) rfl (by kernel_rfl) (by kernel_rfl) (by kernel_rfl) (fun _ _ _ h => h) (.inl ⟨rfl, fun w' hw' => (by clear hw'; go_simp; (try rfl))⟩) ⟨hrg, hrg', rfl, hb.out.drew⟩ ?_
        simp only [List.getElem_toArray, List.getElem_cons_zero, List.getElem_cons_succ, Act.put, List.setIfInBounds_toArray, List.set_cons_succ, List.set_cons_zero]
        refine wpAnyH_take (i := 7) rfl (by kernel_rfl) (by kernel_rfl) (by kernel_rfl) (fun _ _ _ h => h) (yieldsIf_load_mid rfl 68 _ rfl (b') ((o' + k * 33)) rfl (r'.cells) _ (fun w' hw' => hw'.2.1) Tryz.underlying68 rfl (by rw [lf_sz]; exact size_lf)) ⟨hrg, hrg', rfl, hb.out.drew⟩ ?_
        simp only [List.getElem_toArray, List.getElem_cons_zero, List.getElem_cons_succ, Act.put, List.setIfInBounds_toArray, List.set_cons_succ, List.set_cons_zero]
        refine wpAnyH_take (i := 8) rfl (by kernel_rfl) (by kernel_rfl) (by kernel_rfl) (fun _ _ _ h => h) (.inl ⟨rfl, fun w' hw' => (by clear hw'; have e := hne w'; go_simp; (try rfl))⟩) ⟨hrg, hrg', rfl, hb.out.drew⟩ ?_
        simp only [List.getElem_toArray, List.getElem_cons_zero, List.getElem_cons_succ, Act.put, List.setIfInBounds_toArray, List.set_cons_succ, List.set_cons_zero]
        refine wpAnyH_done (by kernel_rfl) ?_ _
        refine NoPanic.normal ?_
        have GE := Lib.hid (show Below w.heap.size w wr.drew from hb.out.drew)
        clear hrg hrg'
        cases q
        · have e := NO.out (by first | rfl | trivial)
          subst e
          go_wp2_with fail
          go_ret
          exact ⟨rfl, GE.out⟩
        · go_wp2_with fail
          go_roundw
          case rel => exact ⟨k + 1, by omega, by go_num, Lib.hid (YES.out (by first | rfl | trivial)), GE⟩
          case measure => simp [intOf]; omega
      · have hd : decide ((k : Int) < (n : Int)) = false := by simp; omega
        obtain rfl : k = n := by omega
        go_wp2
        go_ret
        exact ⟨by rw [← HSQ.out, sameLs_yes (by omega) (fun j hj hj' => hg.out j (by omega) hj hj')]; rfl, hb.out⟩
  · have dn : ((n : Int) == (n' : Int)) = false := by simp; omega
    go_wp2
    go_ret
    exact ⟨by rw [← HSQ.out, sameLs_no (fun hh => hnn (by omega))]; rfl, Below.refl _ _⟩
end Go.Proofs.YtcofkhmgmemkmaaGreatDoor
