/-
  MERGE: what it has where one of the three is taken at each conflict (pure; for MergeHas).
  STAGE 7's STATEMENTS: what a map has at a path (MergeHas's own word); four maps in a row.
  OWN LAW: a drawn region by an invariant of what is done so far: orders that come to the same state are walked once.
  OWN LAW: variables that are made at whatever time beside a chain of calls, in a drawn region: each state is walked once.
-/
import Derived.Test.YtkdmlffnkomdhaaTk
import Derived.Test.YtkdmlffnkomdhaaMt
namespace Go.Proofs.Ytkdmlffnkomdhaa
set_option linter.unusedVariables false
set_option linter.unusedSimpArgs false
open Go.RowKit Go.WideShapes Go.ChangeShapes Go.Deep

theorem side_fit {l : List Rw} (hl : rightR l = true) {s : ByteArray} (hs : fitP s ⟨#[]⟩ = true) : fitP s (sdW l s).t = true ∧ ((sdW l s).is = false → (sdW l s).t = ⟨#[]⟩) := by
  unfold sdW
  cases hf : findW Rw.p l s with
  | none => exact ⟨hs, fun _ => rfl⟩
  | some r =>
    refine ⟨?_, fun h => by cases h⟩
    have h1 := (fitW_mem (rightR_up hl).2).2 r (findW_mem hf)
    have h2 := find_path hf
    show fitP s r.t = true
    rw [← h2]
    exact h1
theorem pls_mem {lb lo lt : List Rw} (hb : rightR lb = true) (ho : rightR lo = true) (ht : rightR lt = true) {x : Pl} (hx : x ∈ plsW lb lo lt) : ∃ s, x = plW lb lo lt s ∧ fitP s ⟨#[]⟩ = true := by
  unfold plsW at hx
  obtain ⟨s, hs, rfl⟩ := List.mem_map.1 hx
  refine ⟨s, rfl, ?_⟩
  rw [pathsW_mem] at hs
  rcases hs with h | ⟨r, hr, rfl⟩
  · cases h
  · simp only [List.mem_append] at hr
    rcases hr with h | h | h
    · exact fitP_none ((fitW_mem (rightR_up hb).2).2 r h)
    · exact fitP_none ((fitW_mem (rightR_up ho).2).2 r h)
    · exact fitP_none ((fitW_mem (rightR_up ht).2).2 r h)
theorem pls_up (lb lo lt : List Rw) : Up Pl.p (plsW lb lo lt) := by
  unfold Up plsW
  rw [List.pairwise_map]
  exact pathsW_up _ _ (by simp)
theorem conf_up (lb lo lt : List Rw) : Up Pl.p (confW lb lo lt) := List.Pairwise.filter _ (pls_up lb lo lt)
theorem take_fits (lb lo lt : List Rw) (wh : Int) : eqW (confW lb lo lt) ((confW lb lo lt).map (tkW wh)) = true := by
  unfold eqW
  rw [decide_eq_true_iff, List.map_map]
  rfl
theorem take_up (lb lo lt : List Rw) (wh : Int) : Up Ch.p ((confW lb lo lt).map (tkW wh)) := by
  unfold Up
  rw [List.pairwise_map]
  exact conf_up lb lo lt
theorem pick_or (wh : Int) (x : Pl) : pickW wh x = x.b ∨ pickW wh x = x.o ∨ pickW wh x = x.t := by
  unfold pickW
  split
  · exact .inl rfl
  · split
    · exact .inr (.inr rfl)
    · exact .inr (.inl rfl)
theorem pick_fit {lb lo lt : List Rw} (hb : rightR lb = true) (ho : rightR lo = true) (ht : rightR lt = true) (wh : Int) {s : ByteArray} (hs : fitP s ⟨#[]⟩ = true) : fitP s (pickW wh (plW lb lo lt s)).t = true ∧ ((pickW wh (plW lb lo lt s)).is = false → (pickW wh (plW lb lo lt s)).t = ⟨#[]⟩) := by
  rcases pick_or wh (plW lb lo lt s) with e | e | e <;> rw [e]
  · exact side_fit hb hs
  · exact side_fit ho hs
  · exact side_fit ht hs
theorem take_right {lb lo lt : List Rw} (hb : rightR lb = true) (ho : rightR lo = true) (ht : rightR lt = true) (wh : Int) (hl : (confW lb lo lt).length ≤ 32) : rightC ((confW lb lo lt).map (tkW wh)) = true := by
  have hall : ∀ c ∈ (confW lb lo lt).map (tkW wh), fitP c.p c.t = true ∧ mud c = false := fun c hc => by
    obtain ⟨x, hx, rfl⟩ := List.mem_map.1 hc
    obtain ⟨s, rfl, hs⟩ := pls_mem hb ho ht (List.mem_filter.1 hx).1
    obtain ⟨h1, h2⟩ := pick_fit hb ho ht wh hs
    refine ⟨h1, ?_⟩
    unfold mud tkW
    cases h : (pickW wh (plW lb lo lt s)).is with
    | true => rfl
    | false => rw [h2 h, ByteArray.toList_eq]; rfl
  unfold rightC fitW mudW
  rw [Bool.and_eq_true, Bool.and_eq_true, Bool.and_eq_true, decide_eq_true_eq, List.all_eq_true, Bool.not_eq_true', List.any_eq_false, up_iff]
  exact ⟨⟨⟨by simpa using hl, fun c hc => (hall c hc).1⟩, take_up lb lo lt wh⟩, fun c hc => by rw [(hall c hc).2]; simp⟩
/-- What is to be at a place. -/
def wantW (wh : Int) (x : Pl) : Sd := if conflW x then pickW wh x else agreedW x
theorem has_want {lb lo lt : List Rw} (wh : Int) {s : ByteArray} (hs : s ∈ pathsW Rw.p [] (lb ++ (lo ++ lt))) : hasM ((confW lb lo lt).map (tkW wh)) (plW lb lo lt s) = wantW wh (plW lb lo lt s) := by
  unfold hasM wantW
  cases hc : conflW (plW lb lo lt s) with
  | false => rfl
  | true =>
    have hx : plW lb lo lt s ∈ confW lb lo lt := List.mem_filter.2 ⟨List.mem_map.2 ⟨s, hs, rfl⟩, hc⟩
    have hf : findW Ch.p ((confW lb lo lt).map (tkW wh)) (plW lb lo lt s).p = some (tkW wh (plW lb lo lt s)) := findW_self (a := tkW wh (plW lb lo lt s)) (take_up lb lo lt wh) (List.mem_map.2 ⟨_, hx, rfl⟩)
    rw [hf]
    rfl
theorem want_none {lb lo lt : List Rw} (wh : Int) {s : ByteArray} (hs : s ∉ pathsW Rw.p [] (lb ++ (lo ++ lt))) : plW lb lo lt s = ⟨s, ⟨false, ⟨#[]⟩⟩, ⟨false, ⟨#[]⟩⟩, ⟨false, ⟨#[]⟩⟩⟩ := by
  rw [pathsW_mem] at hs
  have h2 : ∀ r ∈ lb ++ (lo ++ lt), r.p ≠ s := fun r hr e => hs (.inr ⟨r, hr, e⟩)
  unfold plW
  rw [sdW_none fun r hr => h2 r (by simp [hr]), sdW_none fun r hr => h2 r (by simp [hr]), sdW_none fun r hr => h2 r (by simp [hr])]
theorem want_empty {lb lo lt : List Rw} (hb : rightR lb = true) (ho : rightR lo = true) (ht : rightR lt = true) (wh : Int) {s : ByteArray} (hs : fitP s ⟨#[]⟩ = true) : fitP s (wantW wh (plW lb lo lt s)).t = true ∧ ((wantW wh (plW lb lo lt s)).is = false → (wantW wh (plW lb lo lt s)).t = ⟨#[]⟩) := by
  unfold wantW
  split
  · exact pick_fit hb ho ht wh hs
  · unfold agreedW
    split
    · exact side_fit ht hs
    · exact side_fit ho hs
/-- What the merge has at whatever path. -/
theorem merged_side {lb lo lt : List Rw} (hb : rightR lb = true) (ho : rightR lo = true) (ht : rightR lt = true) (wh : Int) (s : ByteArray) : sdW (mergedW lb lo lt ((confW lb lo lt).map (tkW wh))) s = wantW wh (plW lb lo lt s) := by
  unfold sdW
  rw [merged_find]
  by_cases hs : s ∈ pathsW Rw.p [] (lb ++ (lo ++ lt))
  · obtain ⟨s', e, hf⟩ := pls_mem hb ho ht (List.mem_map.2 ⟨s, hs, rfl⟩ : plW lb lo lt s ∈ plsW lb lo lt)
    obtain rfl : s = s' := congrArg Pl.p e
    have h2 := (want_empty hb ho ht wh hf).2
    unfold pieceM
    rw [has_want wh hs]
    cases hw : (wantW wh (plW lb lo lt s)).is with
    | true =>
      simp only [if_true, List.head?_cons, Option.isSome_some, textR]
      rw [← hw]
    | false =>
      simp only [Bool.false_eq_true, if_false, List.head?_nil, Option.isSome_none, textR]
      rw [← h2 hw, ← hw]
  · rw [want_none wh hs]
    have e : ∀ by', pieceM by' ⟨s, ⟨false, ⟨#[]⟩⟩, ⟨false, ⟨#[]⟩⟩, ⟨false, ⟨#[]⟩⟩⟩ = [] := fun by' => by simp [pieceM, hasM, conflW, agreedW, sameSd]
    rw [e]
    simp [wantW, conflW, agreedW, sameSd, textR]
theorem merged_right {lb lo lt : List Rw} (hb : rightR lb = true) (ho : rightR lo = true) (ht : rightR lt = true) (wh : Int) (hl : (mergedW lb lo lt ((confW lb lo lt).map (tkW wh))).length ≤ 32) : rightR (mergedW lb lo lt ((confW lb lo lt).map (tkW wh))) = true := by
  unfold rightR fitW
  rw [Bool.and_eq_true, Bool.and_eq_true, decide_eq_true_eq, List.all_eq_true, up_iff]
  refine ⟨⟨hl, fun r hr => ?_⟩, merged_up lb lo lt _⟩
  rw [merged_flat] at hr
  obtain ⟨s, hs, hr⟩ := List.mem_flatMap.1 hr
  obtain ⟨s', e, hf⟩ := pls_mem hb ho ht (List.mem_map.2 ⟨s, hs, rfl⟩ : plW lb lo lt s ∈ plsW lb lo lt)
  obtain rfl : s = s' := congrArg Pl.p e
  have h2 := (want_empty hb ho ht wh hf).1
  unfold pieceM at hr
  rw [has_want wh hs] at hr
  split at hr
  · obtain rfl : r = _ := by simpa using hr
    exact h2
  · cases hr
/-- No path of a merge is wrong. -/
theorem want_holds (wh : Int) (p : Pl) (x : Sd) (hx : x = wantW wh p) :
    ((!sameSd x p.b && !sameSd x p.o && !sameSd x p.t) || (sameSd p.b p.o && sameSd p.b p.t && !sameSd x p.b) || (!sameSd p.o p.b && sameSd p.t p.b && !sameSd x p.o) || (!sameSd p.t p.b && sameSd p.o p.b && !sameSd x p.t)) = false := by
  subst hx
  rw [sameSd_comm p.o p.b, sameSd_comm p.t p.b]
  unfold wantW conflW agreedW
  cases h1 : sameSd p.b p.o with
  | true =>
    have e := sameSd_iff.1 h1
    simp [sameSd_refl]
    intro h
    rw [← sameSd_iff.1 h, sameSd_refl]
  | false =>
    cases h2 : sameSd p.b p.t with
    | true => simp [sameSd_refl]
    | false =>
      cases h3 : sameSd p.o p.t with
      | true => simp [sameSd_refl]
      | false =>
        rcases pick_or wh p with e | e | e <;> simp [e, sameSd_refl]
theorem mergeE_take {lb lo lt : List Rw} (hb : rightR lb = true) (ho : rightR lo = true) (ht : rightR lt = true) (wh : Int) (hl : (confW lb lo lt).length ≤ 32) : mergeE lb lo lt ((confW lb lo lt).map (tkW wh)) = mergedE lb lo lt ((confW lb lo lt).map (tkW wh)) := by
  unfold mergeE confE
  rw [hb, ho, ht, take_right hb ho ht wh hl, take_fits]
  simp
theorem takeE_parts {lb lo lt : List Rw} (h : takeE lb lo lt = 0) : rightR lb = true ∧ rightR lo = true ∧ rightR lt = true ∧ (confW lb lo lt).length ≤ 32 := by
  unfold takeE confE at h
  cases hr : (rightR lb && (rightR lo && rightR lt)) with
  | false => rw [hr] at h; simp at h
  | true =>
    rw [hr] at h
    simp only [Bool.and_eq_true] at hr
    obtain ⟨r1, r2, r3⟩ := hr
    refine ⟨r1, r2, r3, ?_⟩
    by_cases h3 : 32 < (confW lb lo lt).length
    · simp [h3] at h
    · omega
end Go.Proofs.Ytkdmlffnkomdhaa
namespace Go.Proofs.Ytkdmlffnkomdhaa
set_option linter.unusedVariables false
set_option linter.unusedSimpArgs false
open Go.RowKit Go.WideShapes Go.ChangeShapes Go.Deep

set_option maxRecDepth 100000 in
set_option maxHeartbeats 2000000 in
theorem has_any {w : World} {A : Option Addr} {n c : Nat} {l : List Rw} (h : SqR w w.heap.size A n c l) (hn : n ≤ 1000000) (s : ByteArray) :
    Calls Try.prog 31 #[.agg #[.slice A n c], .string s] w fun e w' => e = .returned (sdV (sdW l s)) ∧ Below w.heap.size w w' := by
  obtain ⟨w1, hw1⟩ : ∃ w1, (w.alloc (.cells #[.slice A n c] 24)).alloc (.cells #[.bool false, .string ⟨#[]⟩] 41) = w1 := ⟨_, rfl⟩
  have B1 : Hid (Below w.heap.size w w1) := Lib.hid (by rw [← hw1]; exact ((Below.refl _ _).alloc (Nat.le_refl _) _).alloc (by simp) _)
  have X0 : Hid (Lies w1 w.heap.size 1 [.slice A n c]) := Lib.hid (by rw [← hw1]; exact (Lies.new w [.slice A n c] 24).alloc _)
  have X1 : Hid (Lies w1 (w.heap.size + 1) 2 [.bool false, .string ⟨#[]⟩]) := Lib.hid (by
    rw [← hw1]
    have := Lies.new (w.alloc (.cells #[.slice A n c] 24)) [.bool false, .string ⟨#[]⟩] 41
    rwa [World.size_alloc] at this)
  have HW := Lib.hid hw1
  have HG := Get_any ((h.below B1.out).more B1.out.size) hn s
  obtain ⟨ix, hix⟩ : ∃ ix, (findW Rw.p l s).isSome = ix := ⟨_, rfl⟩
  obtain ⟨tx, htx⟩ : ∃ tx, textR (findW Rw.p l s) = tx := ⟨_, rfl⟩
  have HV : Hid (sdW l s = ⟨ix, tx⟩) := Lib.hid (by unfold sdW; rw [hix, htx])
  rw [hix, htx] at HG
  have HGG := Lib.hid HG
  clear hw1 h HG hix htx
  go_enter Try.func31, Try.ntmps31
  go_upto_region 1 with fail
  rw [HW.out]
  clear HW
  have q0 := X0.out.cell (j := 0) rfl
  go_wp2_with fail
  refine HGG.out.mono ?_
  rintro e w2 ⟨rfl, hb2⟩
  have X2 := Lib.hid (X1.out.below hb2 X1.out.lt)
  have B2 := Lib.hid (B1.out.trans (hb2.mono B1.out.size))
  clear q0 hb2 HGG
  have x0 := X2.out.cell (j := 0) rfl
  have x1 := X2.out.cell (j := 1) rfl
  have f0 := X2.out.frozen (j := 0) (by omega)
  have f1 := X2.out.frozen (j := 1) (by omega)
  go_wp2_with fail
  rw [HV.out]
  refine bodyPost_ret (results_cell_mid rfl _ _ (w.heap.size + 1) 0 [.bool ix, .string tx] _ rfl ?_ Try.underlying41 rfl (size_sd ⟨ix, tx⟩)) rfl ⟨rfl, ?_⟩
  · exact set2 x0 x1
  · first
      | exact (B2.out.setCell (p := ⟨w.heap.size + 1, 0, none⟩) (by show w.heap.size ≤ w.heap.size + 1; omega) _).setCell (p := ⟨w.heap.size + 1, 1, none⟩) (by show w.heap.size ≤ w.heap.size + 1; omega) _
      | exact below_setCells B2.out (by omega) _ _

theorem four_maps (A A' A2 A3 : Option Addr) (n c n' c' n2 c2 n3 c3 : Nat) (w : World) : (Instr.buildSlice 71 4 #[(0, .agg #[.slice A n c]), (1, .agg #[.slice A' n' c']), (2, .agg #[.slice A2 n2 c2]), (3, .agg #[.slice A3 n3 c3])]).run Try.prog w = .ok (.slice (some ⟨w.heap.size, 0, none⟩) 4 4) (w.alloc (.cells #[.slice A n c, .slice A' n' c', .slice A2 n2 c2, .slice A3 n3 c3] 24)) := by
  go_simp
theorem four_sq (A A' A2 A3 : Option Addr) (n c n' c' n2 c2 n3 c3 : Nat) (l l' l2 l3 : List Rw) (w : World) : Sq Mp.cells 1 (w.alloc (.cells #[.slice A n c, .slice A' n' c', .slice A2 n2 c2, .slice A3 n3 c3] 24)) (w.alloc (.cells #[.slice A n c, .slice A' n' c', .slice A2 n2 c2, .slice A3 n3 c3] 24)).heap.size (some ⟨w.heap.size, 0, none⟩) 4 4 [⟨A, n, c, l⟩, ⟨A', n', c', l'⟩, ⟨A2, n2, c2, l2⟩, ⟨A3, n3, c3, l3⟩] :=
  ⟨rfl, Nat.le_refl _, by unfold maxLen; omega, (fun e => by cases e), mp_sz, fun _ => ⟨_, 0, rfl, by simp, (Lies.new w [.slice A n c, .slice A' n' c', .slice A2 n2 c2, .slice A3 n3 c3] 24).rg⟩⟩
end Go.Proofs.Ytkdmlffnkomdhaa
namespace Go.Proofs.Ytkdmlffnkomdhaa
set_option linter.unusedVariables false
open Go.RowKit Go.WideShapes Go.ChangeShapes Go.Deep

theorem wpAnyH_inv {P : Program} {md : Region.Mode} {ops : Array Oper} {Q : Exit → Act → World → Prop} {S : World → Prop} (I : Nat → Array Bool → Act → World → Prop)
    (h0 : ∀ l a w, I 0 l a w → Region.ready md ops l = [])
    (hd : ∀ f l a w, I f l a w → Region.ready md ops l = [] → Q .normal a w)
    (hs : ∀ f l a w, I (f + 1) l a w → ∀ i ∈ Region.ready md ops l, wpOp P ops Q i (fun a' w' => S w' ∧ I f (l.setIfInBounds i true) a' w') a w) :
    ∀ f l a w, I f l a w → wpAnyH P md ops Q S f l a w
  | 0, l, a, w, h => ⟨h0 l a w h, hd 0 l a w h (h0 l a w h)⟩
  | f + 1, l, a, w, h => ⟨fun h' => hd _ l a w h h', fun i hi => wpOp_mono (fun a' w' h' => ⟨h'.1, wpAnyH_inv I h0 hd hs f _ a' w' h'.2⟩) (hs f l a w h i hi)⟩
/-- The same for a part: what is behind the invariant's end is walked from there. -/
theorem wpAnyH_share {P : Program} {md : Region.Mode} {ops : Array Oper} {Q : Exit → Act → World → Prop} {S : World → Prop} (I : Nat → Array Bool → Act → World → Prop) (m : Nat)
    (hend : ∀ l a w, I m l a w → wpAnyH P md ops Q S m l a w)
    (hd : ∀ f l a w, I (m + f + 1) l a w → Region.ready md ops l ≠ [])
    (hs : ∀ f l a w, I (m + f + 1) l a w → ∀ i ∈ Region.ready md ops l, wpOp P ops Q i (fun a' w' => S w' ∧ I (m + f) (l.setIfInBounds i true) a' w') a w) :
    ∀ f l a w, I (m + f) l a w → wpAnyH P md ops Q S (m + f) l a w
  | 0, l, a, w, h => hend l a w h
  | f + 1, l, a, w, h => ⟨fun h' => absurd h' (hd f l a w h), fun i hi => wpOp_mono (fun a' w' h' => ⟨h'.1, wpAnyH_share I m hend hd hs f _ a' w' h'.2⟩) (hs f l a w h i hi)⟩
end Go.Proofs.Ytkdmlffnkomdhaa
namespace Go.Proofs.Ytkdmlffnkomdhaa
set_option linter.unusedVariables false
set_option linter.unusedSimpArgs false
open Go.RowKit Go.WideShapes Go.ChangeShapes Go.Deep

theorem wpAnyH_free {P : Program} {md : Region.Mode} {ops : Array Oper} {Q : Exit → Act → World → Prop} {S : World → Prop} {a0 : Act} {l0 : Array Bool} {w0 : World} (I : Act → Array Bool → Nat → Array Bool → Act → World → Prop) (m : Nat) (tb : List (Nat × List Nat))
    (hr : ∀ f l a w, I a0 l0 (m + f + 1) l a w → (!(Region.ready md ops l).isEmpty && (Region.ready md ops l).all fun i => tb.any fun jp => i == jp.1 && !l.getD jp.1 true && jp.2.all fun q => l.getD q false) = true)
    (hs : ∀ f l a w, I a0 l0 (m + f + 1) l a w → ∀ jp ∈ tb, l.getD jp.1 true = false → (jp.2.all fun q => l.getD q false) = true → wpOp P ops Q jp.1 (fun a' w' => S w' ∧ I a0 l0 (m + f) (l.setIfInBounds jp.1 true) a' w') a w)
    (hend : ∀ l a w, I a0 l0 m l a w → wpAnyH P md ops Q S m l a w)
    (f : Nat) (h : I a0 l0 (m + f) l0 a0 w0) : wpAnyH P md ops Q S (m + f) l0 a0 w0 := by
  refine wpAnyH_share (I a0 l0) m hend (fun f l a w hI h0 => ?_) (fun f l a w hI i hi => ?_) f l0 a0 w0 h
  · have := hr f l a w hI
    rw [h0] at this
    simp at this
  · have h1 := hr f l a w hI
    rw [Bool.and_eq_true, List.all_eq_true] at h1
    obtain ⟨jp, hjp, h2⟩ := List.any_eq_true.1 (h1.2 i hi)
    rw [Bool.and_eq_true, Bool.and_eq_true, beq_iff_eq, Bool.not_eq_true'] at h2
    obtain ⟨⟨rfl, h3⟩, h4⟩ := h2
    exact hs f l a w hI jp hjp h3 h4
theorem wpOp_of {P : Program} {ops : Array Oper} {Q : Exit → Act → World → Prop} {i : Nat} {o : Oper} {K : Act → World → Prop} {a : Act} {w : World} (ho : ops[i]? = some o) (hg : o.guard = none) (h : ∀ K' : Act → World → Prop, (∀ a w, K a w → K' a w) → o.wp P a w K' Q) : wpOp P ops Q i K a w :=
  wpOp_step ho fun K' hK => by
    rw [if_pos (by simp [Region.wanted, hg])]
    exact h K' hK
theorem nat0 {c : Bool} (h : (!c).toNat = 0) : c = true := by cases c <;> simp_all
theorem opt0 {o : Option Nat} (h : (o.isNone).toNat = 0) : ∃ b, o = some b := by cases o <;> simp_all
theorem wp_store_as {P : Program} {o : Oper} {a : Act} {w : World} {K : Act → World → Prop} {Q : Exit → Act → World → Prop} (ty : TypeId) (x y : Operand) (ho : o.op = .store ty x y)
    (b k : Nat) (l : List Value) (hx : a.eval x = .pointer (some ⟨b, k, none⟩)) (hy : a.eval y = .agg l.toArray) (ht : w.there b k l.length) (hi : (P.info? ty).map (·.size) = some l.length) (h1 : l.all (·.oneCell') = true) {w9 : World} (hw : w.setCells b k l = w9)
    (h : K (a.put o.dst undef) w9) : o.wp P a w K Q := by
  refine wp_store_mid ty x y ho b k l.toArray hx hy (by simpa using ht) (by simpa using hi) (by simpa using h1) ?_
  rw [hw]
  exact h
def ptrO (d : Value) : Option Nat → Value
  | none => d
  | some b => .pointer (some ⟨b, 0, none⟩)
/-- Boxes, as far as they are made. -/
structure Fr (w0 : World) (k : Nat) (obs : List (Option (Nat × List Value))) (w : World) : Prop where
  below : Below w0.heap.size w0 w
  bx : ∀ (i B : Nat) (v : List Value), obs[i]? = some (some (B, v)) → Lies w B k v ∧ w0.heap.size ≤ B
  ne : ∀ (i j B : Nat) (v : List Value) (B' : Nat) (v' : List Value), i ≠ j → obs[i]? = some (some (B, v)) → obs[j]? = some (some (B', v')) → B ≠ B'
def zO (z : List Value) (o : Option Nat) : Option (Nat × List Value) := o.map fun b => (b, z)
section
variable {w0 w w' : World} {k : Nat} {obs : List (Option (Nat × List Value))}
theorem Fr.start (k : Nat) (obs : List (Option (Nat × List Value))) (ho : ∀ (i : Nat) (x : Nat × List Value), obs[i]? ≠ some (some x)) (h : Below w0.heap.size w0 w) : Fr w0 k obs w :=
  ⟨h, fun i B v e => absurd e (ho i _), fun i j B v B' v' _ e => absurd e (ho i _)⟩
theorem Fr.call (p : Fr w0 k obs w) (hb : Below w.heap.size w w') : Fr w0 k obs w' :=
  ⟨p.below.trans (hb.mono p.below.size), fun i B v e => ⟨(p.bx i B v e).1.below hb (p.bx i B v e).1.lt, (p.bx i B v e).2⟩, p.ne⟩
theorem set_get {α : Type} {l : List α} {i j : Nat} {x y : α} (h : (l.set j x)[i]? = some y) : (i = j ∧ y = x) ∨ (i ≠ j ∧ l[i]? = some y) := by
  rw [List.getElem?_set] at h
  by_cases e : j = i
  · subst e
    rw [if_pos rfl] at h
    split at h
    · exact .inl ⟨rfl, by simpa using h.symm⟩
    · cases h
  · rw [if_neg e] at h
    exact .inr ⟨fun e' => e e'.symm, h⟩
theorem Fr.alloc (p : Fr w0 k obs w) (j : Nat) (z : List Value) (T : TypeId) (hz : z.length = k) : Fr w0 k (obs.set j (some (w.heap.size, z))) (w.alloc (.cells z.toArray T)) := by
  have hb : Below w.heap.size w (w.alloc (.cells z.toArray T)) := (Below.refl _ _).alloc (Nat.le_refl _) _
  refine ⟨p.below.trans (hb.mono p.below.size), fun i B v e => ?_, fun i i' B v B' v' hne e e' => ?_⟩
  · rcases set_get e with ⟨_, h⟩ | ⟨_, h⟩
    · injection h with h; injection h with h1 h2; subst h1 h2 hz
      exact ⟨Lies.new w _ T, p.below.size⟩
    · exact ⟨(p.bx i B v h).1.below hb (p.bx i B v h).1.lt, (p.bx i B v h).2⟩
  · rcases set_get e with ⟨h0, h⟩ | ⟨_, h⟩ <;> rcases set_get e' with ⟨h0', h'⟩ | ⟨_, h'⟩
    · exact absurd (h0.trans h0'.symm) hne
    · injection h with h; injection h with h1 h2
      have := (p.bx _ _ _ h').1.lt
      omega
    · injection h' with h'; injection h' with h1 h2
      have := (p.bx _ _ _ h).1.lt
      omega
    · exact p.ne _ _ _ _ _ _ hne h h'
theorem Fr.store (p : Fr w0 k obs w) (j B : Nat) {v : List Value} (hj : obs[j]? = some (some (B, v))) (v' : List Value) (hv : v'.length = k) : Fr w0 k (obs.set j (some (B, v'))) (w.setCells B 0 v') := by
  have hB := (p.bx j B v hj).2
  refine ⟨below_setCells p.below hB _ _, fun i B2 u e => ?_, fun i i' B1 u B2 u' hne e e' => ?_⟩
  · rcases set_get e with ⟨_, h⟩ | ⟨hi, h⟩
    · injection h with h; injection h with h1 h2; subst h1 h2
      exact ⟨(p.bx j _ _ hj).1.set_ hv, hB⟩
    · have h1 := (p.bx i B2 u h).1
      have hne := p.ne i j _ _ _ _ hi h hj
      exact ⟨h1.kp ((setCells_os B v' 0 w).2.2.2.2 B2 hne) (by rw [(setCells_os B v' 0 w).2.2.2.1]; exact Nat.le_refl _), (p.bx i B2 u h).2⟩
  · rcases set_get e with ⟨h0, h⟩ | ⟨_, h⟩ <;> rcases set_get e' with ⟨h0', h'⟩ | ⟨_, h'⟩
    · exact absurd (h0.trans h0'.symm) hne
    · injection h with h; injection h with h1 h2; subst h1
      exact p.ne _ _ _ _ _ _ (by rw [← h0]; exact hne) hj h'
    · injection h' with h'; injection h' with h1 h2; subst h1
      exact p.ne _ _ _ _ _ _ (by rw [← h0']; exact hne) h hj
    · exact p.ne _ _ _ _ _ _ hne h h'
theorem Fr.there (p : Fr w0 k obs w) (j B : Nat) {v : List Value} (hj : obs[j]? = some (some (B, v))) : w.there B 0 k := (p.bx j B v hj).1.th
end
end Go.Proofs.Ytkdmlffnkomdhaa
