/-
  A LAW OF MY OWN, over whatever program: a region that draws its order, whose last operations call what a loop's body is: all that stands ahead of that call is walked outside of fences.
  A LAW OF MY OWN, over whatever program: a loop over a function whose iterator says which element may follow which: the body is walked at those alone.
-/
import Derived.Test.YtkdmlffnkomdhaaRr
import Derived.StillTail
import Derived.RangeFuncNested
import Derived.RangeFuncLeaves
import Derived.RangeFuncKeeps
namespace Go.Proofs.Ytkdmlffnkomdhaa
section
variable {P : Program} {ops ops' : Array Oper} {Q : Exit → Act → World → Prop} {n : Nat}

/-- T behind the last operation; nothing else may be. -/
def TailQ (T : Act → World → Prop) : Exit → Act → World → Prop
  | .normal, a, w => T a w
  | _, _, _ => False
theorem tail_letsOut {T : Act → World → Prop} (h : LetsOut (TailQ T)) : False := by obtain ⟨a, w, h⟩ := h; exact h
theorem upon_wide {T : Act → World → Prop} {o : Oper} {a : Act} {w : World} {K K' : Act → World → Prop} (hK : ∀ a w, K a w → K' a w) (h : o.wp P a w K (TailQ T)) : o.wpIn Fence.wide n P a w K' Q := by
  refine ⟨fun _ _ => trivial, ?_⟩
  show o.uponIn _ _ _ _ _ _ ((o.semAt none a.eval).run P w)
  rw [Oper.semAt_none]
  unfold Oper.wp at h
  generalize (execOp a.eval o).run P w = res at h
  cases res with
  | ok x w' =>
    cases x <;> simp only [Oper.upon, Oper.uponIn] at h ⊢ <;> try exact hK _ _ h
    case enter f args =>
      refine ⟨fun hh => (by cases hh), callsIn_wide.2 (h.mono fun e w'' he => ?_)⟩
      cases e with
      | returned v => exact hK _ _ he
      | panicked c => exact (he : False).elim
      | outgrown => exact (tail_letsOut he).elim
    case row row args => exact ⟨fun hh => (by cases hh), fun c cs _ => let ⟨v, w', q, s⟩ := h c cs; ⟨v, w', hK _ _ q, (stepsIn_wide (P := P)).2 s⟩⟩
  | halt x w' => cases x <;> simp only [Oper.upon, Oper.uponIn] at h ⊢ <;> exact (h : False).elim

theorem in_tail : ∀ (l : List Oper) (k x : Nat) (listed : Array Bool) (a : Act) (w : World), (∀ j, l[j]? = ops[k + j]?) →
    Region.seqB .any ops l.length k listed = true → wpListIn Fence.wide n P ops Q l a w → wpAnyIn Fence.wide n P .any ops Q (l.length + x) listed a w
  | [], k, x, listed, a, w, _, hB, h => by
    have hr : Region.ready .any ops listed = [] := by simpa [Region.seqB] using hB
    cases x with
    | zero => exact ⟨hr, h⟩
    | succ x => exact ⟨fun _ => h, fun i hi => by rw [hr] at hi; cases hi⟩
  | o :: l, k, x, listed, a, w, hl, hB, h => by
    have h0 : ops[k]? = some o := by simpa using (hl 0).symm
    simp only [List.length_cons, Region.seqB, Bool.and_eq_true, decide_eq_true_eq] at hB
    rw [show (o :: l).length + x = (l.length + x) + 1 by simp; omega]
    refine ⟨fun h1 => (by rw [hB.1] at h1; cases h1), fun i hi => ?_⟩
    rw [hB.1] at hi
    have hik : i = k := by simpa using hi
    subst hik
    have hw : wpOpIn Fence.wide n P ops Q i (wpListIn Fence.wide n P ops Q l) a w := by unfold wpOpIn; simp only [h0]; exact h
    exact wpOpIn_mono (fun a' w' h' => in_tail l (i + 1) x _ a' w' (fun j => by have := hl (j + 1); simpa [Nat.add_assoc, Nat.add_comm 1 j] using this) hB.2 h') hw

/-- Whoever comes later waits, in the end, for all of the first m. -/
structure Pre (ops : Array Oper) (m : Nat) : Prop where
  free : ∀ i, i < m → ∀ o, ops[i]? = some o → o.guard = none
  low : ∀ i, i < m → ∀ o, ops[i]? = some o → ∀ e ∈ o.after, Region.binds .any e = true → e.on < i
  nx : ∀ i, i < m → ∃ k, i < k ∧ k ≤ m ∧ ∃ o, ops[k]? = some o ∧ ∃ e ∈ o.after, Region.binds .any e = true ∧ e.on = i
  last : ∀ j, m < j → ∀ o, ops[j]? = some o → ∃ e ∈ o.after, Region.binds .any e = true ∧ e.on = m
  le : m ≤ ops.size
def Down (ops : Array Oper) (m : Nat) (listed : Array Bool) : Prop := ∀ j, j < m → listed.getD j false = true → ∀ o, ops[j]? = some o → ∀ e ∈ o.after, Region.binds .any e = true → listed.getD e.on false = true
/-- The first m are listed as told, none of the others. -/
structure Lst (m : Nat) (listed' listed : Array Bool) : Prop where
  sz' : listed'.size = m
  sz : m ≤ listed.size
  same : ∀ i, i < m → listed[i]? = listed'[i]?
  rest : ∀ i, m ≤ i → listed.getD i false = false
variable {m : Nat} {listed listed' : Array Bool}
theorem getD_of {l : Array Bool} {i : Nat} {b d : Bool} (h : l[i]? = some b) : l.getD i d = b := by simp [h]
theorem Lst.getD (h : Lst m listed' listed) {i : Nat} (hi : i < m) (d : Bool) : listed.getD i d = listed'.getD i d := by
  simp [h.same i hi]
theorem Lst.some (h : Lst m listed' listed) {i : Nat} (hi : i < m) : ∃ b, listed'[i]? = some b := ⟨listed'[i]'(by rw [h.sz']; exact hi), by rw [Array.getElem?_eq_getElem]⟩
theorem Lst.set (h : Lst m listed' listed) {i : Nat} (hi : i < m) : Lst m (listed'.setIfInBounds i true) (listed.setIfInBounds i true) := by
  refine ⟨by simp [h.sz'], by simpa using h.sz, fun j hj => ?_, fun j hj => ?_⟩
  · by_cases e : i = j
    · subst e
      have h1 : i < listed.size := Nat.lt_of_lt_of_le hi h.sz
      have h2 : i < listed'.size := by rw [h.sz']; exact hi
      simp [h1, h2]
    · rw [Array.getElem?_setIfInBounds_ne e, Array.getElem?_setIfInBounds_ne e]
      exact h.same j hj
  · rw [getD_set_ne false (by omega)]
    exact h.rest j hj
theorem top_unlisted (h : Lst m listed' listed) (hu : ∃ i, i < m ∧ listed'.getD i true = false) : ∃ i, i < m ∧ listed'.getD i true = false ∧ ∀ k, i < k → k < m → listed'.getD k false = true := by
  obtain ⟨i, hi, hf⟩ := hu
  have key : ∀ d i, i < m → m - i ≤ d → listed'.getD i true = false → ∃ i, i < m ∧ listed'.getD i true = false ∧ ∀ k, i < k → k < m → listed'.getD k false = true := by
    intro d
    induction d with
    | zero => intro i hi hd; omega
    | succ d ih =>
      intro i hi hd hf
      by_cases hk : ∃ k, i < k ∧ k < m ∧ listed'.getD k true = false
      · obtain ⟨k, h1, h2, h3⟩ := hk
        exact ih k h2 (by omega) h3
      · refine ⟨i, hi, hf, fun k h1 h2 => ?_⟩
        obtain ⟨b, hb⟩ := h.some h2
        cases b with
        | true => exact getD_of hb
        | false => exact absurd ⟨k, h1, h2, getD_of hb⟩ hk
  exact key _ i hi (Nat.le_refl _) hf
theorem low_unlisted (h : Lst m listed' listed) (hu : ∃ i, i < m ∧ listed'.getD i true = false) : ∃ i, i < m ∧ listed'.getD i true = false ∧ ∀ k, k < i → listed'.getD k false = true := by
  obtain ⟨i, hi, hf⟩ := hu
  induction i using Nat.strongRecOn with
  | ind i ih =>
    by_cases hk : ∃ k, k < i ∧ listed'.getD k true = false
    · obtain ⟨k, h1, h3⟩ := hk
      exact ih k h1 (by omega) h3
    · refine ⟨i, hi, hf, fun k h1 => ?_⟩
      obtain ⟨b, hb⟩ := h.some (show k < m by omega)
      cases b with
      | true => exact getD_of hb
      | false => exact absurd ⟨k, h1, getD_of hb⟩ hk
theorem false_of {l : Array Bool} {i : Nat} (h : l.getD i true = false) : l.getD i false = false := by
  rcases Nat.lt_or_ge i l.size with h1 | h1
  · simp [h1] at h ⊢; exact h
  · simp [Array.getElem?_eq_none h1] at h
theorem ready_pre (hp : Pre ops m) (ho : ∀ i, i < m → ops'[i]? = ops[i]?) (hs : ops'.size = m) (h : Lst m listed' listed) (hd : Down ops m listed') (hu : ∃ i, i < m ∧ listed'.getD i true = false) (j : Nat) :
    j ∈ Region.ready .any ops listed → j < m ∧ j ∈ Region.ready .any ops' listed' := by
  intro hj
  obtain ⟨h0, o, hoj, hall⟩ := mem_ready.1 hj
  obtain ⟨i0, hi0, hf0, htop⟩ := top_unlisted h hu
  have hjm : j < m := by
    rcases Nat.lt_or_ge j m with hjm | hjm
    · exact hjm
    · exfalso
      rcases Nat.lt_or_ge m j with hlt | hge
      · obtain ⟨e, he, hb, hon⟩ := hp.last j hlt o hoj
        have := hall e he hb
        rw [hon, h.rest m (Nat.le_refl _)] at this
        cases this
      · have e : j = m := by omega
        subst e
        obtain ⟨k, hk1, hk2, ok, hok, e, he, hb, hon⟩ := hp.nx i0 hi0
        have hun := false_of hf0
        rcases Nat.lt_or_ge k j with hkj | hkj
        · have h1 := hd k hkj (htop k hk1 hkj) ok hok e he hb
          rw [hon, hun] at h1
          cases h1
        · have e2 : k = j := by omega
          subst e2
          rw [hoj] at hok
          injection hok with hok
          subst hok
          have h1 := hall e he hb
          rw [hon, h.getD hi0, hun] at h1
          cases h1
  refine ⟨hjm, mem_ready.2 ⟨by rw [← h.getD hjm]; exact h0, o, by rw [ho j hjm]; exact hoj, fun e he hb => ?_⟩⟩
  have h1 := hall e he hb
  rcases Nat.lt_or_ge e.on m with hm | hm
  · rw [← h.getD hm]; exact h1
  · rw [h.rest _ hm] at h1; cases h1
theorem ready_some (hp : Pre ops m) (h : Lst m listed' listed) (hu : ∃ i, i < m ∧ listed'.getD i true = false) : Region.ready .any ops listed ≠ [] := by
  obtain ⟨i, hi, hf, hlow⟩ := low_unlisted h hu
  intro hr
  have hil : i < ops.size := Nat.lt_of_lt_of_le hi hp.le
  have : i ∈ Region.ready .any ops listed := mem_ready.2 ⟨by rw [h.getD hi]; exact hf, ops[i], by rw [Array.getElem?_eq_getElem hil], fun e he hb => by
    have hlt := hp.low i hi _ (Array.getElem?_eq_getElem hil) e he hb
    rw [h.getD (by omega)]
    exact hlow _ hlt⟩
  rw [hr] at this
  cases this
theorem Lst.all (h : Lst m listed' listed) (hz : listed.size = ops.size) (hu : ¬ ∃ i, i < m ∧ listed'.getD i true = false) : listed = Array.replicate m true ++ Array.replicate (ops.size - m) false := by
  have hsz := h.sz
  apply Array.ext_getElem?
  intro i
  rcases Nat.lt_or_ge i m with hi | hi
  · obtain ⟨b, hb⟩ := h.some hi
    rw [h.same i hi, hb]
    cases b with
    | true => rw [Array.getElem?_append_left (by simpa using hi)]; simp [hi]
    | false => exact absurd ⟨i, hi, getD_of hb⟩ hu
  · have h1 := h.rest i hi
    rcases Nat.lt_or_ge i listed.size with hl | hl
    · rw [Array.getElem?_append_right (by simpa using hi)]
      simp [hl] at h1
      rw [Array.getElem?_eq_getElem hl, h1]
      simp [show i - m < ops.size - m by omega]
    · rw [Array.getElem?_eq_none hl, Array.getElem?_eq_none (by simp; omega)]
theorem any_pre {T : Act → World → Prop} (hp : Pre ops m) (ho : ∀ i, i < m → ops'[i]? = ops[i]?) (hs : ops'.size = m) {g : Nat}
    (hT : ∀ a w, T a w → ∀ x, wpAnyIn Fence.wide n P .any ops Q (g + x) (Array.replicate m true ++ Array.replicate (ops.size - m) false) a w) :
    ∀ (fuel : Nat) (listed' listed : Array Bool) (a : Act) (w : World), Lst m listed' listed → listed.size = ops.size → Down ops m listed' → wpAny P .any ops' (TailQ T) fuel listed' a w → wpAnyIn Fence.wide n P .any ops Q (fuel + g) listed a w
  | fuel, listed', listed, a, w, hl, hz, hd, h => by
    by_cases hu : ∃ i, i < m ∧ listed'.getD i true = false
    · have hne := ready_some hp hl hu
      cases fuel with
      | zero =>
        exfalso
        obtain ⟨j, hj⟩ := List.exists_mem_of_ne_nil _ hne
        have := (ready_pre hp ho hs hl hd hu j hj).2
        rw [h.1] at this
        cases this
      | succ fuel =>
        rw [show fuel + 1 + g = (fuel + g) + 1 by omega]
        refine ⟨fun h1 => absurd h1 hne, fun i hi => ?_⟩
        obtain ⟨him, hi'⟩ := ready_pre hp ho hs hl hd hu i hi
        have h1 := h.2 i hi'
        obtain ⟨h0, o, hoi, hall⟩ := mem_ready.1 hi'
        have hoi2 : ops[i]? = some o := by rw [← ho i him]; exact hoi
        have hg := hp.free i him o hoi2
        unfold wpOp at h1
        unfold wpOpIn
        simp only [hoi, hoi2] at h1 ⊢
        rw [if_pos (by simp [Region.wanted, hg])] at h1 ⊢
        have hd' : Down ops m (listed'.setIfInBounds i true) := fun j hj hjl oj hoj e he hb => by
          by_cases e2 : i = j
          · subst e2
            rw [hoi2] at hoj
            injection hoj with hoj
            subst hoj
            exact getD_set_true (hall e he hb)
          · rw [getD_set_ne false e2] at hjl
            exact getD_set_true (hd j hj hjl oj hoj e he hb)
        rcases h1 with h1 | h1
        · exact upon_wide (fun a w h2 => any_pre hp ho hs hT fuel _ _ a w (hl.set him) (by simpa using hz) hd' h2) h1
        · exact (tail_letsOut h1.2).elim
    · have e := hl.all hz hu
      have hr : Region.ready .any ops' listed' = [] := by
        rw [List.eq_nil_iff_forall_not_mem]
        intro j hj
        obtain ⟨h0, o, hoj, _⟩ := mem_ready.1 hj
        have hjs : j < m := by rw [← hs]; exact (Array.getElem?_eq_some_iff.1 hoj).1
        exact hu ⟨j, hjs, h0⟩
      have hTT : T a w := by
        cases fuel with
        | zero => exact h.2
        | succ fuel => exact h.1 hr
      rw [e, Nat.add_comm]
      exact hT a w hTT fuel
def yieldB (ops : Array Oper) (m : Nat) : Bool :=
  decide (m ≤ ops.size) && ((List.range m).all fun i => (match ops[i]? with | some o => o.guard.isNone && o.after.all (fun e => !Region.binds .any e || decide (e.on < i)) | none => true)) &&
    ((List.range m).all fun i => (List.range (m + 1)).any fun k => decide (i < k) && Region.waitsFor .any ops k i) && ((List.range ops.size).all fun j => decide (j ≤ m) || Region.waitsFor .any ops j m) &&
    Region.seqB .any ops (ops.size - m) m (Array.replicate m true ++ Array.replicate (ops.size - m) false)
theorem yieldB_pre (h : yieldB ops m = true) : Pre ops m := by
  unfold yieldB at h
  simp only [Bool.and_eq_true, decide_eq_true_eq] at h
  obtain ⟨⟨⟨⟨h1, h2⟩, h3⟩, h4⟩, h5⟩ := h
  refine ⟨fun i hi o ho => ?_, fun i hi o ho e he hb => ?_, fun i hi => ?_, fun j hj o ho => ?_, h1⟩
  · have := List.all_eq_true.1 h2 i (List.mem_range.2 hi)
    simp only [ho, Bool.and_eq_true] at this
    simpa using this.1
  · have := List.all_eq_true.1 h2 i (List.mem_range.2 hi)
    simp only [ho, Bool.and_eq_true] at this
    have := Array.all_eq_true_iff_forall_mem.1 this.2 e he
    simpa [hb] using this
  · have := List.all_eq_true.1 h3 i (List.mem_range.2 hi)
    obtain ⟨k, hk, hk2⟩ := List.any_eq_true.1 this
    simp only [Bool.and_eq_true, decide_eq_true_eq] at hk2
    have hkm := List.mem_range.1 hk
    obtain ⟨o, ho, e, he, hb, hon⟩ := Region.waitsFor_spec hk2.2
    exact ⟨k, hk2.1, by omega, o, ho, e, he, hb, hon⟩
  · have hjs := (Array.getElem?_eq_some_iff.1 ho).1
    have := List.all_eq_true.1 h4 j (List.mem_range.2 hjs)
    simp only [Bool.or_eq_true, decide_eq_true_eq] at this
    rcases this with h6 | h6
    · omega
    · obtain ⟨o', ho', e, he, hb, hon⟩ := Region.waitsFor_spec h6
      rw [ho] at ho'
      injection ho' with ho'
      subst ho'
      exact ⟨e, he, hb, hon⟩
/-- THE LAW. -/
theorem wpIn_region_yield {id : Nat} {a : Act} {w : World} {l : List Oper} (m : Nat) {S : World → Prop} (hm : P.follows .mixedOrders = true) (hB : yieldB l.toArray m = true) (hS : S w.drew)
    (h : S w.drew → wpAnyH P .any (l.take m).toArray (TailQ fun a w => wpListIn Fence.wide n P l.toArray Q (l.drop m) a w) S (l.take m).toArray.size (Array.replicate (l.take m).toArray.size false) a w.drew) :
    (Code.region id l.toArray true).wpIn Fence.wide n P Q a w := by
  have hp := yieldB_pre hB
  have hle : m ≤ l.length := by simpa using hp.le
  have htl : (l.take m).toArray.size = m := by simp; omega
  have h1 := wpAny_of_held _ _ _ _ (h hS)
  rw [htl] at h1
  have hseq : Region.seqB .any l.toArray (l.toArray.size - m) m (Array.replicate m true ++ Array.replicate (l.toArray.size - m) false) = true := by
    unfold yieldB at hB
    simp only [Bool.and_eq_true] at hB
    exact hB.2
  refine wpIn_region_any hm ?_
  have hdl : (l.drop m).length = l.toArray.size - m := by simp
  have H := any_pre (n := n) (Q := Q) hp (ops' := (l.take m).toArray) (fun i hi => by simp [hi]) htl (g := (l.drop m).length)
    (T := fun a w => wpListIn Fence.wide n P l.toArray Q (l.drop m) a w)
    (fun a w hT x => in_tail (l.drop m) m x _ a w (fun j => by simp [List.getElem?_drop]) (by rw [hdl]; exact hseq) hT)
    m (Array.replicate m false) (Array.replicate l.toArray.size false) a w.drew
    ⟨by simp, by simp; omega, fun i hi => by simp [hi, show i < l.length by omega], fun i hi => by
      rcases Nat.lt_or_ge i l.length with h2 | h2
      · simp [h2]
      · simp [h2]⟩ (by simp) (fun j hj hjl => by simp [hj] at hjl) h1
  rw [show m + (l.drop m).length = l.toArray.size by rw [hdl]; simp; omega] at H
  exact H
end
end Go.Proofs.Ytkdmlffnkomdhaa
namespace Go.Proofs.Ytkdmlffnkomdhaa
set_option linter.unusedVariables false
set_option linter.unusedSimpArgs false
open Go.RowKit Go.WideShapes Go.ChangeShapes
section
variable {α : Type} {P : Program} {n : Nat}

/-- What an iterator does whose elements x come behind pre only where Pr pre x. -/
def SeqFoll (n : Nat) (P : Program) (g : Nat) (lb : Array Value) (encs : α → Array Value) (Kp : World → World → Prop) (S Sp : List α → Prop) (Pr : List α → α → Prop) (w : World) : Prop :=
  ∀ (l : Nat) (J Jx : List α → World → Prop) (W : World), Below w.heap.size w W → AbidesFrom W.heap.size J → AbidesFrom W.heap.size Jx →
    (∀ pre x W1, J pre W1 → Pr pre x → YieldAt Fence.wide (n - 1) P l (encs x) W1 fun e W' => (e = .returned (.bool true) ∧ J (pre ++ [x]) W' ∧ Kp W1 W') ∨ (e = .returned (.bool false) ∧ Jx (pre ++ [x]) W')) →
    J [] W → CallsIn Fence.wide n P g (#[.func (.yield l) #[] #[]] ++ lb) W fun e W' => (∃ v, e = .returned v) ∧ ((∃ xs, S xs ∧ J xs W') ∨ (∃ pre, Sp pre ∧ Jx pre W'))

/-- The loop's record, and the block for its deferred calls. -/
structure Rec (D l : Nat) (r : Loop) (W : World) : Prop where
  loop : W.heap[l]? = some (.loop r)
  mark : W.heap[D]? = some (.deferred (some []))
  lt : D < l
theorem Rec.keeps {D l : Nat} {r : Loop} {W W' : World} (h : Rec D l r W) (hk : KeepsFrom D W W') : Rec D l r W' :=
  ⟨hk.same _ _ (Nat.le_of_lt h.lt) h.loop rfl, hk.same _ _ (Nat.le_refl _) h.mark rfl, h.lt⟩
theorem Rec.put {D l : Nat} {r : Loop} {W : World} (h : Rec D l r W) (r' : Loop) : Rec D l r' (W.putObj l (.loop r')) :=
  ⟨World.putObj_heap_same (Array.getElem?_eq_some_iff.1 h.loop).1, (World.putObj_heap_other (Nat.ne_of_lt h.lt)).trans h.mark, h.lt⟩
theorem Rec.grown {D l : Nat} {r : Loop} {W W' : World} (h : Rec D l r W) {row : Option Nat} (hg : W.grownBy W' row) (hr : ∀ x, row = some x → ∃ o : Obj, W.heap[x]? = some o ∧ o.isWalk = true) : Rec D l r W' :=
  ⟨(grownBy_keeps hg hr h.loop rfl).trans h.loop, (grownBy_keeps hg hr h.mark rfl).trans h.mark, h.lt⟩

/-- One round, told by what the body does. -/
theorem round_foll {D l : Nat} {r : Loop} {encs : α → Array Value} {Kp : World → World → Prop} {I : List α → World → Prop} {Ix : Code → List α → World → Prop} {Ax : α → Act → World → Prop} {pre : List α} {x : α} {W : World}
    (hKt : ∀ {A B C : World}, Kp A B → Kp B C → Kp A C) (hKb : ∀ (W : World) (k : Nat) (o o' : Obj), D ≤ k → W.heap[k]? = some o → o.isCells = false → o.isWalk = false → Kp W (W.putObj k o'))
    (hps : (encs x).size = r.params.size) (hready : r.state = .ready) (hI : OwnFrom D I) (hIx : ∀ c, OwnFrom D (Ix c)) (hAx : ∀ x a', OwnFrom D (fun (_ : Unit) W => Ax x a' W))
    (hrec : Rec D l r W) (hi : I pre W)
    (hassign : ∀ (K : Act → World → Prop), (∀ a' W', KeepsFrom D W W' → Kp W W' → I pre W' → Ax x a' W' → K a' W') →
      r.assign.wpIn (Fence.wide.inRound l) (n - 1) P (Exit.then K (fun _ _ _ => False)) { tmps := (r.params.zip (encs x)).foldl (fun t (p, v) => t.setIfInBounds p v) r.tmps, defers := [] } W)
    (hbody : ∀ a' W', (∃ r', W'.heap[l]? = some (.loop r')) → I pre W' → Ax x a' W' → r.body.wpIn (Fence.wide.inRound l) (n - 1) P (ownPostG D Kp I Ix (pre ++ [x]) W') a' W') :
    YieldAt Fence.wide (n - 1) P l (encs x) W fun e W' =>
      (e = .returned (.bool true) ∧ (I (pre ++ [x]) W' ∧ Rec D l { r with state := .ready, pending := none } W') ∧ Kp W W') ∨
      (e = .returned (.bool false) ∧ ∃ c, Ix c (pre ++ [x]) W' ∧ Rec D l { r with state := .done, pending := some c } W') := by
  refine ⟨r.fn, _, r.assign, r.body, run_yield (P := P) (args := encs x) hrec.loop hps, roundIn_of_wpIn trivial (hassign _ ?_)⟩
  intro a' Wa hkf hkp hia hax
  have ra := hrec.keeps hkf
  refine ⟨_, run_beginRound ra.loop hready, ?_⟩
  have rb := ra.put { r with state := .busy }
  have hkb : Kp Wa (Wa.putObj l (.loop { r with state := .busy })) := hKb _ _ _ _ (Nat.le_of_lt ra.lt) ra.loop rfl rfl
  have hib := hI.putObj (.loop { r with state := .busy }) hia (Nat.le_of_lt ra.lt) ra.loop rfl
  have hab := (hAx x a').putObj (s := ()) (.loop { r with state := .busy }) hax (Nat.le_of_lt ra.lt) ra.loop rfl
  refine wpIn_mono (hbody a' _ ⟨_, rb.loop⟩ hib hab) ?_
  have leave : ∀ (c : Code) (W3 : World), KeepsFrom D (Wa.putObj l (.loop { r with state := .busy })) W3 → Ix c (pre ++ [x]) W3 →
      ∃ v w', (Instr.endRound l (some c)).run P W3 = .ok v w' ∧ v = .bool false ∧ ∃ c', Ix c' (pre ++ [x]) w' ∧ Rec D l { r with state := .done, pending := some c' } w' := fun c W3 hk3 hx3 => by
    have r3 := rb.keeps hk3
    refine ⟨_, _, run_endRound (P := P) (some c) r3.loop, rfl, c, (hIx c).putObj _ hx3 (Nat.le_of_lt r3.lt) r3.loop rfl, ?_⟩
    exact r3.put _
  intro e a3 W3 hp
  cases e with
  | normal =>
    obtain ⟨hk3, hkp3, hi3⟩ := hp
    have r3 := rb.keeps hk3
    refine ⟨_, _, run_endRound (P := P) none r3.loop, .inl ⟨rfl, ⟨hI.putObj _ hi3 (Nat.le_of_lt r3.lt) r3.loop rfl, r3.put _⟩, hKt hkp (hKt hkb (hKt hkp3 (hKb _ _ _ _ (Nat.le_of_lt r3.lt) r3.loop rfl rfl)))⟩⟩
  | ret =>
    obtain ⟨v, w', h1, h2, h3⟩ := leave .ret W3 hp.1 hp.2
    exact ⟨v, w', h1, .inr ⟨by rw [h2], h3⟩⟩
  | exit id =>
    obtain ⟨v, w', h1, h2, h3⟩ := leave (.exit id) W3 hp.1 hp.2
    exact ⟨v, w', h1, .inr ⟨by rw [h2], h3⟩⟩
  | goto t =>
    obtain ⟨v, w', h1, h2, h3⟩ := leave (.goto t) W3 hp.1 hp.2
    exact ⟨v, w', h1, .inr ⟨by rw [h2], h3⟩⟩
  | panic ch => exact hp.elim
  | outgrown => exact hp.elim

/-- THE LAW. -/
theorem wpIn_rangeFunc_foll {g : Operand} {ps : Array Tmp} {assign body : Code} {Q : Exit → Act → World → Prop} {a : Act} {w : World}
    {gf : Nat} {lb : Array Value} (hg : a.eval g = .func (.func gf) #[] lb) (eg : ∀ args w, (callFunc gf args).run P w = .ok (.enter gf args) w)
    {encs : α → Array Value} {Kp : World → World → Prop} {S Sp : List α → Prop} {Pr : List α → α → Prop} {w0 : World} (hseq : SeqFoll (n - 1) P gf lb encs Kp S Sp Pr w0)
    (hKt : ∀ {A B C : World}, Kp A B → Kp B C → Kp A C) (hKb : ∀ (W : World) (k : Nat) (o o' : Obj), w.heap.size ≤ k → W.heap[k]? = some o → o.isCells = false → o.isWalk = false → Kp W (W.putObj k o')) (hb0 : Below w0.heap.size w0 w) (hps : ∀ x, (encs x).size = ps.size)
    (I : List α → World → Prop) (Ix : Code → List α → World → Prop) (hI : OwnFrom w.heap.size I) (hIx : ∀ c, OwnFrom w.heap.size (Ix c)) (h0 : I [] w) (Ax : α → Act → World → Prop) (hAx : ∀ x a', OwnFrom w.heap.size (fun (_ : Unit) W => Ax x a' W))
    (hassign : ∀ (l : Nat) (pre : List α) (x : α) (W : World) (K : Act → World → Prop), I pre W → (∀ a' W', KeepsFrom w.heap.size W W' → Kp W W' → I pre W' → Ax x a' W' → K a' W') →
      assign.wpIn (Fence.wide.inRound l) (n - 1 - 1) P (Exit.then K (fun _ _ _ => False)) { tmps := (ps.zip (encs x)).foldl (fun t (p, v) => t.setIfInBounds p v) a.tmps, defers := [] } W)
    (hbody : ∀ (l : Nat) (pre : List α) (x : α) (a' : Act) (W : World), I pre W → Ax x a' W → Pr pre x → body.wpIn (Fence.wide.inRound l) (n - 1 - 1) P (ownPostG w.heap.size Kp I Ix (pre ++ [x]) W) a' W)
    (hdone : ∀ (D : Nat) (xs : List α) (W : World), w.heap.size ≤ D → S xs → I xs W → W.heap[D]? = some (.deferred (some [])) → Q .normal { a with defers := { target := .collected D, args := #[] } :: a.defers } W)
    (hstop : ∀ (D : Nat) (c : Code) (pre : List α) (W : World), w.heap.size ≤ D → Sp pre → Ix c pre W → W.heap[D]? = some (.deferred (some [])) → c.wpIn Fence.wide n P Q { a with defers := { target := .collected D, args := #[] } :: a.defers } W) :
    (Code.rangeFunc g ps assign body).wpIn Fence.wide n P Q a w := by
  refine wpIn_rangeFunc fun fn hfn => ?_
  obtain ⟨r, hr⟩ : ∃ r : Loop, r = { state := .ready, pending := none, fn, tmps := a.tmps, params := ps, assign, body, defers := w.heap.size } := ⟨_, rfl⟩
  obtain ⟨W1, hW1⟩ : ∃ W1, (w.alloc (.deferred (some []))).alloc (.loop r) = W1 := ⟨_, rfl⟩
  have hbw : Below w.heap.size w W1 := by rw [← hW1]; exact ((Below.refl _ w).alloc (Nat.le_refl _) _).alloc (by simp) _
  have hrec : Rec w.heap.size (w.heap.size + 1) r W1 := by
    rw [← hW1]
    refine ⟨?_, (Below.heap_alloc _ _ _ (by simp)).trans (World.alloc_heap_new w _), by omega⟩
    have := World.alloc_heap_new (w.alloc (.deferred (some []))) (.loop r)
    rwa [World.size_alloc] at this
  have hz : w.heap.size + 2 = W1.heap.size := by rw [← hW1]; simp
  have h1 : I [] W1 := by rw [← hW1]; exact hI.alloc _ (hI.alloc _ h0)
  refine ⟨w.heap.size + 1, [{ target := .collected w.heap.size, args := #[] }], W1, { target := .fn (.func gf) lb, args := #[.func (.yield (w.heap.size + 1)) #[] #[]] }, W1, gf,
    #[.func (.yield (w.heap.size + 1)) #[] #[]] ++ lb, W1, ?_, ?_, fun _ _ => trivial, ?_, fun h => (by cases h), ?_⟩
  · rw [← hW1, hr]
    exact run_enterLoop_outer _ _ _ _ _
  · simp only [resolve, hg]
    simp [go_sem]
  · simp [invoke, go_sem, eg]
  · have low : ∀ {A : World} {row : Option Nat}, (∀ x, row = some x → W1.heap.size ≤ x ∧ ∃ o : Obj, A.heap[x]? = some o ∧ o.isWalk = true) → ∀ x, row = some x → w.heap.size ≤ x ∧ ∃ o : Obj, A.heap[x]? = some o ∧ o.isCells = false := fun h x e => by
      obtain ⟨h1, o, ho, hw⟩ := h x e
      exact ⟨by omega, o, ho, Obj.not_cells_of_walk hw⟩
    have hrr : { r with state := .ready, pending := none } = r := by rw [hr]
    have H := hseq (w.heap.size + 1) (fun pre W => I pre W ∧ Rec w.heap.size (w.heap.size + 1) r W)
      (fun pre W => ∃ c, Ix c pre W ∧ Rec w.heap.size (w.heap.size + 1) { r with state := .done, pending := some c } W) W1 (hb0.trans (hbw.mono hb0.size))
      (fun s A B row hs hg' hrow => ⟨hI s A B row hs.1 hg' (low hrow), hs.2.grown hg' fun x e => (hrow x e).2⟩)
      (fun s A B row hs hg' hrow => by
        obtain ⟨c, hc, h2⟩ := hs
        exact ⟨c, hIx c s A B row hc hg' (low hrow), h2.grown hg' fun x e => (hrow x e).2⟩)
      (fun pre x W hJ hPr => by
        have Y := round_foll (P := P) (n := n - 1) (r := r) (encs := encs) (Kp := Kp) (I := I) (Ix := Ix) (Ax := Ax) (fun h k => hKt h k) hKb (by rw [hr]; exact hps x) (by rw [hr]) hI hIx hAx hJ.2 hJ.1
          (fun K hK => by rw [hr]; exact hassign _ pre x W K hJ.1 hK) (fun a' W' hl hi hax => by rw [hr]; exact hbody _ pre x a' W' hi hax hPr)
        rw [hrr] at Y
        exact Y)
      ⟨h1, hrec⟩
    refine H.mono ?_
    rintro e W2 ⟨⟨v, rfl⟩, (⟨xs, hS, hi, h2⟩ | ⟨pre, hSp, c, hi, h2⟩)⟩
    · have h3 := run_endLoop (P := P) h2.loop (by rw [hr]; simp)
      refine ⟨_, _, h3, ?_⟩
      rw [hr]
      exact hdone _ xs _ (Nat.le_refl _) hS (hI.putObj _ hi (by omega) h2.loop rfl) (h2.put _).mark
    · have h3 := run_endLoop (P := P) h2.loop (by simp)
      exact ⟨_, _, h3, hstop _ c pre _ (Nat.le_refl _) hSp ((hIx c).putObj _ hi (by omega) h2.loop rfl) (h2.put _).mark⟩
end
end Go.Proofs.Ytkdmlffnkomdhaa
