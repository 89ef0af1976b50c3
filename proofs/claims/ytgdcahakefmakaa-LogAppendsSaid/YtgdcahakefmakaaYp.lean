/-
  A LAW OF MY OWN, over whatever program: a loop over a function whose iterator says which element may follow which: the body is walked at those alone.
-/
import Derived.RangeFuncNested
import Derived.RangeFuncLeaves
import Derived.RangeFuncKeeps
import Derived.Test.YtgdcahakefmakaaRr
namespace Go.Proofs.Ytgdcahakefmakaa
set_option linter.unusedVariables false
set_option linter.unusedSimpArgs false
open Go.RowKit Go.WideShapes Go.ChangeShapes
section
variable {α : Type} {P : Program} {n : Nat}

/-- What an iterator does whose elements x come behind pre only where Pr pre x. -/
def SeqFoll (n : Nat) (P : Program) (g : Nat) (lb : Array Value) (encs : α → Array Value) (Kp : World → World → Prop) (S Sp : List α → Prop) (Pr : List α → α → Prop) (w : World) : Prop :=
  ∀ (l : Nat) (J Jx : List α → World → Prop) (W : World), Below w.heap.size w W → AbidesFrom W.heap.size J → AbidesFrom W.heap.size Jx →
    (∀ pre x W1, J pre W1 → Pr pre x → YieldAt Fence.wide (n - 1) P l (encs x) W1 fun e W' => (e = .returned (.bool true) ∧ J (pre ++ [x]) W' ∧ Kp W1 W') ∨ (e = .returned (.bool false) ∧ Jx (pre ++ [x]) W')) →
    J [] W → CallsIn Fence.wide n P g (#[.func (.yield l) #[] #[]] ++ lb) W fun e W' => (∃ v, e = .returned v) ∧ ((∃ xs, S xs ∧ J xs W') ∨ (∃ pre, Sp pre ∧ Jx pre W'))

/-- The loop's record, and the block for its deferred calls. -/
structure Rec (D l : Nat) (r : Loop) (W : World) : Prop where
  loop : W.heap[l]? = some (.loop r)
  mark : W.heap[D]? = some (.deferred (some []))
  lt : D < l
theorem Rec.keeps {D l : Nat} {r : Loop} {W W' : World} (h : Rec D l r W) (hk : KeepsFrom D W W') : Rec D l r W' :=
  ⟨hk.same _ _ (Nat.le_of_lt h.lt) h.loop rfl, hk.same _ _ (Nat.le_refl _) h.mark rfl, h.lt⟩
theorem Rec.put {D l : Nat} {r : Loop} {W : World} (h : Rec D l r W) (r' : Loop) : Rec D l r' (W.putObj l (.loop r')) :=
  ⟨World.putObj_heap_same (Array.getElem?_eq_some_iff.1 h.loop).1, (World.putObj_heap_other (Nat.ne_of_lt h.lt)).trans h.mark, h.lt⟩
theorem Rec.grown {D l : Nat} {r : Loop} {W W' : World} (h : Rec D l r W) {row : Option Nat} (hg : W.grownBy W' row) (hr : ∀ x, row = some x → ∃ o : Obj, W.heap[x]? = some o ∧ o.isWalk = true) : Rec D l r W' :=
  ⟨(grownBy_keeps hg hr h.loop rfl).trans h.loop, (grownBy_keeps hg hr h.mark rfl).trans h.mark, h.lt⟩

/-- One round, told by what the body does. -/
theorem round_foll {D l : Nat} {r : Loop} {encs : α → Array Value} {Kp : World → World → Prop} {I : List α → World → Prop} {Ix : Code → List α → World → Prop} {Ax : α → Act → World → Prop} {pre : List α} {x : α} {W : World}
    (hKt : ∀ {A B C : World}, Kp A B → Kp B C → Kp A C) (hKb : ∀ (W : World) (k : Nat) (o o' : Obj), D ≤ k → W.heap[k]? = some o → o.isCells = false → o.isWalk = false → Kp W (W.putObj k o'))
    (hps : (encs x).size = r.params.size) (hready : r.state = .ready) (hI : OwnFrom D I) (hIx : ∀ c, OwnFrom D (Ix c)) (hAx : ∀ x a', OwnFrom D (fun (_ : Unit) W => Ax x a' W))
    (hrec : Rec D l r W) (hi : I pre W)
    (hassign : ∀ (K : Act → World → Prop), (∀ a' W', KeepsFrom D W W' → Kp W W' → I pre W' → Ax x a' W' → K a' W') →
      r.assign.wpIn (Fence.wide.inRound l) (n - 1) P (Exit.then K (fun _ _ _ => False)) { tmps := (r.params.zip (encs x)).foldl (fun t (p, v) => t.setIfInBounds p v) r.tmps, defers := [] } W)
    (hbody : ∀ a' W', (∃ r', W'.heap[l]? = some (.loop r')) → I pre W' → Ax x a' W' → r.body.wpIn (Fence.wide.inRound l) (n - 1) P (ownPostG D Kp I Ix (pre ++ [x]) W') a' W') :
    YieldAt Fence.wide (n - 1) P l (encs x) W fun e W' =>
      (e = .returned (.bool true) ∧ (I (pre ++ [x]) W' ∧ Rec D l { r with state := .ready, pending := none } W') ∧ Kp W W') ∨
      (e = .returned (.bool false) ∧ ∃ c, Ix c (pre ++ [x]) W' ∧ Rec D l { r with state := .done, pending := some c } W') := by
  refine ⟨r.fn, _, r.assign, r.body, run_yield (P := P) (args := encs x) hrec.loop hps, roundIn_of_wpIn trivial (hassign _ ?_)⟩
  intro a' Wa hkf hkp hia hax
  have ra := hrec.keeps hkf
  refine ⟨_, run_beginRound ra.loop hready, ?_⟩
  have rb := ra.put { r with state := .busy }
  have hkb : Kp Wa (Wa.putObj l (.loop { r with state := .busy })) := hKb _ _ _ _ (Nat.le_of_lt ra.lt) ra.loop rfl rfl
  have hib := hI.putObj (.loop { r with state := .busy }) hia (Nat.le_of_lt ra.lt) ra.loop rfl
  have hab := (hAx x a').putObj (s := ()) (.loop { r with state := .busy }) hax (Nat.le_of_lt ra.lt) ra.loop rfl
  refine wpIn_mono (hbody a' _ ⟨_, rb.loop⟩ hib hab) ?_
  have leave : ∀ (c : Code) (W3 : World), KeepsFrom D (Wa.putObj l (.loop { r with state := .busy })) W3 → Ix c (pre ++ [x]) W3 →
      ∃ v w', (Instr.endRound l (some c)).run P W3 = .ok v w' ∧ v = .bool false ∧ ∃ c', Ix c' (pre ++ [x]) w' ∧ Rec D l { r with state := .done, pending := some c' } w' := fun c W3 hk3 hx3 => by
    have r3 := rb.keeps hk3
    refine ⟨_, _, run_endRound (P := P) (some c) r3.loop, rfl, c, (hIx c).putObj _ hx3 (Nat.le_of_lt r3.lt) r3.loop rfl, ?_⟩
    exact r3.put _
  intro e a3 W3 hp
  cases e with
  | normal =>
    obtain ⟨hk3, hkp3, hi3⟩ := hp
    have r3 := rb.keeps hk3
    refine ⟨_, _, run_endRound (P := P) none r3.loop, .inl ⟨rfl, ⟨hI.putObj _ hi3 (Nat.le_of_lt r3.lt) r3.loop rfl, r3.put _⟩, hKt hkp (hKt hkb (hKt hkp3 (hKb _ _ _ _ (Nat.le_of_lt r3.lt) r3.loop rfl rfl)))⟩⟩
  | ret =>
    obtain ⟨v, w', h1, h2, h3⟩ := leave .ret W3 hp.1 hp.2
    exact ⟨v, w', h1, .inr ⟨by rw [h2], h3⟩⟩
  | exit id =>
    obtain ⟨v, w', h1, h2, h3⟩ := leave (.exit id) W3 hp.1 hp.2
    exact ⟨v, w', h1, .inr ⟨by rw [h2], h3⟩⟩
  | goto t =>
    obtain ⟨v, w', h1, h2, h3⟩ := leave (.goto t) W3 hp.1 hp.2
    exact ⟨v, w', h1, .inr ⟨by rw [h2], h3⟩⟩
  | panic ch => exact hp.elim
  | outgrown => exact hp.elim

/-- THE LAW. -/
theorem wpIn_rangeFunc_foll {g : Operand} {ps : Array Tmp} {assign body : Code} {Q : Exit → Act → World → Prop} {a : Act} {w : World}
    {gf : Nat} {lb : Array Value} (hg : a.eval g = .func (.func gf) #[] lb) (eg : ∀ args w, (callFunc gf args).run P w = .ok (.enter gf args) w)
    {encs : α → Array Value} {Kp : World → World → Prop} {S Sp : List α → Prop} {Pr : List α → α → Prop} {w0 : World} (hseq : SeqFoll (n - 1) P gf lb encs Kp S Sp Pr w0)
    (hKt : ∀ {A B C : World}, Kp A B → Kp B C → Kp A C) (hKb : ∀ (W : World) (k : Nat) (o o' : Obj), w.heap.size ≤ k → W.heap[k]? = some o → o.isCells = false → o.isWalk = false → Kp W (W.putObj k o')) (hb0 : Below w0.heap.size w0 w) (hps : ∀ x, (encs x).size = ps.size)
    (I : List α → World → Prop) (Ix : Code → List α → World → Prop) (hI : OwnFrom w.heap.size I) (hIx : ∀ c, OwnFrom w.heap.size (Ix c)) (h0 : I [] w) (Ax : α → Act → World → Prop) (hAx : ∀ x a', OwnFrom w.heap.size (fun (_ : Unit) W => Ax x a' W))
    (hassign : ∀ (l : Nat) (pre : List α) (x : α) (W : World) (K : Act → World → Prop), I pre W → (∀ a' W', KeepsFrom w.heap.size W W' → Kp W W' → I pre W' → Ax x a' W' → K a' W') →
      assign.wpIn (Fence.wide.inRound l) (n - 1 - 1) P (Exit.then K (fun _ _ _ => False)) { tmps := (ps.zip (encs x)).foldl (fun t (p, v) => t.setIfInBounds p v) a.tmps, defers := [] } W)
    (hbody : ∀ (l : Nat) (pre : List α) (x : α) (a' : Act) (W : World), I pre W → Ax x a' W → Pr pre x → body.wpIn (Fence.wide.inRound l) (n - 1 - 1) P (ownPostG w.heap.size Kp I Ix (pre ++ [x]) W) a' W)
    (hdone : ∀ (D : Nat) (xs : List α) (W : World), w.heap.size ≤ D → S xs → I xs W → W.heap[D]? = some (.deferred (some [])) → Q .normal { a with defers := { target := .collected D, args := #[] } :: a.defers } W)
    (hstop : ∀ (D : Nat) (c : Code) (pre : List α) (W : World), w.heap.size ≤ D → Sp pre → Ix c pre W → W.heap[D]? = some (.deferred (some [])) → c.wpIn Fence.wide n P Q { a with defers := { target := .collected D, args := #[] } :: a.defers } W) :
    (Code.rangeFunc g ps assign body).wpIn Fence.wide n P Q a w := by
  refine wpIn_rangeFunc fun fn hfn => ?_
  obtain ⟨r, hr⟩ : ∃ r : Loop, r = { state := .ready, pending := none, fn, tmps := a.tmps, params := ps, assign, body, defers := w.heap.size } := ⟨_, rfl⟩
  obtain ⟨W1, hW1⟩ : ∃ W1, (w.alloc (.deferred (some []))).alloc (.loop r) = W1 := ⟨_, rfl⟩
  have hbw : Below w.heap.size w W1 := by rw [← hW1]; exact ((Below.refl _ w).alloc (Nat.le_refl _) _).alloc (by simp) _
  have hrec : Rec w.heap.size (w.heap.size + 1) r W1 := by
    rw [← hW1]
    refine ⟨?_, (Below.heap_alloc _ _ _ (by simp)).trans (World.alloc_heap_new w _), by omega⟩
    have := World.alloc_heap_new (w.alloc (.deferred (some []))) (.loop r)
    rwa [World.size_alloc] at this
  have hz : w.heap.size + 2 = W1.heap.size := by rw [← hW1]; simp
  have h1 : I [] W1 := by rw [← hW1]; exact hI.alloc _ (hI.alloc _ h0)
  refine ⟨w.heap.size + 1, [{ target := .collected w.heap.size, args := #[] }], W1, { target := .fn (.func gf) lb, args := #[.func (.yield (w.heap.size + 1)) #[] #[]] }, W1, gf,
    #[.func (.yield (w.heap.size + 1)) #[] #[]] ++ lb, W1, ?_, ?_, fun _ _ => trivial, ?_, fun h => (by cases h), ?_⟩
  · rw [← hW1, hr]
    exact run_enterLoop_outer _ _ _ _ _
  · simp only [resolve, hg]
    simp [go_sem]
  · simp [invoke, go_sem, eg]
  · have low : ∀ {A : World} {row : Option Nat}, (∀ x, row = some x → W1.heap.size ≤ x ∧ ∃ o : Obj, A.heap[x]? = some o ∧ o.isWalk = true) → ∀ x, row = some x → w.heap.size ≤ x ∧ ∃ o : Obj, A.heap[x]? = some o ∧ o.isCells = false := fun h x e => by
      obtain ⟨h1, o, ho, hw⟩ := h x e
      exact ⟨by omega, o, ho, Obj.not_cells_of_walk hw⟩
    have hrr : { r with state := .ready, pending := none } = r := by rw [hr]
    have H := hseq (w.heap.size + 1) (fun pre W => I pre W ∧ Rec w.heap.size (w.heap.size + 1) r W)
      (fun pre W => ∃ c, Ix c pre W ∧ Rec w.heap.size (w.heap.size + 1) { r with state := .done, pending := some c } W) W1 (hb0.trans (hbw.mono hb0.size))
      (fun s A B row hs hg' hrow => ⟨hI s A B row hs.1 hg' (low hrow), hs.2.grown hg' fun x e => (hrow x e).2⟩)
      (fun s A B row hs hg' hrow => by
        obtain ⟨c, hc, h2⟩ := hs
        exact ⟨c, hIx c s A B row hc hg' (low hrow), h2.grown hg' fun x e => (hrow x e).2⟩)
      (fun pre x W hJ hPr => by
        have Y := round_foll (P := P) (n := n - 1) (r := r) (encs := encs) (Kp := Kp) (I := I) (Ix := Ix) (Ax := Ax) (fun h k => hKt h k) hKb (by rw [hr]; exact hps x) (by rw [hr]) hI hIx hAx hJ.2 hJ.1
          (fun K hK => by rw [hr]; exact hassign _ pre x W K hJ.1 hK) (fun a' W' hl hi hax => by rw [hr]; exact hbody _ pre x a' W' hi hax hPr)
        rw [hrr] at Y
        exact Y)
      ⟨h1, hrec⟩
    refine H.mono ?_
    rintro e W2 ⟨⟨v, rfl⟩, (⟨xs, hS, hi, h2⟩ | ⟨pre, hSp, c, hi, h2⟩)⟩
    · have h3 := run_endLoop (P := P) h2.loop (by rw [hr]; simp)
      refine ⟨_, _, h3, ?_⟩
      rw [hr]
      exact hdone _ xs _ (Nat.le_refl _) hS (hI.putObj _ hi (by omega) h2.loop rfl) (h2.put _).mark
    · have h3 := run_endLoop (P := P) h2.loop (by simp)
      exact ⟨_, _, h3, hstop _ c pre _ (Nat.le_refl _) hSp ((hIx c).putObj _ hi (by omega) h2.loop rfl) (h2.put _).mark⟩
end
end Go.Proofs.Ytgdcahakefmakaa
