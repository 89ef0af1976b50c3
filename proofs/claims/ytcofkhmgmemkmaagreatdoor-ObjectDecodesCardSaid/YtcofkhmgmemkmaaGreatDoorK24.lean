/-
  OWN LAW: a range over a function whose iterator writes to variables of its own between the yields.
  A LAW OF MY OWN, over whatever program: a region that draws its order, in the body of a loop over a function: what is shown of all its orders outside such a round holds in the round too, where nothing in it is deferred. With it the law on regions of Bar in a round.
  OWN LAWS: a region in the body of a range over a function, walked as a plain one; loads ahead of a yield.
-/
import Derived.Test.YtcofkhmgmemkmaaGreatDoorK23
import Derived.Test.YtcofkhmgmemkmaaGreatDoorK07
import Derived.RangeFuncCalls
import Derived.OrdersIn
import Derived.TacticsIn
import Derived.Deep.Quiet
namespace Go.Proofs.YtcofkhmgmemkmaaGreatDoor
set_option linter.unusedVariables false
set_option linter.unusedSimpArgs false
open Go.RowKit Go.WideShapes Go.ChangeShapes Go.Deep Go.Shelf

/-- What an iterator may do to the world of the loop: it makes blocks, and turns cells of these types, from n0 on. -/
structure Tr (T : TypeId → Bool) (n0 : Nat) (A B : World) : Prop where
  os : B.os = A.os
  tape : B.tape = A.tape
  output : B.output = A.output
  size : A.heap.size ≤ B.heap.size
  lo : n0 ≤ A.heap.size ∧ ∀ i, i < n0 → B.heap[i]? = A.heap[i]?
  kp : ∀ (k : Nat) (o : Obj), A.heap[k]? = some o → (∀ cs t f, o = .cells cs t f → T t = false) → B.heap[k]? = some o
theorem Tr.bel {T : TypeId → Bool} {n0 : Nat} {A B : World} (h : Tr T n0 A B) : Below n0 A B := ⟨h.os, h.tape, h.output, h.size, h.lo.2⟩
theorem Tr.trans {T : TypeId → Bool} {n0 : Nat} {A B C : World} (h : Tr T n0 A B) (k : Tr T n0 B C) : Tr T n0 A C := ⟨k.os.trans h.os, k.tape.trans h.tape, k.output.trans h.output, Nat.le_trans h.size k.size, ⟨h.lo.1, fun i hi => (k.lo.2 i hi).trans (h.lo.2 i hi)⟩, fun j o hj ho => k.kp j o (h.kp j o hj ho) ho⟩
theorem Tr.below {T : TypeId → Bool} {n0 : Nat} {A B : World} (h : Below A.heap.size A B) (h0 : n0 ≤ A.heap.size) : Tr T n0 A B := ⟨h.os, h.tape, h.output, h.size, ⟨h0, fun i hi => h.block i (by omega)⟩, fun j o hj _ => (h.block j (Array.getElem?_eq_some_iff.1 hj).1).trans hj⟩
/-- One step in a block of cells of such a type. -/
theorem Tr.grown {T : TypeId → Bool} {n0 : Nat} {A B : World} {r : Option Nat} (h : A.grownBy B r) (h0 : n0 ≤ A.heap.size) (hn : ∀ g, r = some g → n0 ≤ g) (hr : ∀ g, r = some g → ∀ o, A.heap[g]? = some o → ∃ cs t f, o = .cells cs t f ∧ T t = true) : Tr T n0 A B :=
  ⟨h.os, h.tape, h.output, h.size, ⟨h0, fun i hi => h.block i (by omega) (fun e => by have := hn i e.symm; omega)⟩, fun j o hj ho => (h.block j (Array.getElem?_eq_some_iff.1 hj).1 (fun e => by
    obtain ⟨cs, t, f, rfl, ht⟩ := hr j e.symm o hj
    rw [ho cs t f rfl] at ht
    cases ht)).trans hj⟩
/-- An iterator over 'encs', which turns the loop's world by Tr alone. -/
def SeqTurns {α : Type} (F : Fence) (n : Nat) (P : Program) (g : Nat) (lb : Array Value) (encs : α → Array Value) (T : TypeId → Bool) (n0 : Nat) (Vx : List α → α → World → Prop) (Fj : World → Prop) (Kp : World → World → Prop) (S Sp : List α → Prop) (N : Nat) (w : World) : Prop :=
  ∀ (l : Nat) (J Jx : List α → World → Prop) (W : World), Below w.heap.size w W → (∀ s A B, s.length < N → J s A → Tr T n0 A B → J s B) → (∀ s A, J s A → Fj A) →
    (∀ pre x W1, J pre W1 → Vx pre x W1 → pre.length < N → YieldAt F (n - 1) P l (encs x) W1 fun e W' => (e = .returned (.bool true) ∧ J (pre ++ [x]) W' ∧ Kp W1 W') ∨ (e = .returned (.bool false) ∧ Jx (pre ++ [x]) W')) →
    J [] W → CallsIn F n P g (#[.func (.yield l) #[] #[]] ++ lb) W fun e W' => (∃ v, e = .returned v) ∧ ((∃ xs, S xs ∧ J xs W') ∨ (∃ pre, Sp pre ∧ Jx pre W'))
theorem wpIn_rangeFunc_turn {α : Type} {F : Fence} {n : Nat} {P : Program} {g : Operand} {ps : Array Tmp} {assign body : Code} {Q : Exit → Act → World → Prop} {a : Act} {w : World}
    (hro : F.round = none) (h1 : 1 ≤ n) {gf : Nat} {lb : Array Value} (hg : a.eval g = .func (.func gf) #[] lb) (hFg : F.fn gf) (eg : ∀ args w, (callFunc gf args).run P w = .ok (.enter gf args) w)
    {encs : α → Array Value} {T : TypeId → Bool} {n0 : Nat} {Vx : List α → α → World → Prop} {Fj : World → Prop} {Kp : World → World → Prop} {S Sp : List α → Prop} {N : Nat} {w0 : World} (hseq : SeqTurns F (n - 1) P gf lb encs T n0 Vx Fj Kp S Sp N w0)
    (hKt : ∀ {A B C : World}, Kp A B → Kp B C → Kp A C) (hKb : ∀ (W : World) (l : Nat) (o o' : Obj), w.heap.size ≤ l → W.heap[l]? = some o → o.isCells = false → o.isWalk = false → Kp W (W.putObj l o')) (hb0 : Below w0.heap.size w0 w) (hps : ∀ x, (encs x).size = ps.size)
    (I : List α → World → Prop) (Ix : Code → List α → World → Prop) (hI : OwnFrom w.heap.size I) (hIT : ∀ s A B, s.length < N → I s A → Tr T n0 A B → I s B) (hIF : ∀ s A, I s A → Fj A) (hIx : ∀ c, OwnFrom w.heap.size (Ix c)) (h0 : I [] w)
    (Ax : List α → α → Act → World → Prop) (hAx : ∀ pre x a', OwnFrom w.heap.size (fun (_ : Unit) W => Ax pre x a' W))
    (hassign : ∀ (l : Nat) (pre : List α) (x : α) (W : World) (K : Act → World → Prop), I pre W → Vx pre x W → (∀ a' W', KeepsFrom w.heap.size W W' → Kp W W' → I pre W' → Ax pre x a' W' → K a' W') →
      assign.wpIn (F.inRound l) (n - 1 - 1) P (Exit.then K (fun _ _ _ => False)) { tmps := (ps.zip (encs x)).foldl (fun t (p, v) => t.setIfInBounds p v) a.tmps, defers := [] } W)
    (hbody : ∀ (l : Nat) (pre : List α) (x : α) (a' : Act) (W : World), w.heap.size ≤ l → (∃ r, W.heap[l]? = some (.loop r)) → I pre W → Ax pre x a' W → pre.length < N → body.wpIn (F.inRound l) (n - 1 - 1) P (ownPostG w.heap.size Kp I Ix (pre ++ [x]) W) a' W)
    (hdone : ∀ (D : Nat) (xs : List α) (W : World), w.heap.size ≤ D → S xs → I xs W → W.heap[D]? = some (.deferred (some [])) → Q .normal { a with defers := { target := .collected D, args := #[] } :: a.defers } W)
    (hstop : ∀ (D : Nat) (c : Code) (pre : List α) (W : World), w.heap.size ≤ D → Sp pre → Ix c pre W → W.heap[D]? = some (.deferred (some [])) → c.wpIn F n P Q { a with defers := { target := .collected D, args := #[] } :: a.defers } W) :
    (Code.rangeFunc g ps assign body).wpIn F n P Q a w := by
  refine wpIn_rangeFunc ?_
  intro fn hfn
  rw [hro]
  -- the loop's record, in block L; its deferred calls, in block D
  obtain ⟨L, hL⟩ : ∃ L, w.heap.size + 1 = L := ⟨_, rfl⟩
  obtain ⟨D, hD⟩ : ∃ D, w.heap.size = D := ⟨_, rfl⟩
  obtain ⟨rec, hrec⟩ : ∃ rec : LoopState → Option Code → Loop, rec = fun st pe => { state := st, pending := pe, fn, tmps := a.tmps, params := ps, assign, body, defers := D } := ⟨_, rfl⟩
  obtain ⟨V, hV⟩ : ∃ V, (w.alloc (.deferred (some []))).alloc (.loop (rec .ready none)) = V := ⟨_, rfl⟩
  have vL : V.heap[L]? = some (.loop (rec .ready none)) := by
    have := World.alloc_heap_new (w.alloc (.deferred (some []))) (.loop (rec .ready none))
    rw [World.size_alloc, hL, hV] at this
    exact this
  have vD : V.heap[D]? = some (.deferred (some [])) := by
    rw [← hV, ← hD]
    exact (Below.heap_alloc _ _ _ (by simp)).trans (World.alloc_heap_new w _)
  have iV : I [] V := by rw [← hV]; exact hI.alloc _ (hI.alloc _ h0)
  have bV : Below w0.heap.size w0 V := by
    rw [← hV]
    exact hb0.trans ((((Below.refl _ w).alloc (Nat.le_refl _) _).alloc (by simp) _).mono hb0.size)
  have tr : ∀ {A B : World} {k : Nat} {o : Obj}, Tr T n0 A B → A.heap[k]? = some o → o.isCells = false → B.heap[k]? = some o := fun h hk ho => h.kp _ _ hk (fun cs t f e => by rw [e] at ho; cases ho)
  refine ⟨L, [{ target := .collected D, args := #[] }], V, { target := .fn (.func gf) lb, args := #[.func (.yield L) #[] #[]] }, V, gf, #[.func (.yield L) #[] #[]] ++ lb, V, ?_, ?_, ?_, ?_, fun _ => h1, ?_⟩
  · rw [← hV, hrec, ← hL, ← hD]
    exact run_enterLoop_outer _ _ _ _ _
  · simp only [resolve, hg]
    simp [go_sem]
  · intro f' hf'
    simp [Target.leads] at hf'
    subst hf'
    exact hFg
  · simp [invoke, go_sem, eg]
  · refine (hseq L (fun pre W => I pre W ∧ W.heap[L]? = some (.loop (rec .ready none)) ∧ W.heap[D]? = some (.deferred (some [])))
      (fun pre W => ∃ c, Ix c pre W ∧ W.heap[L]? = some (.loop (rec .done (some c))) ∧ W.heap[D]? = some (.deferred (some []))) V bV
      (fun s A B hn hs ht => ⟨hIT s A B hn hs.1 ht, tr ht hs.2.1 rfl, tr ht hs.2.2 rfl⟩) (fun s A hs => hIF s A hs.1) ?_ ⟨iV, vL, vD⟩).mono ?_
    · -- a round
      rintro pre x W ⟨hi, hl, hk⟩ hvx hlen
      have hy := run_yield (P := P) (args := encs x) hl (by rw [hrec]; exact hps x)
      rw [hrec] at hy
      refine ⟨fn, _, assign, body, hy, roundIn_of_wpIn hfn (hassign _ pre x W _ hi hvx ?_)⟩
      clear hy
      intro a' Wa kfa kpa hia hax
      have al := kfa.same _ _ (by omega) hl rfl
      have ak := kfa.same _ _ (by omega) hk rfl
      have alt := (Array.getElem?_eq_some_iff.1 al).1
      have bl : (Wa.putObj L (.loop { rec .ready none with state := .busy })).heap[L]? = some (.loop { rec .ready none with state := .busy }) := World.putObj_heap_same alt
      have bk : (Wa.putObj L (.loop { rec .ready none with state := .busy })).heap[D]? = some (.deferred (some [])) := (World.putObj_heap_other (by omega)).trans ak
      have bw : Kp Wa (Wa.putObj L (.loop { rec .ready none with state := .busy })) := hKb _ _ _ _ (by omega) al rfl rfl
      refine ⟨_, run_beginRound al (by rw [hrec]), ?_⟩
      refine wpIn_mono (hbody _ pre x a' _ (by omega) ⟨_, bl⟩ (hI.putObj _ hia (by omega) al rfl) ((hAx pre x a').putObj (s := ()) _ hax (by omega) al rfl) hlen) ?_
      have fin : ∀ (jump : Option Code) (W3 : World), KeepsFrom w.heap.size (Wa.putObj L (.loop { rec .ready none with state := .busy })) W3 →
          (Instr.endRound L jump).run P W3 = .ok (.bool jump.isNone) (W3.putObj L (.loop (rec (if jump.isNone then .ready else .done) jump))) ∧ W3.heap[L]? = some (.loop { rec .ready none with state := .busy }) ∧
          (W3.putObj L (.loop (rec (if jump.isNone then .ready else .done) jump))).heap[L]? = some (.loop (rec (if jump.isNone then .ready else .done) jump)) ∧ (W3.putObj L (.loop (rec (if jump.isNone then .ready else .done) jump))).heap[D]? = some (.deferred (some [])) := fun jump W3 k3 => by
        have cl := k3.same _ _ (by omega) bl rfl
        have ck := k3.same _ _ (by omega) bk rfl
        have := run_endRound (P := P) jump cl
        rw [hrec] at this cl ⊢
        exact ⟨this, cl, World.putObj_heap_same (Array.getElem?_eq_some_iff.1 cl).1, (World.putObj_heap_other (by omega)).trans ck⟩
      rintro e a3 W3 hp
      cases e with
      | normal =>
        obtain ⟨k3, kp3, i3⟩ := hp
        obtain ⟨hr, c1, c2, c3⟩ := fin none W3 k3
        exact ⟨_, _, hr, .inl ⟨rfl, ⟨hI.putObj _ i3 (by omega) c1 rfl, c2, c3⟩, hKt kpa (hKt (hKt bw kp3) (hKb _ _ _ _ (by omega) c1 rfl rfl))⟩⟩
      | ret =>
        obtain ⟨k3, i3⟩ := hp
        obtain ⟨hr, c1, c2, c3⟩ := fin (some .ret) W3 k3
        exact ⟨_, _, hr, .inr ⟨rfl, .ret, (hIx _).putObj _ i3 (by omega) c1 rfl, c2, c3⟩⟩
      | exit id =>
        obtain ⟨k3, i3⟩ := hp
        obtain ⟨hr, c1, c2, c3⟩ := fin (some (.exit id)) W3 k3
        exact ⟨_, _, hr, .inr ⟨rfl, .exit id, (hIx _).putObj _ i3 (by omega) c1 rfl, c2, c3⟩⟩
      | goto t =>
        obtain ⟨k3, i3⟩ := hp
        obtain ⟨hr, c1, c2, c3⟩ := fin (some (.goto t)) W3 k3
        exact ⟨_, _, hr, .inr ⟨rfl, .goto t, (hIx _).putObj _ i3 (by omega) c1 rfl, c2, c3⟩⟩
      | panic ch => exact hp.elim
      | outgrown => exact hp.elim
    · -- behind the iterator
      rintro e W2 ⟨⟨v, rfl⟩, (⟨xs, hS, hi, hl, hk⟩ | ⟨pre, hSp, c, hi, hl, hk⟩)⟩
      · have := run_endLoop (P := P) hl (by rw [hrec]; simp)
        rw [hrec] at this
        exact ⟨none, _, this, hdone _ xs _ (by omega) hS (hI.putObj _ hi (by omega) hl rfl) ((World.putObj_heap_other (by omega)).trans hk)⟩
      · have := run_endLoop (P := P) hl (by rw [hrec]; simp)
        rw [hrec] at this
        exact ⟨some c, _, this, hstop _ c pre _ (by omega) hSp ((hIx c).putObj _ hi (by omega) hl rfl) ((World.putObj_heap_other (by omega)).trans hk)⟩
end Go.Proofs.YtcofkhmgmemkmaaGreatDoor
namespace Go.Proofs.YtcofkhmgmemkmaaGreatDoor
section
variable {P : Program} {ops : Array Oper} {Q : Exit → Act → World → Prop} {n r : Nat}

/-- Q, but False where it panics or is let out. -/
def Calm (Q : Exit → Act → World → Prop) : Exit → Act → World → Prop
  | .panic _, _, _ => False
  | .outgrown, _, _ => False
  | e, a, w => Q e a w
theorem Calm.imp : ∀ (e : Exit) (a : Act) (w : World), Calm Q e a w → Q e a w := fun e a w h => by
  cases e <;> first | exact h | exact (h : False).elim
theorem not_letsOut (h : LetsOut (Calm Q)) : False := by obtain ⟨a, w, h⟩ := h; exact h
theorem rowsIn_wide {row : String} {args : Array Value} {w : World} {R : Value → World → Prop} (h : Rows P row args w R) : RowsIn (Fence.wide.inRound r) n P row args w R :=
  fun c cs _ => let ⟨v, w', q, s⟩ := h c cs; ⟨v, w', q, (stepsIn_wide (P := P)).2 s⟩
theorem upon_in {o : Oper} {a : Act} {w : World} {K K' : Act → World → Prop} (hK : ∀ a w, K a w → K' a w) (hd : ∀ c, o.op ≠ .defer c) (h : o.wp P a w K (Calm Q)) : o.wpIn (Fence.wide.inRound r) n P a w K' (Calm Q) := by
  refine ⟨fun _ _ => trivial, ?_⟩
  show o.uponIn _ _ _ _ _ _ ((o.semAt (some r) a.eval).run P w)
  rw [Oper.semAt_some r a.eval o hd]
  unfold Oper.wp at h
  generalize (execOp a.eval o).run P w = res at h
  cases res with
  | ok x w' =>
    cases x <;> simp only [Oper.upon, Oper.uponIn] at h ⊢ <;> try exact hK _ _ h
    case enter f args =>
      refine ⟨fun hh => (by cases hh), CallsIn.inRound r (callsIn_wide.2 (h.mono fun e w'' he => ?_))⟩
      cases e with
      | returned v => exact hK _ _ he
      | panicked c => exact he
      | outgrown => exact he
    case row row args => exact ⟨fun hh => (by cases hh), rowsIn_wide (h.mono fun v w'' he => hK _ _ he)⟩
  | halt x w' => cases x <;> simp only [Oper.upon, Oper.uponIn] at h ⊢ <;> exact h
theorem ops_in (hd : ∀ (i : Nat) (o : Oper), ops[i]? = some o → ∀ c, o.op ≠ .defer c) : ∀ (l : List Nat) (a : Act) (w : World), wpOps P ops (Calm Q) l a w → wpOpsIn (Fence.wide.inRound r) n P ops (Calm Q) l a w
  | [], _, _, h => h
  | i :: rest, a, w, h => by
    simp only [wpOps, wpOpsIn] at h ⊢
    cases ho : ops[i]? with
    | none =>
      simp only [ho] at h ⊢
      exact ops_in hd rest a w h
    | some o =>
      simp only [ho] at h ⊢
      by_cases hw : Region.wanted o (yielded ops a.tmps) = true
      · simp only [hw, if_true] at h ⊢
        rcases h with h | h
        · exact upon_in (fun a w => ops_in hd rest a w) (hd i o ho) h
        · exact (not_letsOut h.2).elim
      · simp only [hw, Bool.false_eq_true, if_false] at h ⊢
        exact ⟨fun _ _ => trivial, ops_in hd rest _ w h⟩
def calmB (ops : Array Oper) : Bool := ops.all fun o => match o.op with | .defer _ => false | _ => true
theorem calmB_spec (h : calmB ops = true) : ∀ (i : Nat) (o : Oper), ops[i]? = some o → ∀ c, o.op ≠ .defer c := fun i o ho c hc => by
  unfold calmB at h
  rw [Array.all_eq_true] at h
  obtain ⟨hi, rfl⟩ := Array.getElem?_eq_some_iff.1 ho
  have := h i hi
  rw [hc] at this
  cases this
theorem wpIn_region_round {id : Nat} {a : Act} {w : World} (hm : P.follows .mixedOrders = true) (hd : calmB ops = true)
    (h : wpAny P .any ops (Calm Q) ops.size (Array.replicate ops.size false) a w.drew) : (Code.region id ops true).wpIn (Fence.wide.inRound r) n P Q a w :=
  wpIn_mono (wpIn_region_draw fun t => by
    simp only [Region.schedule, hm, Bool.true_or, if_true]
    exact ops_in (calmB_spec hd) _ _ _ (wpAny_sound ops.size t _ a _ h)) Calm.imp
theorem wpIn_region_bar {id : Nat} {a : Act} {w : World} {l : List Oper} (n' m : Nat) (S : World → Prop) (hm : P.follows .mixedOrders = true) (hd : calmB l.toArray = true) (hB : barB l.toArray n' m = true) (hS : S w.drew)
    (h : wpHead P l.toArray S (fun a1 => wpMid P (Calm Q) S (fun a2 w2 => wpList P l.toArray (Calm Q) (l.drop m) a2 w2) ((l.take m).drop n') a1 w.drew) (l.take n') a) : (Code.region id l.toArray true).wpIn (Fence.wide.inRound r) n P Q a w :=
  wpIn_region_round hm hd (any_bar n' m S (fun _ _ _ _ h => h) hB hS h)
theorem wpIn_region_quiet_round {id : Nat} {a : Act} {w : World} {l : List Oper} (hm : P.follows .mixedOrders = true) (hd : calmB l.toArray = true) (hB : Region.lexB .any l.toArray = true)
    (h : wpQuiet P l.toArray (fun w' => ∃ n, w' = w.drewN n) (fun a' => ∀ w', (∃ n, w' = w.drewN n) → Q .normal a' w') l a) : (Code.region id l.toArray true).wpIn (Fence.wide.inRound r) n P Q a w := by
  simp only [Region.lexB, Bool.and_eq_true] at hB
  refine wpIn_region_round hm hd (wpAny_of_quiet (Q := fun a' => ∀ w', (∃ n, w' = w.drewN n) → Q .normal a' w') (Q' := Calm Q) (C := fun w' => ∃ n, w' = w.drewN n) (fun _ w' hw' h => h w' hw') _ _ _ _ (show ∃ n, w.drew = w.drewN n from ⟨1, rfl⟩) ?_)
  have := wpAnyQ_lex (C := fun w' => ∃ n, w' = w.drewN n) (md := .any) hB.1 l.toArray.toList 0 (Array.replicate l.toArray.size false) a (by simp) (by simpa using hB.2) (by simpa using h)
  simpa using this
end
end Go.Proofs.YtcofkhmgmemkmaaGreatDoor
namespace Go.Proofs.YtcofkhmgmemkmaaGreatDoor
set_option linter.unusedVariables false
set_option linter.unusedSimpArgs false
open Go.RowKit Go.WideShapes Go.ChangeShapes Go.Deep Go.Shelf

theorem Calm.normal {Q : Exit → Act → World → Prop} {a : Act} {w : World} (h : Q .normal a w) : Calm Q .normal a w := h
theorem reg_in {P : Program} {Q : Exit → Act → World → Prop} {n r id : Nat} {l : List Oper} {a : Act} {w : World} (hd : calmB l.toArray = true) (h : wpList P l.toArray (Calm Q) l a w) : (Code.region id l.toArray false).wpIn (Fence.wide.inRound r) n P Q a w := by
  refine wpIn_mono (wpIn_region ?_) Calm.imp
  refine ops_in (calmB_spec hd) _ a w ?_
  rw [List.range_eq_range', show l.toArray.size = l.length by simp, wpOps_eq_wpList l 0 (by simp)]
  exact h
/-- An operation that yields a value, ahead of a yield. -/
theorem valIn {P : Program} {Q : Exit → Act → World → Prop} {n : Nat} {ops : Array Oper} {rest : List Oper} {op : Oper} {a : Act} {w : World} {v : Value} (hgd : op.guard = none) (hr : (execOp a.eval op).run P w = .ok (.value v) w)
    (h : wpListIn Fence.wide n P ops Q rest (a.put op.dst v) w) : wpListIn Fence.wide n P ops Q (op :: rest) a w :=
  wpListIn_plain hgd fun K hK => ⟨fun _ _ => trivial, by
    show op.uponIn _ _ _ _ _ _ ((op.semAt none a.eval).run P w)
    rw [Oper.semAt_none, hr]
    exact hK _ _ h⟩
theorem run_ldh {op : Oper} {a : Act} {w : World} (x : Operand) (ho : op.op = .load 54 x) (b o : Nat) (i : Idv) (j : Of) (hx : a.eval x = .pointer (some ⟨b, o, none⟩)) (hc : w.rangeAt b o (hdC i j)) : (execOp a.eval op).run Tryz.prog w = .ok (.value (.agg (hdC i j).toArray)) w := by
  unfold execOp
  simp only [ho, hx, Instr.loadAt, Instr.sureAddr, Sem.run_bind, Sem.run_pure, Result.andThen_ok, run_loadVar_mid w b o _ (hdC i j) _ hc Tryz.underlying54 rfl (by rw [hd_sz]; exact size_hd)]
theorem run_ldo {op : Oper} {a : Act} {w : World} (x : Operand) (ho : op.op = .load 34 x) (b o : Nat) (j : Of) (hx : a.eval x = .pointer (some ⟨b, o, none⟩)) (hc : w.rangeAt b o j.cells) : (execOp a.eval op).run Tryz.prog w = .ok (.value (ofV j)) w := by
  unfold execOp
  simp only [ho, hx, Instr.loadAt, Instr.sureAddr, Sem.run_bind, Sem.run_pure, Result.andThen_ok, run_loadVar_mid w b o _ j.cells _ hc Tryz.underlying34 rfl (by rw [of_sz]; exact size_of)]
end Go.Proofs.YtcofkhmgmemkmaaGreatDoor
