/-
  OWN LAW: the same, where behind a step pure operations may be taken at once.
  Boxes that are made at whatever time, known by their blocks' sizes; an empty slice that is made; a store of one value.
-/
import Derived.Test.YtkdmlffnkomdhaaRh
namespace Go.Proofs.Ytkdmlffnkomdhaa
set_option linter.unusedVariables false
set_option linter.unusedSimpArgs false
open Go.RowKit Go.WideShapes Go.ChangeShapes Go.Deep

theorem wpAnyH_free2 {P : Program} {md : Region.Mode} {ops : Array Oper} {Q : Exit → Act → World → Prop} {S : World → Prop} {a0 : Act} {l0 : Array Bool} {w0 : World} (I : Act → Array Bool → Nat → Array Bool → Act → World → Prop) (m : Nat) (tb : List (Nat × List Nat))
    (hr : ∀ f l a w, I a0 l0 (m + f + 1) l a w → (!(Region.ready md ops l).isEmpty && (Region.ready md ops l).all fun i => tb.any fun jp => i == jp.1 && !l.getD jp.1 true && jp.2.all fun q => l.getD q false) = true)
    (hs : ∀ f l a w, (∀ f' l' a' w', f' ≤ f → I a0 l0 (m + f') l' a' w' → wpAnyH P md ops Q S (m + f') l' a' w') → I a0 l0 (m + f + 1) l a w → ∀ jp ∈ tb, l.getD jp.1 true = false → (jp.2.all fun q => l.getD q false) = true →
      wpOp P ops Q jp.1 (fun a' w' => S w' ∧ wpAnyH P md ops Q S (m + f) (l.setIfInBounds jp.1 true) a' w') a w)
    (hend : ∀ l a w, I a0 l0 m l a w → wpAnyH P md ops Q S m l a w)
    (f : Nat) (h : I a0 l0 (m + f) l0 a0 w0) : wpAnyH P md ops Q S (m + f) l0 a0 w0 := by
  have key : ∀ f l a w, I a0 l0 (m + f) l a w → wpAnyH P md ops Q S (m + f) l a w := by
    intro f
    induction f using Nat.strongRecOn with
    | ind f ih =>
      intro l a w hI
      cases f with
      | zero => exact hend l a w hI
      | succ f =>
        have h1 := hr f l a w hI
        refine ⟨fun h0 => ?_, fun i hi => ?_⟩
        · rw [show Region.ready md ops l = [] from h0] at h1
          simp at h1
        · rw [Bool.and_eq_true, List.all_eq_true] at h1
          obtain ⟨jp, hjp, h2⟩ := List.any_eq_true.1 (h1.2 i hi)
          rw [Bool.and_eq_true, Bool.and_eq_true, beq_iff_eq, Bool.not_eq_true'] at h2
          obtain ⟨⟨rfl, h3⟩, h4⟩ := h2
          exact hs f l a w (fun f' l' a' w' hf' hI' => ih f' (by omega) l' a' w' hI') hI jp hjp h3 h4
  exact key f l0 a0 w0 h
theorem wpAnyH_free3 {P : Program} {md : Region.Mode} {ops : Array Oper} {Q : Exit → Act → World → Prop} {S : World → Prop} {a0 : Act} {l0 : Array Bool} {w0 : World} (I : (Nat → Value) → Act → Array Bool → Nat → Array Bool → Act → World → Prop) (m : Nat) (tb : List (Nat × List Nat))
    (hr : ∀ old f l a w, I old a0 l0 (m + f + 1) l a w → (!(Region.ready md ops l).isEmpty && (Region.ready md ops l).all fun i => tb.any fun jp => i == jp.1 && !l.getD jp.1 true && jp.2.all fun q => l.getD q false) = true)
    (hs : ∀ old f l a w, (∀ f' l' a' w', f' ≤ f → I old a0 l0 (m + f') l' a' w' → wpAnyH P md ops Q S (m + f') l' a' w') → I old a0 l0 (m + f + 1) l a w → ∀ jp ∈ tb, l.getD jp.1 true = false → (jp.2.all fun q => l.getD q false) = true →
      wpOp P ops Q jp.1 (fun a' w' => S w' ∧ wpAnyH P md ops Q S (m + f) (l.setIfInBounds jp.1 true) a' w') a w)
    (hend : ∀ old l a w, I old a0 l0 m l a w → wpAnyH P md ops Q S m l a w)
    (f : Nat) (h : I (fun i => a0.tmps.getD i undef) a0 l0 (m + f) l0 a0 w0) : wpAnyH P md ops Q S (m + f) l0 a0 w0 :=
  wpAnyH_free2 (I (fun i => a0.tmps.getD i undef)) m tb (hr _) (hs _) (hend _) f h
theorem bool_cases {c : Bool} (h : c = false → False) : c = true := by cases c <;> simp_all
end Go.Proofs.Ytkdmlffnkomdhaa
namespace Go.Proofs.Ytkdmlffnkomdhaa
set_option linter.unusedVariables false
set_option linter.unusedSimpArgs false
open Go.RowKit Go.WideShapes Go.ChangeShapes Go.Deep

/-- A block of k cells. -/
def Blk (w : World) (B k : Nat) : Prop := ∃ u T fr, w.heap[B]? = some (.cells u T fr) ∧ u.size = k
theorem Blk.new (w : World) (z : List Value) (T : TypeId) : Blk (w.alloc (.cells z.toArray T)) w.heap.size z.length := ⟨z.toArray, T, (0, 0), heap_alloc_new w _, by simp⟩
theorem Blk.keep {w w' : World} {B k : Nat} (h : Blk w B k) (hk : w'.heap[B]? = w.heap[B]?) : Blk w' B k := by
  obtain ⟨u, T, fr, h1, h2⟩ := h
  exact ⟨u, T, fr, hk.trans h1, h2⟩
theorem Blk.lt {w : World} {B k : Nat} (h : Blk w B k) : B < w.heap.size := by
  obtain ⟨u, T, fr, h1, _⟩ := h
  exact (Array.getElem?_eq_some_iff.1 h1).1
theorem Blk.setCell {w : World} {B k : Nat} (h : Blk w B k) (p : Addr) (v : Value) : Blk (w.setCell p v) B k := by
  obtain ⟨u, T, fr, h1, h2⟩ := h
  by_cases e : B = p.block
  · subst e
    exact ⟨if p.spot.isSome = true then u else u.setIfInBounds p.off v, T, fr, by simp [World.setCell, Array.getElem?_modify, h1], by split <;> simpa using h2⟩
  · exact ⟨u, T, fr, (Below.heap_setCell w p v B e).trans h1, h2⟩
theorem Blk.setCells {B k b : Nat} : ∀ (vs : List Value) (o : Nat) {w : World}, Blk w B k → Blk (w.setCells b o vs) B k
  | [], _, _, h => h
  | v :: vs, o, _, h => Blk.setCells vs (o + 1) (h.setCell ⟨b, o, none⟩ v)
/-- Boxes, as far as they are made; and their blocks. -/
structure Fw (w0 : World) (k : Nat) (obs : List (Option (Nat × List Value))) (w : World) : Prop where
  fr : Fr w0 k obs w
  bk : ∀ (i B : Nat) (v : List Value), obs[i]? = some (some (B, v)) → Blk w B k
section
variable {w0 w w' : World} {k : Nat} {obs : List (Option (Nat × List Value))}
theorem Fw.below (p : Fw w0 k obs w) : Below w0.heap.size w0 w := p.fr.below
theorem Fw.start (k : Nat) (obs : List (Option (Nat × List Value))) (ho : ∀ (i : Nat) (x : Nat × List Value), obs[i]? ≠ some (some x)) (h : Below w0.heap.size w0 w) : Fw w0 k obs w :=
  ⟨Fr.start k obs ho h, fun i B v e => absurd e (ho i _)⟩
theorem Fw.call (p : Fw w0 k obs w) (hb : Below w.heap.size w w') : Fw w0 k obs w' :=
  ⟨p.fr.call hb, fun i B v e => (p.bk i B v e).keep (hb.block B (p.bk i B v e).lt)⟩
theorem Fw.alloc (p : Fw w0 k obs w) (j : Nat) (z : List Value) (T : TypeId) (hz : z.length = k) : Fw w0 k (obs.set j (some (w.heap.size, z))) (w.alloc (.cells z.toArray T)) := by
  have hb : Below w.heap.size w (w.alloc (.cells z.toArray T)) := (Below.refl _ _).alloc (Nat.le_refl _) _
  refine ⟨p.fr.alloc j z T hz, fun i B v e => ?_⟩
  rcases set_get e with ⟨_, h⟩ | ⟨_, h⟩
  · injection h with h; injection h with h1 h2; subst h1 h2 hz
    exact Blk.new w _ T
  · exact (p.bk i B v h).keep (hb.block B (p.bk i B v h).lt)
theorem Fw.store (p : Fw w0 k obs w) (j B : Nat) {v : List Value} (hj : obs[j]? = some (some (B, v))) (v' : List Value) (hv : v'.length = k) : Fw w0 k (obs.set j (some (B, v'))) (w.setCells B 0 v') := by
  refine ⟨p.fr.store j B hj v' hv, fun i B2 u e => ?_⟩
  rcases set_get e with ⟨_, h⟩ | ⟨_, h⟩
  · injection h with h; injection h with h1 h2; subst h1 h2
    exact Blk.setCells _ 0 (p.bk j _ _ hj)
  · exact Blk.setCells _ 0 (p.bk i _ _ h)
theorem Fw.there (p : Fw w0 k obs w) (j B : Nat) {v : List Value} (hj : obs[j]? = some (some (B, v))) : w.there B 0 k := p.fr.there j B hj
/-- A row of values unlike the box's one isn't there. -/
theorem Fw.off {α : Type} {f : α → List Value} {k' C n c : Nat} {A : Option Addr} {l : List α} {z : Value} (p : Fw w0 1 obs w) (j B : Nat) (hj : obs[j]? = some (some (B, [z]))) (h : Sq f k' w C A n c l) (hz : ∀ x, z ∉ f x) (hk : 0 < k') (hn : 0 < n) : ∀ x, A = some x → x.block ≠ B := by
  obtain ⟨b, o, e, hlt, hr⟩ := h.at_ (i := 0) hn
  rintro x rfl
  cases e
  rintro rfl
  have hl : 0 < l.length := by rw [h.len]; exact hn
  obtain ⟨v, hv⟩ : ∃ v, (f (l[0]'hl))[0]? = some v := ⟨_, List.getElem?_eq_getElem (by rw [h.sz]; exact hk)⟩
  have hc := hr 0 v hv
  obtain ⟨u, T, fr, h1, h2⟩ := p.bk j _ _ hj
  have h0 := (p.fr.bx j _ _ hj).1.cell (j := 0) rfl
  unfold World.cell? at hc h0
  simp only [h1, Option.isSome_none, Bool.false_eq_true, if_false] at hc h0
  obtain ⟨hlt', e1⟩ := Array.getElem?_eq_some_iff.1 hc
  obtain ⟨hlt0, e2⟩ := Array.getElem?_eq_some_iff.1 h0
  have ho : o = 0 := by simp at hlt'; omega
  subst ho
  have : v = z := by rw [← e1, ← e2]; simp
  subst this
  exact hz _ (List.mem_of_getElem? hv)
theorem Sq.put_ {α : Type} {f : α → List Value} {k' n c B : Nat} {A : Option Addr} {l : List α} (h : Sq f k' w w.heap.size A n c l) (vs : List Value) (ho : 0 < n → ∀ x, A = some x → x.block ≠ B) : Sq f k' (w.setCells B 0 vs) (w.setCells B 0 vs).heap.size A n c l := by
  have e := (setCells_os B vs 0 w).2.2.2.1
  rw [e]
  exact h.put vs ho
end
theorem made0 (w : World) : (Instr.buildSlice 34 0 #[]).run Try.prog w = .ok (.slice (some ⟨w.heap.size, 0, none⟩) 0 0) (w.alloc (.cells #[] 81)) := by
  go_simp
theorem wp_made0 {o : Oper} {a : Act} {w : World} {K : Act → World → Prop} {Q : Exit → Act → World → Prop} (ho : o.op = .buildSlice 34 0 #[])
    (h : K (a.put o.dst (.slice (some ⟨w.heap.size, 0, none⟩) 0 0)) (w.alloc (.cells #[] 81))) : o.wp Try.prog a w K Q := by
  unfold Oper.wp execOp
  simp only [ho, List.map_toArray, List.map_nil, made0, Sem.run_bind, Result.andThen_ok]
  exact h
theorem own_made0 (w : World) (base : Nat) (hb : base ≤ w.heap.size) : (w.alloc (.cells #[] 81)).ownsRow base 81 3 (.slice (some ⟨w.heap.size, 0, none⟩) 0 0) 0 ([].flatMap Ch.cells) :=
  World.ownsRow_made (base := base) (e := 81) (size := 3) w #[] 0 hb (Nat.zero_le _) rfl
theorem zero_err (w : World) : (zeroValue 31).run Try.prog w = .ok (.int .i64 0) w := by kernel_rfl
theorem wp_alloc_err {o : Oper} {a : Act} {w : World} {K : Act → World → Prop} {Q : Exit → Act → World → Prop} (ho : o.op = .alloc 31)
    (h : K (a.put o.dst (.pointer (some ⟨w.heap.size, 0, none⟩))) (w.alloc (.cells #[.int .i64 0] 31))) : o.wp Try.prog a w K Q := by
  unfold Oper.wp execOp
  simp only [ho, Instr.alloc, Sem.run_bind, zero_err, Result.andThen_ok, newVar, newRow, newObj, Sem.run_pure, Value.cells]
  exact h
theorem wp_store_err {o : Oper} {a : Act} {w : World} {K : Act → World → Prop} {Q : Exit → Act → World → Prop} (x y : Operand) (ho : o.op = .store 31 x y) (b : Nat) (v : Int) {u : Value}
    (hx : a.eval x = .pointer (some ⟨b, 0, none⟩)) (hy : a.eval y = .int .i64 v) (hc : w.cell? ⟨b, 0, none⟩ = some u) (hf : w.frozen? ⟨b, 0, none⟩ = false) {w9 : World} (hw : w.setCells b 0 [.int .i64 v] = w9)
    (h : K (a.put o.dst undef) w9) : o.wp Try.prog a w K Q := by
  have hw2 : w.setCell ⟨b, 0, none⟩ (.int .i64 v) = w9 := hw
  unfold Oper.wp execOp
  simp only [ho, hx, hy]
  go_simp
  exact h
end Go.Proofs.Ytkdmlffnkomdhaa
