/-
  A DISK's STEPS, as plain Lean; Read, Arm and Fail of a disk that lies in memory.
-/
import Derived.Test.YtionbjocfepkaaaDg
namespace Go.Proofs.Ytionbjocfepkaaa
set_option linter.unusedVariables false
open Go.RowKit Go.WideShapes Go.ChangeShapes

def nope : Bool × Int := (false, 0)
def Mo.read (M : Mo) (i : Int) : Mo × List UInt8 × Int :=
  if M.dead then (M, Zb, 9) else if hasB M.safe.length i = false then (M, Zb, 2) else if dueB M.fa then ({ M with fa := nope }, Zb, 8)
  else ({ M with fa := passed M.fa, ops := M.ops + 1 }, holdsOf M.safe M.wt i.toNat, 0)
def Mo.alter (M : Mo) (there : Bool) (safe : List (List UInt8)) (wt : List (Nat × List UInt8)) : Mo × Int :=
  if M.dead then (M, 9) else if there = false then (M, 2) else if dueB M.fa then ({ M with fa := nope }, 8) else if dueB M.fu then ({ M with dead := true }, 9)
  else ({ safe := safe, wt := wt, fu := passed M.fu, fa := passed M.fa, dead := false, ops := M.ops + 1 }, 0)
def Mo.write (M : Mo) (i : Int) (b : List UInt8) : Mo × Int := M.alter (hasB M.safe.length i) M.safe (M.wt ++ [(i.toNat, b)])
/-- The end of the waiting: the k-th one and those behind it. -/
def settleL (lives : Nat → Bool) : List (Nat × List UInt8) → Nat → List (List UInt8) → List (List UInt8)
  | [], _, safe => safe
  | p :: r, k, safe => settleL lives r (k + 1) (if lives k then safe.set p.1 p.2 else safe)
def Mo.sync (M : Mo) : Mo × Int := M.alter true (settleL (fun _ => true) M.wt 0 M.safe) []
def Mo.arm (M : Mo) (n : Int) : Mo × Int := if M.dead then (M, 9) else ({ M with fu := (decide (0 ≤ n), n) }, 0)
def Mo.fail (M : Mo) (n : Int) : Mo × Int := if M.dead then (M, 9) else ({ M with fa := (decide (0 ≤ n), n) }, 0)
def Mo.crash (M : Mo) (lives : Nat → Bool) : Mo := { safe := settleL lives M.wt 0 M.safe, wt := [], fu := nope, fa := nope, dead := false, ops := M.ops }

theorem FitC.nope : FitC nope := ⟨by decide, by decide, fun h => by cases h⟩
theorem FitC.passed {f : Bool × Int} (h : FitC f) (hd : dueB f = false) : FitC (passed f) := by
  obtain ⟨on, l⟩ := f
  obtain ⟨h1, h2, h3⟩ := h
  cases on
  · exact ⟨h1, h2, h3⟩
  · have h4 := h3 rfl
    simp only [dueB, Bool.true_and, beq_eq_false_iff_ne, ne_eq] at hd
    simp only at h1 h2 h4
    refine ⟨?_, ?_, fun _ => ?_⟩ <;> simp only [Go.Proofs.Ytionbjocfepkaaa.passed, if_true] <;> omega
theorem FitC.after (n : Int) (h : -9223372036854775808 ≤ n ∧ n ≤ 9223372036854775807) : FitC (decide (0 ≤ n), n) := ⟨h.1, h.2, fun e => by simpa using e⟩

theorem ty_ne {w : World} {b b' : Nat} {cs cs' : Array Value} {t t' : TypeId} {f f' : Nat × Nat} (h : w.heap[b]? = some (.cells cs t f)) (h' : w.heap[b']? = some (.cells cs' t' f')) (hne : t ≠ t') : b ≠ b' := by
  rintro rfl
  rw [h] at h'
  injection h' with h'
  injection h' with _ ht
  exact hne ht
theorem rowIs_blk {w : World} {b n : Nat} {t : TypeId} {f : Nat → Value} (h : w.rowIs b t n f) : ∃ cs, w.heap[b]? = some (.cells cs t (0, 0)) := by
  obtain ⟨c, h1, _⟩ := h
  exact ⟨c, h1⟩

section
variable {w w' : World} {g : Nat} {S : Nat → Prop} {M : Mo} {ga : Nat} {O : Value} {W : Nat → Value}
theorem DkAt.ga_ne (h : DkAt w g S M ga O W) : ga ≠ g := by
  obtain ⟨cs, hc⟩ := rowIs_blk h.sec
  exact ty_ne hc h.db (by decide)
theorem DkAt.wv_keep (h : DkAt w g S M ga O W) (hk : ∀ b, S b → b ≠ g → b ≠ ga → w'.heap[b]? = w.heap[b]?) {i : Nat} (hi : i < M.safe.length) : Wv w' S (W i) (waitsOf M.wt i) := by
  obtain ⟨cs, hc⟩ := rowIs_blk h.sec
  rcases h.wv i hi with h0 | ⟨b, o, c, cur, h1, h2, h3, h4, h5, h6, h7, h8⟩
  · exact .inl h0
  · have e := hk b h3 (ty_ne h7 h.db (by decide)) (ty_ne h7 hc (by decide))
    exact .inr ⟨b, o, c, cur, h1, h2, h3, h4, h5, rangeAt_keep h6 e, e.trans h7, h8⟩
theorem DkAt.ord_keep (h : DkAt w g S M ga O W) (hk : ∀ b, S b → b ≠ g → b ≠ ga → w'.heap[b]? = w.heap[b]?) : w'.ownsRow 0 3 1 O M.wt.length (M.wt.map fun p => Value.int .i64 (p.1 : Int)) := by
  obtain ⟨cs, hc⟩ := rowIs_blk h.sec
  have ho := h.ordS
  refine ⟨h.ord.1, ?_⟩
  rcases h.ord.2 with h2 | ⟨b, cap, cur, h3, hb, hg, rest⟩
  · exact .inl h2
  · exact .inr ⟨b, cap, cur, h3, hb, (hk b (ho b (by rw [h3]; rfl)) (ty_ne hg h.db (by decide)) (ty_ne hg hc (by decide))).trans hg, rest⟩
/-- The struct's own cells turn; nothing else. -/
theorem DkAt.turn (h : DkAt w g S M ga O W) (hm : Mv (fun b => b = g) w w') {fu fa : Bool × Int} {dead : Bool} {ops : Int} (hdb : Db w' g (.slice (some ⟨ga, 0, none⟩) M.safe.length M.safe.length) O fu fa dead ops) (hfu : FitC fu) (hfa : FitC fa) (hops : M.ops ≤ ops) :
    DkAt w' g S { M with fu := fu, fa := fa, dead := dead, ops := ops } ga O W :=
  ⟨hdb, h.sg, h.sga, fun b hb => Nat.lt_of_lt_of_le (h.lt b hb) hm.size, h.sec.of_block (hm.block ga (h.lt ga h.sga) h.ga_ne), fun i hi => h.wv_keep (fun b hb hn _ => hm.block b (h.lt b hb) hn) hi, h.sep,
    h.ord_keep (fun b hb hn _ => hm.block b (h.lt b hb) hn), h.ordS, ⟨h.ok.pos, h.ok.max, h.ok.len, h.ok.wt, hfu, hfa, Int.le_trans h.ok.ops hops⟩⟩
end

theorem Mv.own {S : Nat → Prop} {w w' : World} {g : Nat} (h : Mv (fun b => b = g) w w') (hs : S g) : Mv S w w' := h.mono fun b e => .inl (by subst e; exact hs)

/-- What a step gives: the disk as it is then, in blocks of its own. -/
def Stepped (w : World) (g : Nat) (S : Nat → Prop) (M : Mo) (w' : World) : Prop := ∃ S', Dk w' g S' M ∧ Mv S w w' ∧ Grow S S' w
theorem Stepped.mk_ {w : World} {g : Nat} {S : Nat → Prop} {M : Mo} {w' : World} (h : Dk w' g S M) (hm : Mv S w w') : Stepped w g S M w' := ⟨S, h, hm, Grow.refl S w⟩
theorem stepped_ext {w : World} {g : Nat} {S : Nat → Prop} {M M' : Mo} {w' : World} (h : Stepped w g S M w') (e : M = M') : Stepped w g S M' w' := e ▸ h

set_option maxHeartbeats 400000 in
theorem read_dk {w : World} {g : Nat} {S : Nat → Prop} {M : Mo} (h : Dk w g S M) (i : Int) (hops : M.ops ≤ 4611686018427387904) :
    Calls Try.prog 21 #[rp g, .int .i64 i] w fun e w' => e = .returned (.tuple #[.agg (bvs (M.read i).2.1).toArray, .int .i64 (M.read i).2.2]) ∧ Stepped w g S (M.read i).1 w' := by
  obtain ⟨ga, O, W, h⟩ := h
  have hhas : ∀ w', Below w.heap.size w w' → Calls Try.prog 41 #[rp g, .int .i64 i] w' fun e w'' => e = .returned (.bool (hasB M.safe.length i)) ∧ w'' = w' := fun w' hb =>
    (has_any _ _ _ i (h.db.below hb h.db.lt).c0).mono fun e w'' ⟨he, hw⟩ => ⟨he, hw.symm⟩
  -- the last store lies in no block of the disk's
  have fin : ∀ (x : Int) (l : List UInt8) (M' : Mo), l.length = 64 → M.read i = (M', l, x) →
      (∀ w', RdW w (rp g) i w' → Calls Try.prog 43 #[rp g, .bool (hasB M.safe.length i), .func (.func 44) #[] #[rp w.heap.size, rp (w.heap.size + 1), rp (w.heap.size + 1 + 1 + 1)]] w' fun e w'' =>
        e = .returned (.int .i64 x) ∧ w''.rangeAt (w.heap.size + 1 + 1 + 1) 0 (bvs l) ∧ w''.there (w.heap.size + 1 + 1) 0 64 ∧ (Dk w'' g S M' ∧ Mv S w w'')) →
      Calls Try.prog 21 #[rp g, .int .i64 i] w fun e w' => e = .returned (.tuple #[.agg (bvs (M.read i).2.1).toArray, .int .i64 (M.read i).2.2]) ∧ Stepped w g S (M.read i).1 w' := by
    intro x l M' hl hM hop
    rw [hM]
    refine (read_by (rp g) (fun _ e => by cases e) ⟨_, rfl⟩ i _ x l hl (fun w'' => Dk w'' g S M' ∧ Mv S w w'') hhas hop).mono fun e w' ⟨he, w2, ⟨hd, hm⟩, hw⟩ => ⟨he, ?_⟩
    subst hw
    have hm' := hm.setCells (b := w.heap.size + 1 + 1) (.inr (by omega)) 0 (bvs l)
    refine Stepped.mk_ (hd.keep (by rw [(setCells_os _ _ _ _).2.2.2.1]; exact Nat.le_refl _) fun b hb => (setCells_os _ _ _ _).2.2.2.2 b ?_) hm'
    have := h.lt b hb
    omega
  have hdeor : M.dead = false ∨ M.dead = true := by cases M.dead <;> simp
  rcases hdeor with hde | hde
  · cases hha : hasB M.safe.length i
    · refine fin 2 Zb M Zb_len (by simp [Mo.read, hde, hha]) fun w' hr => ?_
      rw [hha]
      refine (operate_no _ _ (hde ▸ h.db.below hr.below h.db.lt)).mono fun e w'' ⟨he, hb⟩ => ⟨he, ?_, ?_, ?_, ?_⟩
      · exact rangeAt_keep hr.r3 (hb.block _ hr.size)
      · exact there_below hr.t2 hb (by have := hr.size; omega)
      · exact ⟨ga, O, W, (h.keep hr.below.size fun b hb => hr.below.block b (h.lt b hb)).keep hb.size fun b hbs => hb.block b (by have := h.lt b hbs; have := hr.below.size; omega)⟩
      · exact (Mv.of_below hr.below S).trans (Mv.of_below hb S)
    · cases hdu : dueB M.fa
      · -- it is done
        have hin : 0 ≤ i ∧ i < M.safe.length := by simpa [hasB] using hha
        obtain ⟨n, hn⟩ : ∃ n : Nat, i = (n : Int) := ⟨i.toNat, by omega⟩
        subst hn
        have hnl : n < M.safe.length := by omega
        have hsl : (M.safe.getD n []).length = 64 := by rw [getD_of_lt hnl]; exact h.ok.len _ (List.getElem_mem _)
        have hwl : ∀ x ∈ waitsOf M.wt n, x.length = 64 := fun x hx => by
          obtain ⟨p, hp, rfl⟩ := waitsOf_mem hx
          exact (h.ok.wt p hp).2
        have hhl : (holdsOf M.safe M.wt n).length = 64 := by
          unfold holdsOf
          cases hla : (waitsOf M.wt n).getLast? with
          | none => exact hsl
          | some y => exact hwl y (List.mem_of_getLast? hla)
        refine fin 0 (holdsOf M.safe M.wt n) { M with fa := passed M.fa, ops := M.ops + 1 } hhl (by unfold Mo.read; rw [if_neg (by simp [hde]), if_neg (by simp [hha]), if_neg (by simp [hdu])]; rfl) fun w' hr => ?_
        rw [hha]
        have hd' := h.keep hr.below.size fun b hb => hr.below.block b (h.lt b hb)
        have hsz := hr.below.size
        have hgl := h.db.lt
        have hro : 0 ≤ M.ops := h.ok.ops
        refine (operate_do (k := 44) _ (fun b => b = w.heap.size + 1 + 1 + 1) (fun x w2 => x = 0 ∧ ∃ w1, Below w'.heap.size w' w1 ∧ w2 = w1.setCells (w.heap.size + 1 + 1 + 1) 0 (bvs (holdsOf M.safe M.wt n))) (hde ▸ hd'.db) hdu h.ok.fa ⟨by omega, hops⟩ (fun b e => by subst e; exact hr.size)
          (fun w0 => by kernel_rfl) fun w1 hb1 => ?_).mono fun e w'' ⟨x, he, w2, ⟨hx, w1, hb1, hw2⟩, hw⟩ => ?_
        · have hb1' := hb1.size
          have hd1 := hd'.keep hb1.size fun b hb => hb1.block b (hd'.lt b hb)
          have T3 := there_below hr.t3 hb1 hr.size
          refine (read1_any (w := w1) (holdsOf M.safe M.wt n) hhl ((hb1.cell (p := ⟨w.heap.size, 0, none⟩) (by simp only; have := hr.size; omega)).trans hr.c0) ((hb1.cell (p := ⟨w.heap.size + 1, 0, none⟩) (by simp only; have := hr.size; omega)).trans hr.c1) hd1.db.c0 hnl h.ok.max T3 (by have := hr.size; omega)
            (by omega) (by omega) (by omega) fun w3 hb3 => ?_).mono fun e w4 ⟨he, w5, hb5, hw5⟩ => ⟨0, he, ?_, ?_, rfl, w5, hb1.trans (hb5.mono hb1.size), hw5⟩
          · have hd3 := hd1.keep hb3.size fun b hb => hb3.block b (hd1.lt b hb)
            exact holds_any hsl (cellS_range hd3.sec hnl hsl) (cellS_waits hd3.sec hnl) (hd3.wv n hnl) hwl
          · subst hw5
            exact (Mv.of_below hb5 (fun b => b = w.heap.size + 1 + 1 + 1)).setCells (b := w.heap.size + 1 + 1 + 1) (.inl rfl) _ _
          · subst hw5
            have hd5 := hd1.db.below hb5 hd1.db.lt
            exact ⟨_, _, _, _, hd5.keep ((setCells_os _ _ _ _).2.2.2.2 g (by omega))⟩
        · subst hx
          refine ⟨he, ?_⟩
          have hw' : w'' = (passW w2 g 4 M.fa).setCell ⟨g, 7, none⟩ (.int .i64 (M.ops + 1)) := by
            rcases hw with ⟨_, hw⟩ | ⟨hw, _⟩
            · exact hw
            · exact absurd rfl hw
          subst hw2
          have hd1 := hd'.keep hb1.size fun b hb => hb1.block b (hd'.lt b hb)
          have T3 := there_below hr.t3 hb1 hr.size
          have hm2 : Mv (fun b => b = w.heap.size + 1 + 1 + 1) w1 (w1.setCells (w.heap.size + 1 + 1 + 1) 0 (bvs (holdsOf M.safe M.wt n)))   := (Mv.refl (fun b => b = w.heap.size + 1 + 1 + 1) w1).setCells (b := w.heap.size + 1 + 1 + 1) (.inl rfl) _ _
          have hd2 := hd1.keep hm2.size fun b hb => hm2.block b (hd1.lt b hb) (by have := h.lt b hb; omega)
          have hb1s := hb1.size
          have hmg : Mv (fun b => b = g) (w1.setCells (w.heap.size + 1 + 1 + 1) 0 (bvs (holdsOf M.safe M.wt n))) w'' := by
            rw [hw']
            exact ((Mv.refl (fun b => b = g) _).passW (g := g) (.inl rfl) 4 M.fa).set_ (p := ⟨g, 7, none⟩) (.inl rfl) _
          have hok := (h.ok.fa).passed hdu
          have hd4 := hd2.turn hmg (fu := M.fu) (fa := passed M.fa) (dead := M.dead) (ops := M.ops + 1) (by rw [hw']; exact (hd2.db.pass4).set7 _) h.ok.fu hok (by omega)
          refine ⟨?_, ?_, ⟨ga, O, W, hd4⟩, ((((Mv.of_below hr.below S).trans (Mv.of_below hb1 S)).then hm2 fun b e => .inr (by omega)).trans (hmg.own h.sg))⟩
          · exact rangeAt_keep (there_set hhl T3) (hmg.block _ (by rw [(setCells_os _ _ _ _).2.2.2.1]; have := hr.size; omega) (by omega))
          · have T2 := there_below hr.t2 hb1 (by have := hr.size; omega)
            have T2' := World.there_setCells T2 (w.heap.size + 1 + 1 + 1) 0 (bvs (holdsOf M.safe M.wt n))
            intro j hj
            have e := hmg.block (w.heap.size + 1 + 1) (by rw [(setCells_os _ _ _ _).2.2.2.1]; have := hr.size; omega) (by omega)
            exact ⟨by rw [World.cell?_of_block (a := ⟨w.heap.size + 1 + 1, 0 + j, none⟩) e]; exact (T2' j hj).1, by rw [World.frozen?_of_block (a := ⟨w.heap.size + 1 + 1, 0 + j, none⟩) e]; exact (T2' j hj).2⟩
      · refine fin 8 Zb { M with fa := nope } Zb_len (by unfold Mo.read; rw [if_neg (by simp [hde]), if_neg (by simp [hha]), if_pos hdu]) fun w' hr => ?_
        rw [hha]
        have hd' := h.keep hr.below.size fun b hb => hr.below.block b (h.lt b hb)
        have hsz := hr.below.size
        have hgl := h.db.lt
        refine (operate_fault _ _ (hde ▸ hd'.db) hdu).mono fun e w'' ⟨he, w1, hb, hw⟩ => ⟨he, ?_⟩
        have hd1 := hd'.keep hb.size fun b hbs => hb.block b (hd'.lt b hbs)
        have hb1s := hb.size
        have hmg : Mv (fun b => b = g) w1 w'' := by
          rw [hw]
          exact ((Mv.refl (fun b => b = g) w1).set_ (p := ⟨g, 4, none⟩) (.inl rfl) _).set_ (p := ⟨g, 5, none⟩) (.inl rfl) _
        have hd4 := hd1.turn hmg (fu := M.fu) (fa := nope) (dead := M.dead) (ops := M.ops) (by rw [hw]; exact hd1.db.set45 nope) h.ok.fu FitC.nope (Int.le_refl _)
        have hrs := hr.size
        refine ⟨?_, ?_, ⟨ga, O, W, hd4⟩, ((Mv.of_below hr.below S).trans (Mv.of_below hb S)).trans (hmg.own h.sg)⟩
        · exact rangeAt_keep (rangeAt_keep hr.r3 (hb.block _ hr.size)) (hmg.block _ (by omega) (by omega))
        · have T2 := there_below hr.t2 hb (by have := hr.size; omega)
          intro j hj
          have e := hmg.block (w.heap.size + 1 + 1) (by omega) (by omega)
          exact ⟨by rw [World.cell?_of_block (a := ⟨w.heap.size + 1 + 1, 0 + j, none⟩) e]; exact (T2 j hj).1, by rw [World.frozen?_of_block (a := ⟨w.heap.size + 1 + 1, 0 + j, none⟩) e]; exact (T2 j hj).2⟩
  · refine fin 9 Zb M Zb_len (by simp [Mo.read, hde]) fun w' hr => ?_
    refine (operate_dead _ _ _ (hde ▸ h.db.below hr.below h.db.lt)).mono fun e w'' ⟨he, hb⟩ => ⟨he, ?_, ?_, ?_, ?_⟩
    · exact rangeAt_keep hr.r3 (hb.block _ hr.size)
    · exact there_below hr.t2 hb (by have := hr.size; omega)
    · exact ⟨ga, O, W, (h.keep hr.below.size fun b hb => hr.below.block b (h.lt b hb)).keep hb.size fun b hbs => hb.block b (by have := h.lt b hbs; have := hr.below.size; omega)⟩
    · exact (Mv.of_below hr.below S).trans (Mv.of_below hb S)

theorem read_nil (i : Int) (w : World) :
    Calls Try.prog 21 #[.pointer none, .int .i64 i] w fun e w' => e = .returned (.tuple #[.agg (bvs Zb).toArray, .int .i64 1]) ∧ Below w.heap.size w w' := by
  refine (read_by (.pointer none) (fun _ e => by cases e) ⟨_, rfl⟩ i (hasB 0 i) 1 Zb Zb_len (fun w'' => Below w.heap.size w w'') (fun w' _ => (has_nil i w').mono fun e w'' ⟨he, hw⟩ => ⟨he, hw.symm⟩) fun w' hr => (operate_nil _ _ _ w').mono fun e w'' ⟨he, hb⟩ => ⟨he, rangeAt_keep hr.r3 (hb.block _ hr.size), there_below hr.t2 hb (by have := hr.size; omega), hr.below.trans (hb.mono hr.below.size)⟩).mono
    fun e w' ⟨he, w2, hb, hw⟩ => ⟨he, by subst hw; exact below_setCells hb (by omega) _ _⟩

theorem arm_dk {w : World} {g : Nat} {S : Nat → Prop} {M : Mo} (h : Dk w g S M) (n : Int) (hn : -9223372036854775808 ≤ n ∧ n ≤ 9223372036854775807) :
    Calls Try.prog 22 #[rp g, .int .i64 n] w fun e w' => e = .returned (.int .i64 (M.arm n).2) ∧ Stepped w g S (M.arm n).1 w' := by
  obtain ⟨ga, O, W, h⟩ := h
  have hdeor : M.dead = false ∨ M.dead = true := by cases M.dead <;> simp
  rcases hdeor with hde | hde
  · have e1 : M.arm n = ({ M with fu := (decide (0 ≤ n), n) }, 0) := by unfold Mo.arm; rw [if_neg (by simp [hde])]
    rw [e1]
    refine (arm_do n (hde ▸ h.db)).mono fun e w' ⟨he, w1, hb, hw⟩ => ⟨he, ?_⟩
    have hd1 := h.keep hb.size fun b hbs => hb.block b (h.lt b hbs)
    have hmg : Mv (fun b => b = g) w1 w' := by
      rw [hw]
      exact ((Mv.refl (fun b => b = g) w1).set_ (p := ⟨g, 2, none⟩) (.inl rfl) _).set_ (p := ⟨g, 3, none⟩) (.inl rfl) _
    exact Stepped.mk_ ⟨ga, O, W, hd1.turn hmg (fu := (decide (0 ≤ n), n)) (fa := M.fa) (dead := M.dead) (ops := M.ops) (by rw [hw]; exact hd1.db.set23 (decide (0 ≤ n), n)) (FitC.after n hn) h.ok.fa (Int.le_refl _)⟩ ((Mv.of_below hb S).trans (hmg.own h.sg))
  · have e1 : M.arm n = (M, 9) := by unfold Mo.arm; rw [if_pos hde]
    rw [e1]
    exact (arm_dead n (hde ▸ h.db)).mono fun e w' ⟨he, hb⟩ => ⟨he, Stepped.mk_ ⟨ga, O, W, h.keep hb.size fun b hbs => hb.block b (h.lt b hbs)⟩ (Mv.of_below hb S)⟩
theorem fail_dk {w : World} {g : Nat} {S : Nat → Prop} {M : Mo} (h : Dk w g S M) (n : Int) (hn : -9223372036854775808 ≤ n ∧ n ≤ 9223372036854775807) :
    Calls Try.prog 26 #[rp g, .int .i64 n] w fun e w' => e = .returned (.int .i64 (M.fail n).2) ∧ Stepped w g S (M.fail n).1 w' := by
  obtain ⟨ga, O, W, h⟩ := h
  have hdeor : M.dead = false ∨ M.dead = true := by cases M.dead <;> simp
  rcases hdeor with hde | hde
  · have e1 : M.fail n = ({ M with fa := (decide (0 ≤ n), n) }, 0) := by unfold Mo.fail; rw [if_neg (by simp [hde])]
    rw [e1]
    refine (fail_do n (hde ▸ h.db)).mono fun e w' ⟨he, w1, hb, hw⟩ => ⟨he, ?_⟩
    have hd1 := h.keep hb.size fun b hbs => hb.block b (h.lt b hbs)
    have hmg : Mv (fun b => b = g) w1 w' := by
      rw [hw]
      exact ((Mv.refl (fun b => b = g) w1).set_ (p := ⟨g, 4, none⟩) (.inl rfl) _).set_ (p := ⟨g, 5, none⟩) (.inl rfl) _
    exact Stepped.mk_ ⟨ga, O, W, hd1.turn hmg (fu := M.fu) (fa := (decide (0 ≤ n), n)) (dead := M.dead) (ops := M.ops) (by rw [hw]; exact hd1.db.set45 (decide (0 ≤ n), n)) h.ok.fu (FitC.after n hn) (Int.le_refl _)⟩ ((Mv.of_below hb S).trans (hmg.own h.sg))
  · have e1 : M.fail n = (M, 9) := by unfold Mo.fail; rw [if_pos hde]
    rw [e1]
    exact (fail_dead n (hde ▸ h.db)).mono fun e w' ⟨he, hb⟩ => ⟨he, Stepped.mk_ ⟨ga, O, W, h.keep hb.size fun b hbs => hb.block b (h.lt b hbs)⟩ (Mv.of_below hb S)⟩
end Go.Proofs.Ytionbjocfepkaaa
