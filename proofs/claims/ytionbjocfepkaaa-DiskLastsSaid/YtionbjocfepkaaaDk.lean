/-
  A DISK BEHIND a write; alter of a disk that lies in memory; Write.
-/
import Derived.Test.YtionbjocfepkaaaDj
namespace Go.Proofs.Ytionbjocfepkaaa
set_option linter.unusedVariables false
open Go.RowKit Go.WideShapes Go.ChangeShapes

theorem room_own {v : Value} {b : Nat} (h : roomBlk v = some b) : v.ownBlock = some b := by
  unfold roomBlk at h
  split at h
  · split at h
    · injection h with h
      subst h
      rfl
    · cases h
  · cases h
theorem wv_own {w : World} {S : Nat → Prop} {v : Value} {l : List (List UInt8)} (h : Wv w S v l) {b : Nat} (hb : v.ownBlock = some b) : S b ∧ ∃ cur, w.heap[b]? = some (.cells cur 37 (0, 0)) := by
  rcases h with ⟨_, rfl⟩ | ⟨b', o, c, cur, h1, rfl, h3, h4, h5, h6, h7, h8⟩
  · cases hb
  · have : b' = b := by simpa [Value.ownBlock] using hb
    subst this
    exact ⟨h3, cur, h7⟩
theorem Wv.keep1 {w w' : World} {S S' : Nat → Prop} {v : Value} {l : List (List UInt8)} (h : Wv w S v l) (hk : ∀ b, v.ownBlock = some b → w'.heap[b]? = w.heap[b]?) (hs : ∀ b, S b → S' b) : Wv w' S' v l := by
  rcases h with h | ⟨b, o, c, cur, h1, rfl, h3, h4, h5, h6, h7, h8⟩
  · exact .inl h
  · exact .inr ⟨b, o, c, cur, h1, rfl, hs b h3, h4, h5, rangeAt_keep h6 (hk b rfl), (hk b rfl).trans h7, h8⟩

theorem write1_dk {w w' : World} {g : Nat} {S : Nat → Prop} {M : Mo} {ga : Nat} {O : Value} {W : Nat → Value} (h : DkAt w g S M ga O W) (n : Nat) (hn : n < M.safe.length) (x : List UInt8) (hx : x.length = 64) (hw : Wr1 w g S M ga O W n x w') :
    Stepped w g S { M with wt := M.wt ++ [(n, x)] } w' := by
  obtain ⟨w1, b, c, w2, w4, b2, c2, w5, nw1, hap, nw4, hg5, hown, hat, rfl⟩ := hw
  obtain ⟨v', hv'⟩ : ∃ v', v' = Value.slice (some ⟨b, 0, none⟩) ((waitsOf M.wt n).length + 1) c := ⟨_, rfl⟩
  obtain ⟨O', hO'⟩ : ∃ O', O' = Value.slice (some ⟨b2, 0, none⟩) (M.wt.length + 1) c2 := ⟨_, rfl⟩
  rw [← hv'] at hap nw4
  rw [← hO'] at hown ⊢
  have s1 := nw1.size
  have s2 := hap.grown.size
  have s4 := nw4.size
  have s5 := hg5.size
  have s3 : (w2.setCell ⟨ga, n * 65 + 64, none⟩ v').heap.size = w2.heap.size := by simp [World.setCell]
  have s6 : (w5.setCell ⟨g, 1, none⟩ O').heap.size = w5.heap.size := by simp [World.setCell]
  have s1' : (w1.alloc (.cells (bvs x).toArray 37)).heap.size = w1.heap.size + 1 := by simp
  have s4' : (w4.alloc (.cells #[.int .i64 (n : Int)] 3)).heap.size = w4.heap.size + 1 := by simp
  have rS : ∀ b, roomBlk (W n) = some b → S b := fun b hb => (roomBlk_S (h.wv n hn) hb).1
  have oS := h.ordS
  -- what stays of each block
  have k2 : ∀ k, k < w.heap.size → roomBlk (W n) ≠ some k → w2.heap[k]? = w.heap[k]? := fun k hk hr => (hap.grown.block k (by omega) (fun e => hr e.symm)).trans ((Below.heap_alloc w1 _ k (by omega)).trans (by rw [nw1.1]))
  have k4 : ∀ k, k ≠ ga → w4.heap[k]? = w2.heap[k]? := fun k hg => by rw [nw4.1]; exact Below.heap_setCell w2 _ _ k hg
  have k5 : ∀ k, k < w4.heap.size → O.ownBlock ≠ some k → w5.heap[k]? = w4.heap[k]? := fun k hk ho => (hg5.block k (by omega) (fun e => ho e.symm)).trans (Below.heap_alloc w4 _ k hk)
  have k6 : ∀ k, k ≠ g → (w5.setCell ⟨g, 1, none⟩ O').heap[k]? = w5.heap[k]? := fun k hk => Below.heap_setCell w5 _ _ k hk
  have kall : ∀ k, k < w.heap.size → roomBlk (W n) ≠ some k → k ≠ ga → O.ownBlock ≠ some k → k ≠ g → (w5.setCell ⟨g, 1, none⟩ O').heap[k]? = w.heap[k]? := fun k hk h1 h2 h3 h4 =>
    (k6 k h4).trans ((k5 k (by omega) h3).trans ((k4 k h2).trans (k2 k hk h1)))
  have hga := h.lt ga h.sga
  have hg := h.db.lt
  obtain ⟨cga, hcga⟩ := rowIs_blk h.sec
  have rga : roomBlk (W n) ≠ some ga := fun e => by
    obtain ⟨cur, hc⟩ := (roomBlk_S (h.wv n hn) e).2
    exact ty_ne hc hcga (by decide) rfl
  have rg : roomBlk (W n) ≠ some g := fun e => by
    obtain ⟨cur, hc⟩ := (roomBlk_S (h.wv n hn) e).2
    exact ty_ne hc h.db (by decide) rfl
  have oga : O.ownBlock ≠ some ga := fun e => by
    obtain ⟨cur', hg'⟩ := ord_blk h.ord e
    exact ty_ne hg' hcga (by decide) rfl
  have og : O.ownBlock ≠ some g := fun e => by
    obtain ⟨cur', hg'⟩ := ord_blk h.ord e
    exact ty_ne hg' h.db (by decide) rfl
  have ng := h.ga_ne
  have hb2g : b2 ≠ g := by
    rcases hat with e | e
    · exact fun e' => og (e' ▸ e)
    · omega
  obtain ⟨b', hb', hblt, hbor⟩ := hap.at_
  have hbb : b' = b := by rw [hv'] at hb'; simpa [Value.ownBlock] using hb'.symm
  subst hbb
  have hMv : Mv S w (w5.setCell ⟨g, 1, none⟩ O') := by
    refine ((((((nw1.mv S).alloc _).trans (Mv.of_grown hap.grown fun k e => .inl (rS k e))).set_ (p := ⟨ga, n * 65 + 64, none⟩) (.inl h.sga) v').trans (nw4.mv S)).alloc _).trans (Mv.of_grown hg5 fun k e => .inl (oS k e)) |>.set_ (p := ⟨g, 1, none⟩) (.inl h.sg) O'
  refine ⟨fun k => S k ∨ (w.heap.size ≤ k ∧ k < w5.heap.size), ⟨ga, O', fun i => if i = n then v' else W i, ?_⟩, hMv, fun k hk => hk.imp id fun h => h.1⟩
  refine ⟨?_, .inl h.sg, .inl h.sga, fun k hk => ?_, ?_, fun i hi => ?_, fun i j bb hi hj hij hr => ?_, ?_, fun k hk => ?_, ?_⟩
  · exact (h.db.keep ((k5 g (by omega) og).trans ((k4 g (Ne.symm ng)).trans (k2 g hg rg)))).set1 O'
  · rw [s6]
    rcases hk with hk | hk
    · have := h.lt k hk; omega
    · exact hk.2
  · have e1 : w2.rowIs ga 80 (65 * M.safe.length) (cellS M.safe W) := h.sec.of_block (k2 ga hga rga)
    have e2 := e1.set (n * 65 + 64) v'
    refine World.rowIs.of_block (w := w2.setCell ⟨ga, n * 65 + 64, none⟩ v') (e2.congr fun j hj => ?_) ((k6 ga ng).trans ((k5 ga (by omega) oga).trans (by rw [nw4.1])))
    unfold cellS
    by_cases hj64 : j % 65 < 64
    · rw [if_neg (by omega), if_pos hj64, if_pos hj64]
    · simp only [if_neg hj64]
      show (if j = n * 65 + 64 then v' else W (j / 65)) = if j / 65 = n then v' else W (j / 65)
      by_cases hjn : j = n * 65 + 64
      · rw [if_pos hjn, if_pos (by omega)]
      · rw [if_neg hjn, if_neg (by omega)]
  · by_cases hin : i = n
    · subst hin
      rw [if_pos rfl]
      show Wv _ _ _ (waitsOf (M.wt ++ [(i, x)]) i)
      rw [waitsOf_snoc_same]
      have := hap.wv (fun k => S k ∨ (w.heap.size ≤ k ∧ k < w5.heap.size)) (fun k hk => .inl hk) (fun k h1 h2 => .inr ⟨by omega, by omega⟩)
      refine this.keep1 (fun k hk => ?_) fun _ hs => hs
      have hkb : k = b' := by rw [hb'] at hk; injection hk with hk; exact hk.symm
      subst hkb
      have hcb := (wv_own this hb').2
      obtain ⟨cur, hcb⟩ := hcb
      have e1 : w2.rowIs ga 80 (65 * M.safe.length) (cellS M.safe W) := h.sec.of_block (k2 ga hga rga)
      obtain ⟨cga', hcga'⟩ := rowIs_blk e1
      have n1 : k ≠ ga := ty_ne hcb hcga' (by decide)
      have n2 : k ≠ g := ty_ne hcb (h.db.keep (k2 g hg rg)) (by decide)
      have n3 : O.ownBlock ≠ some k := fun e => by
        obtain ⟨cur', hg'⟩ := ord_blk h.ord e
        have hkl := h.lt k (oS k e)
        rcases hbor with hb | ⟨hb, _⟩
        · obtain ⟨cur2, hc2⟩ := (roomBlk_S (h.wv i hn) hb).2
          exact ty_ne hc2 hg' (by decide) rfl
        · omega
      exact (k6 k n2).trans ((k5 k (by omega) n3).trans (k4 k n1))
    · rw [if_neg hin]
      show Wv _ _ _ (waitsOf (M.wt ++ [(n, x)]) i)
      rw [waitsOf_snoc_other (Ne.symm hin)]
      refine (h.wv i hi).keep1 (fun k hk => ?_) fun _ hs => .inl hs
      obtain ⟨hSk, cur, hcur⟩ := wv_own (h.wv i hi) hk
      refine kall k (h.lt k hSk) (fun e => h.sep n i k hn hi (Ne.symm hin) e hk) (ty_ne hcur hcga (by decide)) (fun e => ?_) (ty_ne hcur h.db (by decide))
      obtain ⟨cur', hg'⟩ := ord_blk h.ord e
      exact ty_ne hcur hg' (by decide) rfl
  · have hv'o : v'.ownBlock = some b' := hb'
    by_cases hin : i = n
    · subst hin
      rw [if_pos rfl] at hr
      have hjn : ¬ j = i := fun e => hij e.symm
      rw [if_neg hjn]
      have e1 := room_own hr
      rw [hv'o] at e1
      injection e1 with e1
      subst e1
      rcases hbor with hb | ⟨hb, _⟩
      · exact h.sep i j b' hi hj hij hb
      · intro e
        have := h.lt b' (wv_own (h.wv j hj) e).1
        omega
    · rw [if_neg hin] at hr
      by_cases hjn : j = n
      · subst hjn
        rw [if_pos rfl, hv'o]
        intro e
        injection e with e
        subst e
        rcases hbor with hb | ⟨hb, _⟩
        · exact h.sep i j b' hi hj hij hr (room_own hb)
        · have := h.lt b' (roomBlk_S (h.wv i hi) hr).1
          omega
      · rw [if_neg hjn]
        exact h.sep i j bb hi hj hij hr
  · show World.ownsRow _ 0 3 1 O' (M.wt ++ [(n, x)]).length ((M.wt ++ [(n, x)]).map fun p => Value.int .i64 (p.1 : Int))
    rw [List.length_append, List.map_append]
    refine ownsRow_keep hown fun k hk => k6 k ?_
    rw [hO'] at hk
    have : b2 = k := by simpa [Value.ownBlock] using hk
    exact this ▸ hb2g
  · rw [hO'] at hk
    have e : b2 = k := by simpa [Value.ownBlock] using hk
    subst e
    have := (hown.lt b2 (by rw [hO']; rfl)).2
    rcases hat with e | e
    · exact .inl (oS b2 e)
    · exact .inr ⟨by omega, this⟩
  · refine ⟨h.ok.pos, h.ok.max, h.ok.len, fun p hp => ?_, h.ok.fu, h.ok.fa, h.ok.ops⟩
    simp only [List.mem_append, List.mem_singleton] at hp
    rcases hp with hp | rfl
    · exact h.ok.wt p hp
    · exact ⟨hn, hx⟩

/-- Alter, of a disk that lies in memory: the closure turns what is safe and what waits. -/
theorem alter_dk {w : World} {g : Nat} {S : Nat → Prop} {M : Mo} (h : Dk w g S M) (there : Bool) (k : Nat) (caps : Array Value) (sf : List (List UInt8)) (wt' : List (Nat × List UInt8)) (hops : M.ops ≤ 4611686018427387904)
    (hk : ∀ w : World, (callFunc k caps).run Try.prog w = .ok (.enter k caps) w)
    (hdo : there = true → ∀ w1, Below w.heap.size w w1 → Dk w1 g S M → Calls Try.prog k caps w1 fun e w2 => e = .returned (.tuple #[]) ∧ Stepped w1 g S { M with safe := sf, wt := wt' } w2) :
    Calls Try.prog 40 #[rp g, .bool there, .func (.func k) #[] caps] w fun e w' => e = .returned (.int .i64 (M.alter there sf wt').2) ∧ Stepped w g S (M.alter there sf wt').1 w' := by
  obtain ⟨ga, O, W, h⟩ := h
  have hdeor : M.dead = false ∨ M.dead = true := by cases M.dead <;> simp
  rcases hdeor with hde | hde
  · cases there
    · have e1 : M.alter false sf wt' = (M, 2) := by unfold Mo.alter; rw [if_neg (by simp [hde]), if_pos rfl]
      rw [e1]
      exact (alter_no k caps (hde ▸ h.db)).mono fun e w' ⟨he, hb⟩ => ⟨he, Stepped.mk_ ⟨ga, O, W, h.keep hb.size fun b hbs => hb.block b (h.lt b hbs)⟩ (Mv.of_below hb S)⟩
    · cases hfa : dueB M.fa
      · cases hfu : dueB M.fu
        · have e1 : M.alter true sf wt' = ({ safe := sf, wt := wt', fu := passed M.fu, fa := passed M.fa, dead := false, ops := M.ops + 1 }, 0) := by
            unfold Mo.alter; rw [if_neg (by simp [hde]), if_neg (by simp), if_neg (by simp [hfa]), if_neg (by simp [hfu])]
          rw [e1]
          refine (alter_do k caps S (fun w2 => ∃ w1, Below w.heap.size w w1 ∧ Stepped w1 g S { M with safe := sf, wt := wt' } w2) (hde ▸ h.db) hfa hfu h.ok.fa h.ok.fu ⟨h.ok.ops, hops⟩ h.lt h.sg hk fun w1 hb1 => ?_).mono fun e w' ⟨he, w2, ⟨w1, hb1, hst⟩, hw⟩ => ⟨he, ?_⟩
          · refine (hdo rfl w1 hb1 ⟨ga, O, W, h.keep hb1.size fun b hbs => hb1.block b (h.lt b hbs)⟩).mono fun e w2 ⟨he, hst⟩ => ⟨he, ?_⟩
            obtain ⟨S', ⟨ga', O', W', hd⟩, hm, hg⟩ := hst
            exact ⟨hm, ⟨_, _, hde ▸ hd.db⟩, w1, hb1, S', ⟨ga', O', W', hd⟩, hm, hg⟩
          · obtain ⟨S', ⟨ga', O', W', hd⟩, hm, hg⟩ := hst
            have hmg : Mv (fun b => b = g) w2 w' := by
              rw [hw]
              exact (((Mv.refl (fun b => b = g) w2).passW (g := g) (.inl rfl) 2 M.fu).passW (g := g) (.inl rfl) 4 M.fa).set_ (p := ⟨g, 7, none⟩) (.inl rfl) _
            have hd2 := hd.turn hmg (fu := passed M.fu) (fa := passed M.fa) (dead := false) (ops := M.ops + 1) (by rw [hw]; exact ((hde ▸ hd.db).pass2.pass4).set7 _) (h.ok.fu.passed hfu) (h.ok.fa.passed hfa) (by show M.ops ≤ _; omega)
            have hbs := hb1.size
            refine ⟨S', ⟨ga', O', W', hd2⟩, ((Mv.of_below hb1 S).trans hm).then hmg fun b e => ?_, fun b hb => (hg b hb).imp id fun h => by omega⟩
            subst e
            exact .inl h.sg
        · have e1 : M.alter true sf wt' = ({ M with dead := true }, 9) := by unfold Mo.alter; rw [if_neg (by simp [hde]), if_neg (by simp), if_neg (by simp [hfa]), if_pos hfu]
          rw [e1]
          refine (alter_fuse k caps (hde ▸ h.db) hfa hfu h.ok.fa ⟨h.ok.ops, hops⟩).mono fun e w' ⟨he, w1, hb1, hw⟩ => ⟨he, ?_⟩
          have hd1 := h.keep hb1.size fun b hbs => hb1.block b (h.lt b hbs)
          have hmg : Mv (fun b => b = g) w1 w' := by
            rw [hw]
            exact (Mv.refl (fun b => b = g) w1).set_ (p := ⟨g, 6, none⟩) (.inl rfl) _
          exact Stepped.mk_ ⟨ga, O, W, hd1.turn hmg (fu := M.fu) (fa := M.fa) (dead := true) (ops := M.ops) (by rw [hw]; exact hd1.db.set6 true) h.ok.fu h.ok.fa (Int.le_refl _)⟩ ((Mv.of_below hb1 S).trans (hmg.own h.sg))
      · have e1 : M.alter true sf wt' = ({ M with fa := nope }, 8) := by unfold Mo.alter; rw [if_neg (by simp [hde]), if_neg (by simp), if_pos hfa]
        rw [e1]
        refine (alter_fault k caps (hde ▸ h.db) hfa).mono fun e w' ⟨he, w1, hb1, hw⟩ => ⟨he, ?_⟩
        have hd1 := h.keep hb1.size fun b hbs => hb1.block b (h.lt b hbs)
        have hmg : Mv (fun b => b = g) w1 w' := by
          rw [hw]
          exact ((Mv.refl (fun b => b = g) w1).set_ (p := ⟨g, 4, none⟩) (.inl rfl) _).set_ (p := ⟨g, 5, none⟩) (.inl rfl) _
        exact Stepped.mk_ ⟨ga, O, W, hd1.turn hmg (fu := M.fu) (fa := nope) (dead := M.dead) (ops := M.ops) (by rw [hw]; exact hd1.db.set45 nope) h.ok.fu FitC.nope (Int.le_refl _)⟩ ((Mv.of_below hb1 S).trans (hmg.own h.sg))
  · have e1 : M.alter there sf wt' = (M, 9) := by unfold Mo.alter; rw [if_pos hde]
    rw [e1]
    exact (alter_dead there k caps (hde ▸ h.db)).mono fun e w' ⟨he, hb⟩ => ⟨he, Stepped.mk_ ⟨ga, O, W, h.keep hb.size fun b hbs => hb.block b (h.lt b hbs)⟩ (Mv.of_below hb S)⟩

theorem enters_w1 (a b c : Value) (w : World) : (callFunc 42 #[a, b, c]).run Try.prog w = .ok (.enter 42 #[a, b, c]) w := by kernel_rfl
/-- What Write has made when it calls alter. -/
structure WrW (w : World) (d : Value) (i : Int) (l : List UInt8) (w' : World) : Prop where
  below : Below w.heap.size w w'
  size : w.heap.size + 1 + 1 < w'.heap.size
  c0 : w'.cell? ⟨w.heap.size, 0, none⟩ = some d
  c1 : w'.cell? ⟨w.heap.size + 1, 0, none⟩ = some (.int .i64 i)
  r2 : w'.rangeAt (w.heap.size + 1 + 1) 0 (bvs l)
theorem range_new (w : World) (t : TypeId) (cs : List Value) : (w.alloc (.cells cs.toArray t)).rangeAt w.heap.size 0 cs := fun j v hv => by
  rw [cell_of_row _ _ _ _ _ _ (heap_alloc_new w _), Nat.zero_add]
  simpa using hv
theorem WrW.mk_ (w : World) (p : Option Addr) (i : Int) (l : List UInt8) : WrW w (.pointer p) i l (((w.alloc (.cells #[.pointer p] 24)).alloc (.cells #[.int .i64 i] 3)).alloc (.cells (bvs l).toArray 37)) := by
  obtain ⟨hb, h0, h1⟩ := box2 w (.pointer p) (.int .i64 i) 24 3
  have e2 : ((w.alloc (.cells #[.pointer p] 24)).alloc (.cells #[.int .i64 i] 3)).heap.size = w.heap.size + 1 + 1 := by simp
  have R2 := range_new ((w.alloc (.cells #[.pointer p] 24)).alloc (.cells #[.int .i64 i] 3)) 37 (bvs l)
  rw [e2] at R2
  exact ⟨hb.alloc (by simp; omega) _, by simp, (cell_alloc_old (by simp; omega)).trans h0, (cell_alloc_old (by simp)).trans h1, R2⟩
theorem WrW.drew {w : World} {d : Value} {i : Int} {l : List UInt8} {w' : World} (h : WrW w d i l w') : WrW w d i l w'.drew := ⟨h.below.drew, h.size, h.c0, h.c1, h.r2⟩

set_option maxRecDepth 100000 in
/-- Write, whatever alter comes to. -/
theorem write_by {w : World} (p : Option Addr) (i : Int) (l : List UInt8) (b : Bool) (x : Int) (R : World → Prop)
    (hhas : ∀ w', Below w.heap.size w w' → Calls Try.prog 41 #[.pointer p, .int .i64 i] w' fun e w'' => e = .returned (.bool b) ∧ w'' = w')
    (hop : ∀ w', WrW w (.pointer p) i l w' → Calls Try.prog 40 #[.pointer p, .bool b, .func (.func 42) #[] #[rp w.heap.size, rp (w.heap.size + 1), rp (w.heap.size + 1 + 1)]] w' fun e w'' => e = .returned (.int .i64 x) ∧ R w'') :
    Calls Try.prog 20 #[.pointer p, .int .i64 i, .agg (bvs l).toArray] w fun e w' => e = .returned (.int .i64 x) ∧ R w' := by
  have hr := WrW.mk_ w p i l
  have hr' := hr.drew
  have c0 := hr.c0
  have c1 := hr.c1
  have HR := Lib.hid hr'
  have hbe := hr.below
  have HHAS := Lib.hid hhas
  have HOP := Lib.hid hop
  clear hr hr' hhas hop
  go_enter Try.func20, Try.ntmps20
  go_wp2
  refine wp_region_tail 5 (by kernel_rfl) (by kernel_rfl) ?_
  simp only [List.take_succ_cons, List.take_zero, List.drop_succ_cons, List.drop_zero]
  still_step
  still_step
  still_step
  still_call (HHAS.out _ hbe.drew)
  still_step
  refine wpStill_nil ?_
  go_wp2_with (go_at_call 40; refine (HOP.out _ HR.out).mono ?_; rintro e w2 ⟨rfl, hq⟩)
  go_ret
  exact ⟨rfl, hq⟩

theorem write_nil (i : Int) (l : List UInt8) (w : World) :
    Calls Try.prog 20 #[.pointer none, .int .i64 i, .agg (bvs l).toArray] w fun e w' => e = .returned (.int .i64 1) ∧ Below w.heap.size w w' :=
  write_by none i l (hasB 0 i) 1 (fun w' => Below w.heap.size w w') (fun w' _ => (has_nil i w').mono fun e w'' ⟨he, hw⟩ => ⟨he, hw.symm⟩) fun w' hr => (alter_nil _ _ _ w').mono fun e w'' ⟨he, hb⟩ => ⟨he, hr.below.trans (hb.mono hr.below.size)⟩

theorem write_dk {w : World} {g : Nat} {S : Nat → Prop} {M : Mo} (h : Dk w g S M) (i : Int) (l : List UInt8) (hl : l.length = 64) (hops : M.ops ≤ 4611686018427387904) (hwt : M.wt.length ≤ 1000000000) :
    Calls Try.prog 20 #[rp g, .int .i64 i, .agg (bvs l).toArray] w fun e w' => e = .returned (.int .i64 (M.write i l).2) ∧ Stepped w g S (M.write i l).1 w' := by
  refine write_by (some ⟨g, 0, none⟩) i l (hasB M.safe.length i) _ (fun w' => Stepped w g S (M.write i l).1 w') (fun w' hb => ?_) fun w' hr => ?_
  · obtain ⟨ga, O, W, h⟩ := h
    exact (has_any _ _ _ i (h.db.below hb h.db.lt).c0).mono fun e w'' ⟨he, hw⟩ => ⟨he, hw.symm⟩
  · have hd' := h.below hr.below
    have hls := h.lt
    refine (alter_dk hd' (hasB M.safe.length i) 42 _ M.safe (M.wt ++ [(i.toNat, l)]) hops (fun _ => enters_w1 _ _ _ _) fun hh w1 hb1 hd1 => ?_).mono fun e w'' ⟨he, S', hd, hm, hg⟩ => ⟨he, S', hd, (Mv.of_below hr.below S).trans hm, fun b hb => (hg b hb).imp id fun h => by have := hr.below.size; omega⟩
    have hin : 0 ≤ i ∧ i < M.safe.length := by simpa [hasB] using hh
    obtain ⟨n, hn⟩ : ∃ n : Nat, i = (n : Int) := ⟨i.toNat, by omega⟩
    subst hn
    obtain ⟨ga, O, W, hd1⟩ := hd1
    have hrs := hr.size
    exact (write1_raw hd1 n (by omega) l hl ((hb1.cell (p := ⟨w.heap.size, 0, none⟩) (by simp only; omega)).trans hr.c0) ((hb1.cell (p := ⟨w.heap.size + 1, 0, none⟩) (by simp only; omega)).trans hr.c1) (rangeAt_keep hr.r2 (hb1.block _ (by omega)))
      (fun e => by have := hls _ e; omega) (fun e => by have := hls _ e; omega) (fun e => by have := hls _ e; omega) (by have := hb1.size; omega) hwt).mono fun e w2 ⟨he, hw⟩ => ⟨he, write1_dk hd1 n (by omega) l hl hw⟩
end Go.Proofs.Ytionbjocfepkaaa
