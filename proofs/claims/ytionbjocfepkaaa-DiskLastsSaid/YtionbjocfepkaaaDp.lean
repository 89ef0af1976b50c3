/-
  CONTRACTS OF PACKAGE disk: settle, whole.
-/
import Derived.Test.YtionbjocfepkaaaDo
namespace Go.Proofs.Ytionbjocfepkaaa
set_option linter.unusedVariables false
open Go.RowKit Go.WideShapes Go.ChangeShapes

/-- After t of the writes that waited. -/
def SetRel (w : World) (S : Nat → Prop) (M : Mo) (ga : Nat) (lv : Nat → Bool) (t : Nat) (wr : World) : Prop :=
  ∃ sf Wt, sf.length = M.safe.length ∧ (∀ x ∈ sf, x.length = 64) ∧ settleL lv (M.wt.drop t) t sf = settleL lv M.wt 0 M.safe ∧ wr.rowIs ga 80 (65 * M.safe.length) (cellS sf Wt) ∧
    (∀ i, i < M.safe.length → Wk w S (Wt i) (waitsOf (M.wt.drop t) i)) ∧ Mv (fun b => b = ga) w wr
theorem SetRel.start {w : World} {g : Nat} {S : Nat → Prop} {M : Mo} {ga : Nat} {O : Value} {W : Nat → Value} (h : DkAt w g S M ga O W) (lv : Nat → Bool) : SetRel w S M ga lv 0 w :=
  ⟨M.safe, W, rfl, h.ok.len, rfl, h.sec, fun i hi => (h.wv i hi).weak, Mv.refl _ _⟩
theorem SetRel.step {w wr w2 : World} {g : Nat} {S : Nat → Prop} {M : Mo} {ga : Nat} {O : Value} {W : Nat → Value} (h : DkAt w g S M ga O W) {lv : Nat → Bool} {t s : Nat} {x : List UInt8} {sf : List (List UInt8)} {Wt : Nat → Value} {v' : Value}
    (hsl : sf.length = M.safe.length) (hsf : ∀ x ∈ sf, x.length = 64) (hset : settleL lv (M.wt.drop t) t sf = settleL lv M.wt 0 M.safe) (hwk : ∀ i, i < M.safe.length → Wk w S (Wt i) (waitsOf (M.wt.drop t) i)) (hmv : Mv (fun b => b = ga) w wr)
    (hwr : ∃ cr, wr.heap[ga]? = some (.cells cr 80 (0, 0))) (hd : M.wt.drop t = (s, x) :: M.wt.drop (t + 1)) (hs : s < M.safe.length) (hx : x.length = 64)
    (hrr : w2.rowIs ga 80 (65 * M.safe.length) (setlF (cellS sf Wt) (lv t) (s * 65) x v')) (hm : Mv (fun b => b = ga) wr.drew w2) (hk : Wk wr.drew S v' (waitsOf (M.wt.drop (t + 1)) s)) : SetRel w S M ga lv (t + 1) w2 := by
  obtain ⟨cga, hcga⟩ := rowIs_blk h.sec
  refine ⟨if lv t then sf.set s x else sf, fun i => if i = s then v' else Wt i, ?_, ?_, ?_, ?_, ?_, ?_⟩
  · split
    · simpa using hsl
    · exact hsl
  · intro y hy
    split at hy
    · rcases List.mem_or_eq_of_mem_set hy with hy | rfl
      · exact hsf y hy
      · exact hx
    · exact hsf y hy
  · rw [← hset, hd, settleL]
  · refine hrr.congr fun j hj => ?_
    unfold setlF cellS
    show _ = if j % 65 < 64 then _ else if j / 65 = s then v' else Wt (j / 65)
    by_cases h1 : j = s * 65 + 64
    · rw [if_pos h1, if_neg (by omega), if_pos (by omega)]
    · rw [if_neg h1]
      by_cases h2 : s * 65 ≤ j ∧ j < s * 65 + 64
      · have hm' : j % 65 < 64 := by omega
        have hd' : j / 65 = s := by omega
        cases hl : lv t
        · rw [if_neg (fun h => by cases h.1), if_pos hm', if_pos hm', if_neg (by decide)]
        · have e : (sf.set s x).getD s [] = x := by
            rw [List.getD_eq_getElem?_getD, List.getElem?_set_self (by omega)]
            rfl
          rw [if_pos ⟨rfl, h2⟩, if_pos hm', if_pos rfl, hd', e, show j % 65 = j - s * 65 by omega]
      · rw [if_neg (fun h => h2 h.2)]
        by_cases h3 : j % 65 < 64
        · rw [if_pos h3, if_pos h3]
          have hne : s ≠ j / 65 := by omega
          have e : (sf.set s x).getD (j / 65) [] = sf.getD (j / 65) [] := by
            rw [List.getD_eq_getElem?_getD, List.getElem?_set_ne hne, ← List.getD_eq_getElem?_getD]
          split
          · rw [e]
          · rfl
        · rw [if_neg h3, if_neg h3, if_neg (by omega)]
  · intro i hi
    by_cases his : i = s
    · subst his
      simp only [if_true]
      refine hk.keep fun b cur hb hc => ?_
      have hbs := h.lt b hb
      have hne : b ≠ ga := by
        rintro rfl
        have e2 : w2.heap[b]? = w2.heap[b]? := rfl
        obtain ⟨c2, hc2⟩ := rowIs_blk hrr
        obtain ⟨cr, hcr⟩ : ∃ cr, wr.heap[b]? = some (.cells cr 80 (0, 0)) := by
          exact hwr
        exact ty_ne hc hcr (by decide) rfl
      exact (hmv.block b hbs hne).symm
    · have := hwk i hi
      rw [hd, waitsOf_cons_other (Ne.symm his)] at this
      simpa only [if_neg his] using this
  · exact hmv.drew.trans hm
theorem SetRel.stop {w wr : World} {g : Nat} {S : Nat → Prop} {M : Mo} {ga : Nat} {O : Value} {W : Nat → Value} (h : DkAt w g S M ga O W) {lv : Nat → Bool} (hr : SetRel w S M ga lv M.wt.length wr) :
    DkAt (wr.setCell ⟨g, 1, none⟩ (.slice none 0 0)) g S { M with safe := settleL lv M.wt 0 M.safe, wt := [] } ga (.slice none 0 0) (fun _ => .slice none 0 0) ∧ Mv S w (wr.setCell ⟨g, 1, none⟩ (.slice none 0 0)) := by
  obtain ⟨sf, Wt, hsl, hsf, hset, hrow, hwk, hmv⟩ := hr
  rw [List.drop_length, settleL] at hset
  rw [← hset]
  have hng : g ≠ ga := fun e => h.ga_ne e.symm
  have hms : Mv S w wr := hmv.mono fun b e => .inl (by subst e; exact h.sga)
  have hnil : ∀ i, i < M.safe.length → Wt i = .slice none 0 0 := fun i hi => by
    rcases hwk i hi with ⟨_, h2⟩ | ⟨_, _, _, _, h1, _⟩
    · exact h2
    · exact absurd (by rw [List.drop_length]; rfl) h1
  have hsz : (wr.setCell ⟨g, 1, none⟩ (.slice none 0 0)).heap.size = wr.heap.size := by simp [World.setCell]
  have hdb := (h.db.keep (hmv.block g h.db.lt hng)).set1 (.slice none 0 0)
  rw [← hsl] at hdb
  refine ⟨⟨hdb, h.sg, h.sga, fun b hb => ?_, ?_, fun i _ => .inl ⟨rfl, rfl⟩, fun i j b _ _ _ hb => (by cases hb), World.ownsRow_nil _ _ _ _, fun b hb => (by cases hb), ?_⟩, hms.set_ (p := ⟨g, 1, none⟩) (.inl h.sg) _⟩
  · rw [hsz]; exact Nat.lt_of_lt_of_le (h.lt b hb) hmv.size
  · show World.rowIs _ ga 80 (65 * sf.length) _
    rw [hsl]
    refine World.rowIs.congr (f := cellS sf Wt) (hrow.setOther (a := ⟨g, 1, none⟩) (fun e => hng e.symm) _) fun j hj => ?_
    unfold cellS
    split
    · rfl
    · exact hnil _ (by omega)
  · exact ⟨by show 1 ≤ sf.length; rw [hsl]; exact h.ok.pos, by show sf.length ≤ 2048; rw [hsl]; exact h.ok.max, hsf, fun p hp => (by cases hp), h.ok.fu, h.ok.fa, h.ok.ops⟩

/-- At a label of settle. -/
def SetJ (g k : Nat) (caps : Array Value) (w : World) (S : Nat → Prop) (M : Mo) (ga : Nat) (lv : Nat → Bool) (l : Nat) (a : Act) (wr : World) : Prop :=
  ∃ (t : Nat) (u5 u6 u7 u8 u9 u10 u11 u12 u13 u14 u15 u16 u17 u18 u19 u20 u21 u22 u23 u24 u25 u26 u27 u28 u29 : Value), a = { tmps := #[rp g, .func (.func k) #[] caps, undef, undef, .int .i64 (t : Int), u5, u6, u7, u8, u9, u10, u11, u12, u13, u14, u15, u16, u17, u18, u19, u20, u21, u22, u23, u24, u25, u26, u27, u28, u29, undef, undef, undef], defers := [] } ∧ t ≤ M.wt.length ∧ Hid (SetRel w S M ga lv t wr) ∧ (l = 1 ∨ (l = 0 ∧ t = M.wt.length))
def SetM (M : Mo) (l : Nat) (a : Act) (w : World) : Nat := if l = 0 then 0 else 1 + (M.wt.length - (intOf (a.tmps.getD 4 undef)).toNat)

set_option maxRecDepth 100000 in
set_option maxHeartbeats 4000000 in
theorem settle_raw {w : World} {g : Nat} {S : Nat → Prop} {M : Mo} {ga : Nat} {O : Value} {W : Nat → Value} (h : DkAt w g S M ga O W) (k : Nat) (caps : Array Value) (lv : Nat → Bool) (hwt : M.wt.length ≤ 1000000000)
    (hk : ∀ (z : Value) (w : World), (callFunc k (#[z] ++ caps)).run Try.prog w = .ok (.enter k (#[z] ++ caps)) w)
    (hcl : ∀ (i : Nat) (w' : World), i < M.wt.length → Mv S w w' → Calls Try.prog k (#[.int .i64 (i : Int)] ++ caps) w' fun e w'' => e = .returned (.bool (lv i)) ∧ w'' = w') :
    Calls Try.prog 37 #[rp g, .func (.func k) #[] caps] w fun e w' => e = .returned (.tuple #[]) ∧ ∃ wr, SetRel w S M ga lv M.wt.length wr ∧ w' = wr.setCell ⟨g, 1, none⟩ (.slice none 0 0) := by
  have HH := Lib.hid h
  have HCL := Lib.hid hcl
  have hrel0 := Lib.hid (SetRel.start h lv)
  clear h hcl
  go_enter Try.func37, Try.ntmps37
  go_wp2
  refine wp_scope_labels (SetJ g k caps w S M ga lv) (SetM M) ?first ?pass
  case first =>
    go_wp2
    go_step3
    obtain ⟨t, ht⟩ : ∃ t : Nat, (0 : Int) = (t : Int) := ⟨0, rfl⟩
    have hrel : Hid (SetRel w S M ga lv t w) := by
      have : t = 0 := by omega
      subst this; exact hrel0
    have htl : t ≤ M.wt.length := by omega
    rw [ht]
    clear ht
    by_cases hlt : t < M.wt.length
    · obtain ⟨s, x, hsx⟩ : ∃ s x, M.wt[t]? = some (s, x) := ⟨_, _, List.getElem?_eq_getElem hlt⟩
      have hmem : (s, x) ∈ M.wt := List.mem_of_getElem? hsx
      obtain ⟨hs, hx⟩ := HH.out.ok.wt _ hmem
      simp only at hs hx
      have hmx := HH.out.ok.max
      obtain ⟨sf, Wt, hsl, hsf, hset, hrow, hwk, hmv⟩ := hrel.out
      have hng : g ≠ ga := fun e => HH.out.ga_ne e.symm
      have c0 := cell_of_blk (hmv.block g HH.out.db.lt hng) HH.out.db.c0
      have c1 := cell_of_blk (hmv.block g HH.out.db.lt hng) HH.out.db.c1
      obtain ⟨bo, capo, hO, hbo⟩ : ∃ bo capo, O = .slice (some ⟨bo, 0, none⟩) M.wt.length capo ∧ w.cell? ⟨bo, t, none⟩ = some (.int .i64 (s : Int)) := by
        rcases HH.out.ord.2 with ⟨_, h2⟩ | ⟨b, capo, cur, h3, _, hg', _⟩
        · omega
        · refine ⟨b, capo, h3, ?_⟩
          have hb : O.ownBlock = some b := by rw [h3]; rfl
          obtain ⟨cga, hcga⟩ := rowIs_blk HH.out.sec
          have hc := HH.out.ord.cells hb t _ (by rw [List.getElem?_map, hsx]; rfl)
          rw [addr_add, Nat.zero_add] at hc
          exact cell_of_blk (hmv.block b (HH.out.lt b (HH.out.ordS b hb)) (ty_ne hg' hcga (by decide))) hc
      rw [hO] at c1
      have hsi0 : (0 : Int) ≤ (s : Int) := Int.natCast_nonneg _
      have hsi1 : (s : Int) < (M.safe.length : Int) := by omega
      have hti0 : (0 : Int) ≤ (t : Int) := Int.natCast_nonneg _
      have hti1 : (t : Int) < (M.wt.length : Int) := by omega
      have heq : ((t : Int) == (M.wt.length : Int)) = false := by simp; omega
      have hdrop : M.wt.drop t = (s, x) :: M.wt.drop (t + 1) := by
        rw [List.drop_eq_getElem_cons hlt]
        congr 1
        rw [List.getElem?_eq_getElem hlt] at hsx
        exact Option.some.inj hsx
      have hw0 := hwk s hs
      rw [hdrop, waitsOf_cons_same] at hw0
      have HW0 := Lib.hid (hw0.keep (w' := w) fun b cur hb hc => hmv.block b (HH.out.lt b hb) (by obtain ⟨cga, hcga⟩ := rowIs_blk HH.out.sec; exact ty_ne hc hcga (by decide)))
      have HXL : Hid (∀ y ∈ x :: waitsOf (M.wt.drop (t + 1)) s, y.length = 64) := Lib.hid fun y hy => by
        simp only [List.mem_cons] at hy
        rcases hy with rfl | hy
        · exact hx
        · obtain ⟨p, hp, rfl⟩ := waitsOf_mem hy
          exact (HH.out.ok.wt p (List.mem_of_mem_drop hp)).2
      have hqq : s * 65 + 64 < 65 * M.safe.length := by omega
      have hWs : cellS sf Wt (s * 65 + 64) = Wt s := by
        unfold cellS
        rw [if_neg (by omega), show (s * 65 + 64) / 65 = s by omega]
      have HWS := Lib.hid hWs
      have HSL := Lib.hid hsl
      have HSF := Lib.hid hsf
      have HSET := Lib.hid hset
      have HWK := Lib.hid hwk
      have HX := Lib.hid hx
      have HROW := Lib.hid hrow
      have HD := Lib.hid hdrop
      have HSX := Lib.hid hsx
      have HMV := Lib.hid hmv
      have HCL1 := Lib.hid (HCL.out t w.drew hlt (((hmv.mono fun b e => .inl (by subst e; exact HH.out.sga)) : Mv S w w).drew))
      clear hsl hsf hset hrow hwk hmv hdrop hw0 hWs hsx hx hmem hO
      go_wp2
      refine wp_region_tail 15 (by kernel_rfl) (by kernel_rfl) ?_
      simp only [List.take_succ_cons, List.take_zero, List.drop_succ_cons, List.drop_zero]
      still_step
      still_step
      still_step
      still_step
      still_step
      still_step
      still_step
      still_step
      still_step
      still_step
      still_step
      still_step
      still_step
      still_step
      still_call HCL1.out
      refine wpStill_nil ?_
      go_wp2_with (go_at_call 55; refine (settle1_any (w := w.drew) (S := S) (ga := ga) (q := s * 65) (N := 65 * M.safe.length) (f := cellS sf Wt) (x := x) (r := waitsOf (M.wt.drop (t + 1)) s) (v := Wt s) (lv t) HXL.out HROW.out hqq HW0.out HWS.out).mono ?_; rintro e w2 ⟨rfl, v', hrr, hm, hwk'⟩)
      try go_step3
      show SetJ g k caps w S M ga lv 1 _ _
      exact ⟨t + 1, _, _, _, _, _, _, _, _, _, _, _, _, _, _, _, _, _, _, _, _, _, _, _, _, _, by go_num, by omega, Lib.hid (SetRel.step HH.out HSL.out HSF.out HSET.out HWK.out HMV.out (rowIs_blk HROW.out) HD.out hs HX.out hrr hm hwk'), .inl rfl⟩
    · have htl : t = M.wt.length := by omega
      have hrel' := hrel
      rw [htl] at hrel'
      obtain ⟨sf, Wt, hsl, hsf, hset, hrow, hwk, hmv⟩ := hrel.out
      have hng : g ≠ ga := fun e => HH.out.ga_ne e.symm
      have c1 := cell_of_blk (hmv.block g HH.out.db.lt hng) HH.out.db.c1
      obtain ⟨A, capo, hO⟩ : ∃ A capo, O = .slice A M.wt.length capo := by
        rcases HH.out.ord.2 with ⟨h1, h2⟩ | ⟨b, capo, cur, h3, _, hg', _⟩
        · exact ⟨none, 0, by rw [h1, h2]⟩
        · exact ⟨_, capo, h3⟩
      rw [hO] at c1
      have heq : ((t : Int) == (M.wt.length : Int)) = true := by simp; omega
      have HTL := Lib.hid htl
      clear hsl hsf hset hrow hwk hmv hO htl
      go_wp2
      try go_step3
      show SetJ g k caps w S M ga lv 0 _ _
      exact ⟨t, _, _, _, _, _, _, _, _, _, _, _, _, _, _, _, _, _, _, _, _, _, _, _, _, _, rfl, by omega, hrel, .inr ⟨rfl, HTL.out⟩⟩
  case pass =>
    rintro l a wr ⟨t, u5, u6, u7, u8, u9, u10, u11, u12, u13, u14, u15, u16, u17, u18, u19, u20, u21, u22, u23, u24, u25, u26, u27, u28, u29, rfl, htl, hrel, hl⟩
    rcases hl with rfl | ⟨rfl, hend⟩
    · refine ⟨_, rfl, ?_⟩
      obtain ⟨wo, hwo⟩ : ∃ wo : World, wo = wr := ⟨wr, rfl⟩
      clear hwo wo
      by_cases hlt : t < M.wt.length
      · obtain ⟨s, x, hsx⟩ : ∃ s x, M.wt[t]? = some (s, x) := ⟨_, _, List.getElem?_eq_getElem hlt⟩
        have hmem : (s, x) ∈ M.wt := List.mem_of_getElem? hsx
        obtain ⟨hs, hx⟩ := HH.out.ok.wt _ hmem
        simp only at hs hx
        have hmx := HH.out.ok.max
        obtain ⟨sf, Wt, hsl, hsf, hset, hrow, hwk, hmv⟩ := hrel.out
        have hng : g ≠ ga := fun e => HH.out.ga_ne e.symm
        have c0 := cell_of_blk (hmv.block g HH.out.db.lt hng) HH.out.db.c0
        have c1 := cell_of_blk (hmv.block g HH.out.db.lt hng) HH.out.db.c1
        obtain ⟨bo, capo, hO, hbo⟩ : ∃ bo capo, O = .slice (some ⟨bo, 0, none⟩) M.wt.length capo ∧ wr.cell? ⟨bo, t, none⟩ = some (.int .i64 (s : Int)) := by
          rcases HH.out.ord.2 with ⟨_, h2⟩ | ⟨b, capo, cur, h3, _, hg', _⟩
          · omega
          · refine ⟨b, capo, h3, ?_⟩
            have hb : O.ownBlock = some b := by rw [h3]; rfl
            obtain ⟨cga, hcga⟩ := rowIs_blk HH.out.sec
            have hc := HH.out.ord.cells hb t _ (by rw [List.getElem?_map, hsx]; rfl)
            rw [addr_add, Nat.zero_add] at hc
            exact cell_of_blk (hmv.block b (HH.out.lt b (HH.out.ordS b hb)) (ty_ne hg' hcga (by decide))) hc
        rw [hO] at c1
        have hsi0 : (0 : Int) ≤ (s : Int) := Int.natCast_nonneg _
        have hsi1 : (s : Int) < (M.safe.length : Int) := by omega
        have hti0 : (0 : Int) ≤ (t : Int) := Int.natCast_nonneg _
        have hti1 : (t : Int) < (M.wt.length : Int) := by omega
        have heq : ((t : Int) == (M.wt.length : Int)) = false := by simp; omega
        have hdrop : M.wt.drop t = (s, x) :: M.wt.drop (t + 1) := by
          rw [List.drop_eq_getElem_cons hlt]
          congr 1
          rw [List.getElem?_eq_getElem hlt] at hsx
          exact Option.some.inj hsx
        have hw0 := hwk s hs
        rw [hdrop, waitsOf_cons_same] at hw0
        have HW0 := Lib.hid (hw0.keep (w' := wr) fun b cur hb hc => hmv.block b (HH.out.lt b hb) (by obtain ⟨cga, hcga⟩ := rowIs_blk HH.out.sec; exact ty_ne hc hcga (by decide)))
        have HXL : Hid (∀ y ∈ x :: waitsOf (M.wt.drop (t + 1)) s, y.length = 64) := Lib.hid fun y hy => by
          simp only [List.mem_cons] at hy
          rcases hy with rfl | hy
          · exact hx
          · obtain ⟨p, hp, rfl⟩ := waitsOf_mem hy
            exact (HH.out.ok.wt p (List.mem_of_mem_drop hp)).2
        have hqq : s * 65 + 64 < 65 * M.safe.length := by omega
        have hWs : cellS sf Wt (s * 65 + 64) = Wt s := by
          unfold cellS
          rw [if_neg (by omega), show (s * 65 + 64) / 65 = s by omega]
        have HWS := Lib.hid hWs
        have HSL := Lib.hid hsl
        have HSF := Lib.hid hsf
        have HSET := Lib.hid hset
        have HWK := Lib.hid hwk
        have HX := Lib.hid hx
        have HROW := Lib.hid hrow
        have HD := Lib.hid hdrop
        have HSX := Lib.hid hsx
        have HMV := Lib.hid hmv
        have HCL1 := Lib.hid (HCL.out t wr.drew hlt (((hmv.mono fun b e => .inl (by subst e; exact HH.out.sga)) : Mv S w wr).drew))
        clear hsl hsf hset hrow hwk hmv hdrop hw0 hWs hsx hx hmem hO
        go_wp2
        refine wp_region_tail 15 (by kernel_rfl) (by kernel_rfl) ?_
        simp only [List.take_succ_cons, List.take_zero, List.drop_succ_cons, List.drop_zero]
        still_step
        still_step
        still_step
        still_step
        still_step
        still_step
        still_step
        still_step
        still_step
        still_step
        still_step
        still_step
        still_step
        still_step
        still_call HCL1.out
        refine wpStill_nil ?_
        go_wp2_with (go_at_call 55; refine (settle1_any (w := wr.drew) (S := S) (ga := ga) (q := s * 65) (N := 65 * M.safe.length) (f := cellS sf Wt) (x := x) (r := waitsOf (M.wt.drop (t + 1)) s) (v := Wt s) (lv t) HXL.out HROW.out hqq HW0.out HWS.out).mono ?_; rintro e w2 ⟨rfl, v', hrr, hm, hwk'⟩)
        try go_step3
        show SetJ g k caps w S M ga lv 1 _ _ ∧ _
        refine ⟨⟨t + 1, _, _, _, _, _, _, _, _, _, _, _, _, _, _, _, _, _, _, _, _, _, _, _, _, _, by go_num, by omega, Lib.hid (SetRel.step HH.out HSL.out HSF.out HSET.out HWK.out HMV.out (rowIs_blk HROW.out) HD.out hs HX.out hrr hm hwk'), .inl rfl⟩, ?_⟩
        simp [SetM, intOf]
        omega
      · have htl : t = M.wt.length := by omega
        have hrel' := hrel
        rw [htl] at hrel'
        obtain ⟨sf, Wt, hsl, hsf, hset, hrow, hwk, hmv⟩ := hrel.out
        have hng : g ≠ ga := fun e => HH.out.ga_ne e.symm
        have c1 := cell_of_blk (hmv.block g HH.out.db.lt hng) HH.out.db.c1
        obtain ⟨A, capo, hO⟩ : ∃ A capo, O = .slice A M.wt.length capo := by
          rcases HH.out.ord.2 with ⟨h1, h2⟩ | ⟨b, capo, cur, h3, _, hg', _⟩
          · exact ⟨none, 0, by rw [h1, h2]⟩
          · exact ⟨_, capo, h3⟩
        rw [hO] at c1
        have heq : ((t : Int) == (M.wt.length : Int)) = true := by simp; omega
        have HTL := Lib.hid htl
        clear hsl hsf hset hrow hwk hmv hO htl
        go_wp2
        try go_step3
        show SetJ g k caps w S M ga lv 0 _ _ ∧ _
        refine ⟨⟨t, _, _, _, _, _, _, _, _, _, _, _, _, _, _, _, _, _, _, _, _, _, _, _, _, _, rfl, by omega, hrel, .inr ⟨rfl, HTL.out⟩⟩, ?_⟩
        simp [SetM]
        omega
    · refine ⟨_, rfl, ?_⟩
      subst hend
      obtain ⟨sf, Wt, hsl, hsf, hset, hrow, hwk, hmv⟩ := hrel.out
      have hng : g ≠ ga := fun e => HH.out.ga_ne e.symm
      have c1 := cell_of_blk (hmv.block g HH.out.db.lt hng) HH.out.db.c1
      have f1 := frz_of_block (hmv.block g HH.out.db.lt hng) (HH.out.db.fz 1)
      clear hsl hsf hset hrow hwk hmv
      go_wp2
      simp only [jumps]
      go_end0
      exact ⟨rfl, wr, hrel.out, rfl⟩
end Go.Proofs.Ytionbjocfepkaaa
