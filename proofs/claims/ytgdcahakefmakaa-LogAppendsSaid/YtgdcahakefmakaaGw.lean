/-
  THE LAWS' OWN: entries, copied.
-/
import Derived.Test.YtgdcahakefmakaaGv
namespace Go.Proofs.Ytgdcahakefmakaa
set_option linter.unusedVariables false
set_option linter.unusedSimpArgs false
open Go.RowKit Go.WideShapes Go.ChangeShapes Go.Deep Go.Shelf
attribute [local irreducible] wpQuiet

/-- A list of one's own, each Data a row of one's own. -/
structure OwnM (w : World) (base : Nat) (A : Option Addr) (n c : Nat) (l : List En) : Prop where
  row : w.ownsRow base 44 3 (.slice A n c) n (l.flatMap En.cells)
  f : ∀ x ∈ l, OwnB w base x.D.a x.D.n x.D.c x.d
  b : ∀ x ∈ l, EnB x
theorem own_ne {w : World} {b1 b2 : Nat} {e1 e2 : TypeId} {k1 k2 m1 m2 n1 c1 n2 c2 : Nat} {A1 A2 : Option Addr} {xs ys : List Value} (h : w.ownsRow b1 e1 k1 (.slice A1 n1 c1) m1 xs) (k : w.ownsRow b2 e2 k2 (.slice A2 n2 c2) m2 ys) (he : e1 ≠ e2) :
    Value.ownBlock (.slice A1 n1 c1) = none ∨ Value.ownBlock (.slice A1 n1 c1) ≠ Value.ownBlock (.slice A2 n2 c2) := by
  rcases h.2 with ⟨e, _⟩ | ⟨g, cap, cur, e, _, hg, _⟩
  · left; rw [e]; rfl
  · right
    rcases k.2 with ⟨e', _⟩ | ⟨g', cap', cur', e', _, hg', _⟩
    · rw [e, e']; simp [Value.ownBlock]
    · rw [e, e']
      intro hh
      have : g = g' := by simpa [Value.ownBlock] using hh
      subst this
      rw [hg] at hg'
      injection hg' with hg'
      injection hg' with _ h2
      exact he h2
theorem own_below {w w' : World} {base : Nat} {e : TypeId} {k m : Nat} {v : Value} {xs : List Value} (h : w.ownsRow base e k v m xs) (hb : Below w.heap.size w w') : w'.ownsRow base e k v m xs :=
  h.kept (row := none) (only_of_below hb none) (by cases hq : v.ownBlock <;> simp)
theorem OwnM.below {w w' : World} {base n c : Nat} {A : Option Addr} {l : List En} (h : OwnM w base A n c l) (hb : Below w.heap.size w w') : OwnM w' base A n c l :=
  ⟨own_below h.row hb, fun x hx => own_below (h.f x hx) hb, h.b⟩
theorem OwnM.base_ {w : World} {base base' n c : Nat} {A : Option Addr} {l : List En} (h : OwnM w base A n c l) (hb : base' ≤ base) : OwnM w base' A n c l := ⟨own_base h.row hb, fun x hx => own_base (h.f x hx) hb, h.b⟩
theorem OwnM.sq {w : World} {base n c : Nat} {A : Option Addr} {l : List En} (h : OwnM w base A n c l) : SqE w w.heap.size A n c l :=
  ⟨own_sq h.row en_sz (by omega), fun x hx => ⟨(h.f x hx).sl, (h.b x hx).1, (h.b x hx).2.1⟩⟩
theorem OwnM.len {w : World} {base n c : Nat} {A : Option Addr} {l : List En} (h : OwnM w base A n c l) : l.length = n := h.sq.len
theorem OwnM.nil_ (w : World) (base : Nat) : OwnM w base none 0 0 [] := ⟨World.ownsRow_nil _ _ _ _, (fun x hx => by cases hx), (fun x hx => by cases hx)⟩
/-- One more. -/
theorem OwnM.snoc {w w1 w2 : World} {base n c n2 c2 : Nat} {A A2 : Option Addr} {l : List En} {x : En} (h : OwnM w base A n c l) (hb : Below w.heap.size w w1) (hB : base ≤ w.heap.size) (hd : OwnB w1 w.heap.size x.D.a x.D.n x.D.c x.d) (hx : EnB x)
    (hr : w2.ownsRow base 44 3 (.slice A2 n2 c2) n2 ((l ++ [x]).flatMap En.cells)) (hg : w1.grownBy w2 (Value.ownBlock (.slice A n c))) : OwnM w2 base A2 n2 c2 (l ++ [x]) := by
  have h1 := h.below hb
  refine ⟨hr, fun y hy => ?_, fun y hy => ?_⟩
  · rcases List.mem_append.1 hy with hy | hy
    · exact (h1.f y hy).kept hg (own_ne (h1.f y hy) h1.row (by decide))
    · simp at hy
      subst hy
      exact own_base (hd.kept hg (own_ne hd h1.row (by decide))) hB
  · rcases List.mem_append.1 hy with hy | hy
    · exact h.b y hy
    · simp at hy
      subst hy
      exact hx
/-- An entry whose Data is cut. -/
def capE (e : Ev) : Ev := ⟨e.t, e.k, e.d.take 1025⟩
def capL (m : Nat) (l : List Ev) : List Ev := (l.take m).map capE
theorem info_u8w : ∃ i0, Try.prog.info? 5 = some i0 ∧ i0.zero = some (.int .u8 0) ∧ i0.size = 1 ∧ i0.bytes = 1 := info_parts info_u8
theorem run_empty (w : World) : (Instr.buildSlice 42 0 #[]).run Try.prog w = .ok (.slice (some ⟨w.heap.size, 0, none⟩) 0 0) (w.alloc (.cells #[] 5)) := by kernel_rfl
theorem capL_succ {l : List Ev} {k : Nat} {e : Ev} (h : l[k]? = some e) : capL (k + 1) l = capL k l ++ [capE e] := by
  unfold capL
  rw [List.take_add_one, h]
  simp
theorem own_set {w : World} {base b : Nat} {e t : TypeId} {k m : Nat} {v : Value} {xs cs : List Value} (h : w.ownsRow base e k v m xs) (hb : Bl w b t cs) (ht : t ≠ e) (j : Nat) (u : Value) : (w.setCell ⟨b, j, none⟩ u).ownsRow base e k v m xs := by
  refine h.kept (row := some b) (only_set (only_refl w (some b)) rfl u) ?_
  rcases h.2 with ⟨e1, _⟩ | ⟨g, cap, cur, e1, _, hg, _⟩
  · left; rw [e1]; rfl
  · right
    rw [e1]
    intro hh
    have hgb : g = b := by simpa [Value.ownBlock] using hh
    subst hgb
    have hb' : w.heap[g]? = _ := hb
    rw [hg] at hb'
    injection hb' with hb'
    injection hb' with _ h2
    exact ht h2.symm
structure Jo (w : World) (l : List En) (m : Nat) (k : Nat) (A : Option Addr) (c : Nat) (W : World) : Prop where
  ex : ∃ l', OwnM W w.heap.size A k c l' ∧ vsE l' = capL k (vsE l)
  bel : Below w.heap.size w W
set_option maxRecDepth 100000 in
set_option maxHeartbeats 8000000 in
theorem entries_any {w : World} {A : Option Addr} {n c : Nat} {l : List En} (hs : SqE w w.heap.size A n c l) (m : Nat) (hm : m ≤ 1000) :
    Calls Try.prog 12 #[.slice A n c, .int .i64 (m : Int)] w fun e w' => (∃ A' c' l', e = .returned (.slice A' (min m n) c') ∧ OwnM w' w.heap.size A' (min m n) c' l' ∧ vsE l' = capL m (vsE l)) ∧ Below w.heap.size w w' := by
  have hlen := hs.len
  have HS := Lib.hid hs
  have HC := Lib.hid hs.s.max
  have HNL := Lib.hid hs.s.le
  have hn63 : (n : Int) ≤ 9223372036854775807 := by have := hs.s.le; unfold maxLen at this; omega
  have HN63 := Lib.hid hn63
  obtain ⟨N, hN⟩ : ∃ N, min m n = N := ⟨_, rfl⟩
  have HNN := Lib.hid hN
  rw [hN]
  clear hs hn63 hN
  go_enter Try.func12, Try.ntmps12
  go_wp2_with fail
  go_loopw [5, 10] (fun v i wr => ∃ (k : Nat) (A2 : Option Addr) (c2 : Nat), k ≤ n ∧ k ≤ m ∧ i = .int .i64 (k : Int) ∧ v = .slice A2 k c2 ∧ Hid (Jo w l m k A2 c2 wr)) (fun _ i _ => n - (intOf i).toNat)
  case atStart => exact ⟨0, none, 0, Nat.zero_le _, Nat.zero_le _, rfl, rfl, Lib.hid ⟨⟨[], OwnM.nil_ _ _, rfl⟩, Below.refl _ _⟩⟩
  case round =>
    obtain ⟨k, A2, c2, hk, hkm, rfl, rfl, hj⟩ := hrel
    have hk0 : (0 : Int) ≤ (k : Int) := Int.natCast_nonneg _
    by_cases hlt : k < n
    · have hd : decide ((k : Int) < (n : Int)) = true := by simp; omega
      have hk1 : (k : Int) < (n : Int) := by omega
      have TW := HS.out.below hj.out.bel
      obtain ⟨b, o, rfl, hbl, hrg⟩ := TW.s.at_ hlt
      have hkl : k < l.length := by omega
      have hxe := TW.e _ (List.getElem_mem hkl)
      obtain ⟨x, hx⟩ : ∃ x, l[k] = x := ⟨_, rfl⟩
      rw [hx] at hrg hxe
      have HRG := Lib.hid (show wr.rangeAt b (o + k * 3) x.cells from hrg)
      have HXE := Lib.hid hxe
      have hwB : w.heap.size ≤ wr.heap.size := hj.out.bel.size
      have HWB0 := Lib.hid hwB
      obtain ⟨wA, hwA⟩ : ∃ wA, wr.alloc (.cells zEn.cells.toArray 44) = wA := ⟨_, rfl⟩
      have YA : Bl wA wr.heap.size 44 zEn.cells := by rw [← hwA]; exact Bl.new wr 44 zEn.cells
      have BA : Below wr.heap.size wr wA := by rw [← hwA]; exact (Below.refl _ _).alloc (Nat.le_refl _) _
      obtain ⟨wB, hwB⟩ : ∃ wB, wA.setCells wr.heap.size 0 x.cells = wB := ⟨_, rfl⟩
      have YB : Bl wB wr.heap.size 44 x.cells := by rw [← hwB]; exact bl_setCells YA rfl
      have BB : Below wr.heap.size wr wB := by rw [← hwB]; exact below_setCells BA (Nat.le_refl _) _ _
      have TA := Lib.hid (show wA.there wr.heap.size 0 3 from YA.th)
      have HWA := Lib.hid hwA
      have HWB := Lib.hid hwB
      have HBB := Lib.hid BB
      have HYB := Lib.hid YB
      have hkm' : ((k : Int) == (m : Int)) = decide (k = m) := by
        by_cases h : k = m
        · rw [h]; simp
        · have : ((k : Int) == (m : Int)) = false := by simp; omega
          rw [this]; simp [h]
      have HXV := Lib.hid (show (vsE l)[k]? = some x.v by unfold vsE; rw [List.getElem?_map, List.getElem?_eq_getElem hkl, hx]; rfl)
      clear hrg hxe hx hwA YA BA hwB YB BB TW hbl hlen hkl
      go_upto_region 5 with (first
        | ((with_reducible refine lde (.tmp 13) ?_ ?_ b (o + k * 3) x ?_ HRG.out ?_); rfl; (first | rfl | (go_simp <;> fail)); (first | rfl | go_simp))
        | ((with_reducible refine alt 44 ?_ ?_ zEn.cells zero_en ?_); rfl; (first | rfl | (go_simp <;> fail)); rw [HWA.out]; (try simp only [Act.put, List.setIfInBounds_toArray, List.set_cons_succ, List.set_cons_zero]))
        | ((with_reducible refine ste (.tmp 7) (.tmp 14) ?_ ?_ wr.heap.size 0 x ?_ ?_ TA.out ?_); rfl; (first | rfl | (go_simp <;> fail)); rfl; rfl; rw [HWB.out])
        | fail)
      by_cases hkm2 : k = m
      · have hkq : decide (k = m) = true := by simpa using hkm2
        rw [hkq] at hkm'
        obtain rfl : N = k := by have := HNN.out; omega
        have J2 := Lib.hid (show Jo w l m N A2 c2 wB from ⟨hj.out.ex.imp fun l' h => ⟨h.1.below HBB.out, h.2⟩, hj.out.bel.trans (HBB.out.mono hj.out.bel.size)⟩)
        obtain ⟨l', h1, h2⟩ := J2.out.ex
        have HO := Lib.hid h1
        have H2 := Lib.hid (show vsE l' = capL m (vsE l) by rw [h2, hkm2])
        clear h1 h2 hkm2
        go_wp2_with fail
        go_ret
        exact ⟨⟨A2, c2, l', rfl, HO.out, H2.out⟩, J2.out.bel⟩
      · have hkq : decide (k = m) = false := by simpa using hkm2
        rw [hkq] at hkm'
        have hlt' := hlt
        have hxn := HXE.out.d.len
        obtain ⟨q, hq⟩ : ∃ q, min x.D.n 1025 = q := ⟨_, rfl⟩
        have hq0 : (0 : Int) ≤ (q : Int) := Int.natCast_nonneg _
        have hcap := HXE.out.d.cap
        have hq1 : (q : Int) ≤ (x.D.c : Int) := by omega
        have hmin1 : (if (1025 : Int) < (x.D.n : Int) then (1025 : Int) else (x.D.n : Int)) = (q : Int) := by split <;> omega
        have hmin2 : (if 1025 < x.D.n then (1025 : Int) else (x.D.n : Int)) = (q : Int) := by split <;> omega
        have hmin3 : min (x.D.n : Int) 1025 = (q : Int) := by omega
        obtain ⟨i0, hi0, hz0, hz1, hz2⟩ := info_u8w
        obtain ⟨wC, hwC⟩ : ∃ wC, wB.alloc (.cells #[] 5) = wC := ⟨_, rfl⟩
        have BC : Below wr.heap.size wr wC := by rw [← hwC]; exact HBB.out.alloc HBB.out.size _
        have OC : wC.ownsRow wr.heap.size 5 1 (.slice (some ⟨wB.heap.size, 0, none⟩) 0 0) 0 (bvs []) := by rw [← hwC]; exact World.ownsRow_made (base := wr.heap.size) (e := 5) (size := 1) wB #[] 0 HBB.out.size (Nat.zero_le _) rfl
        have YC : Bl wC wr.heap.size 44 x.cells := by rw [← hwC]; exact HYB.out.alloc _
        have SC : SlB wC w.heap.size x.D.a q x.D.c (x.d.take q) := ((HXE.out.d.below (BC.mono HWB0.out)).take (by omega))
        have HWC := Lib.hid hwC
        have HBC := Lib.hid BC
        have HOC := Lib.hid OC
        have HYC := Lib.hid YC
        have HSC := Lib.hid SC
        have HQ := Lib.hid hq
        have hZ : wr.heap.size < wB.heap.size := HYB.out.lt
        have HZB := Lib.hid hZ
        have hq5 : q ≤ 1025 := by omega
        have HQ5 := Lib.hid hq5
        have hwr1 : wr.heap.size ≤ wC.heap.size := BC.size
        have HWR1 := Lib.hid hwr1
        clear hwC BC OC YC SC hq hZ hcap hxn hq5 hwr1
        have re := run_empty
        have q0 := HYC.out.cell 0
        have q1 := HYC.out.cell 1
        have q2 := HYC.out.cell 2
        simp only [En.cells, List.getElem?_cons_zero, List.getElem?_cons_succ] at q0 q1 q2
        rw [← HWC.out] at q0 q1 q2
        go_upto_region 7 with (first
          | (at_builtin; rw [HWC.out]; refine wpList_append_sl rfl (.tmp 18) (.tmp 25) 42 rfl wr.heap.size 5 i0 Try.underlying42 hi0 hz0 hz1 hz2 _ 0 [] rfl HOC.out rfl HSC.out (by have := HQ5.out; omega) HWR1.out ?_; intro v5 w5 hown5 hg5; rw [Nat.zero_add, List.nil_append] at hown5; obtain ⟨A5, c5, rfl⟩ := own_shape hown5; have HOWN := Lib.hid hown5; have HG5 := Lib.hid (show wC.grownBy w5 (some wB.heap.size) from hg5); have B5 := Lib.hid (HYC.out.grown hg5 (by show some wr.heap.size ≠ some wB.heap.size; have := HZB.out; intro e; injection e; omega)); have b0 := B5.out.cell 0; have b1 := B5.out.cell 1; have b2 := B5.out.cell 2; have f2 := B5.out.frozen 2; simp only [En.cells, List.getElem?_cons_zero, List.getElem?_cons_succ] at b0 b1 b2; clear hown5 hg5 q0 q1 q2)
          | fail)
        obtain ⟨x', hx'⟩ : ∃ x' : En, x' = ⟨x.t, x.k, ⟨A5, q, c5⟩, x.d.take q⟩ := ⟨_, rfl⟩
        obtain ⟨w6, hw6⟩ : ∃ w6, w5.setCell ⟨wr.heap.size, 2, none⟩ (.slice A5 q c5) = w6 := ⟨_, rfl⟩
        have N6 : Bl w6 wr.heap.size 44 [.int .u64 (x.t : Int), .int .i64 x.k, .slice A5 q c5] := by rw [← hw6]; exact B5.out.set_ 2 (.slice A5 q c5)
        have G6 : Below wr.heap.size wr w6 := by
          rw [← hw6]
          exact (HBC.out.grown HG5.out HWR1.out (fun g hg => by
            injection hg with hg
            rw [← hg]
            exact Nat.le_of_lt HZB.out)).trans (below_cell (Nat.le_refl _) (Nat.le_of_lt B5.out.lt))
        have O6 : OwnB w6 wr.heap.size A5 q c5 (x.d.take q) := by rw [← hw6]; exact own_set HOWN.out B5.out (by decide) 2 _
        obtain ⟨w7, hw7⟩ : ∃ w7, w6.alloc (.cells #[.int .u64 (x.t : Int), .int .i64 x.k, .slice A5 q c5] 44) = w7 := ⟨_, rfl⟩
        have G7 : Below wr.heap.size wr w7 := by rw [← hw7]; exact G6.alloc G6.size _
        have O7 : OwnB w7 wr.heap.size A5 q c5 (x.d.take q) := by rw [← hw7]; exact own_below O6 ((Below.refl _ _).alloc (Nat.le_refl _) _)
        obtain ⟨l', h1, h2⟩ := hj.out.ex
        have R7 := (h1.below G7).row
        have HN7 : ∀ j u, x'.cells[j]? = some u → w7.cell? ((⟨w6.heap.size, 0, none⟩ : Addr).add j) = some u := by
          rw [← hw7, hx']
          exact World.news_of_block (heap_alloc_new w6 _)
        have HXB' := Lib.hid (show EnB x' by
          rw [hx']
          refine ⟨HXE.out.t, HXE.out.k, ?_⟩
          show (x.d.take q).length ≤ 100000
          rw [List.length_take]
          have := HQ5.out
          omega)
        have HXV' := Lib.hid (show x'.v = capE x.v by
          rw [hx']
          show Ev.mk x.t x.k (x.d.take q) = Ev.mk x.t x.k (x.d.take 1025)
          have hl := HXE.out.d.len
          have hq := HQ.out
          rcases Nat.le_total x.D.n 1025 with h | h
          · rw [List.take_of_length_le (by omega), List.take_of_length_le (by omega)]
          · rw [show q = 1025 by omega])
        have H1 := Lib.hid h1
        have H2 := Lib.hid h2
        have HN6 := Lib.hid N6
        have HG7 := Lib.hid G7
        have HO7 := Lib.hid O7
        have HR7 := Lib.hid R7
        have HNW := Lib.hid HN7
        have HW7 := Lib.hid hw7
        have HX' := Lib.hid hx'
        rw [hw6]
        have b0 := N6.cell 0
        have b1 := N6.cell 1
        have b2 := N6.cell 2
        simp only [List.getElem?_cons_zero, List.getElem?_cons_succ] at b0 b1 b2
        obtain ⟨i1, hi1, hy, hy1, hy2⟩ := info_parts info_en
        have hkk : k + 1 ≤ 1001 := by omega
        have HKK := Lib.hid hkk
        have hw8 : w.heap.size ≤ w7.heap.size := Nat.le_trans HWB0.out G7.size
        have HW8 := Lib.hid hw8
        clear hw6 N6 G6 O6 hw7 G7 O7 h1 h2 R7 HN7 hx' hmin1 hmin2 hmin3 hq0 hq1 hkk hw8
        go_wp2_with (first
          | (at_builtin; rw [HW7.out]; refine wpList_append_own w7 rfl (.tmp 28) (.tmp 30) 25 rfl w.heap.size 44 i1 _ 3 40 Try.underlying25 hi1 hy hy1 hy2 rfl (by omega) (.slice A2 k c2) k (l'.flatMap En.cells) rfl HR7.out ⟨w6.heap.size, 0, none⟩ 1 1 x'.cells rfl (by rw [en_sz]) HNW.out (fun u hu => en_one [x'] u (by simpa using hu)) (by have := HKK.out; unfold maxLen; omega) (by have := HKK.out; omega) HW8.out ?_; intro v8 w8 hown8 hg8 hni8; obtain ⟨A8, c8, rfl⟩ := own_shape hown8; have HJ8 := Lib.hid (show Jo w l m (k + 1) A8 c8 w8 from ⟨⟨l' ++ [x'], OwnM.snoc H1.out HG7.out HWB0.out (by rw [HX'.out]; exact HO7.out) HXB'.out (by rw [List.flatMap_append, List.flatMap_cons, List.flatMap_nil, List.append_nil]; exact hown8) hg8, by rw [vsE_app, H2.out, show vsE [x'] = [x'.v] from rfl, HXV'.out]; exact (capL_succ HXV.out).symm⟩, (hj.out.bel.trans (HG7.out.mono hj.out.bel.size)).grown hg8 (Nat.le_trans HWB0.out HG7.out.size) (fun g hg => (HR7.out.lt g hg).1)⟩); clear hown8 hg8 hni8)
          | fail)
        go_roundw
        case rel => exact ⟨k + 1, A8, c8, by omega, by omega, by go_num, rfl, HJ8⟩
        case measure => simp [intOf]; omega
    · have hd : decide ((k : Int) < (n : Int)) = false := by simp; omega
      obtain ⟨l', h1, h2⟩ := hj.out.ex
      have HO := Lib.hid h1
      obtain rfl : N = k := by have := HNN.out; omega
      have H2 := Lib.hid (show vsE l' = capL m (vsE l) by
        rw [h2]
        unfold capL
        rw [List.take_of_length_le (by rw [vsE_len]; omega), List.take_of_length_le (by rw [vsE_len]; omega)])
      clear h1 h2
      go_wp2_with fail
      go_ret
      exact ⟨⟨A2, c2, l', rfl, HO.out, H2.out⟩, hj.out.bel⟩
end Go.Proofs.Ytgdcahakefmakaa
