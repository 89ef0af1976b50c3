/-
  THE DOCUMENT'S ROUNDS OF A BLOCK.
  The document's own answers (confluenceref01): High, Both.
-/
import Derived.Test.YtnkhoghdfncgpaaGreatDoorK43
import Derived.Lib.SmallJoins
import Derived.Deep.RegionWith
import Derived.Deep.DeepCutAuto
namespace Go.Proofs.YtnkhoghdfncgpaaGreatDoor.S3
set_option maxRecDepth 100000
set_option linter.unusedVariables false
set_option linter.unusedSimpArgs false
open Go.RowKit Go.WideShapes Go.ChangeShapes

structure In (w wr : World) (b8 g' gk ok : Nat) (h t : W8) (ws : List UInt32) : Prop where
  l : Lies wr b8 8 (wvs t.list)
  hh : Lies wr w.heap.size 8 (wvs h.list)
  r : Lies wr (w.heap.size + 1) 8 Z8.toList
  ws : wr.rangeAt g' 0 (wvs ws)
  ks : wr.rangeAt gk ok (wvs ksW)
  bel : Below w.heap.size w wr
section
variable {w wr : World} {b8 g' gk ok : Nat} {h t t' : W8} {ws : List UInt32}
theorem In.drewN (H : In w wr b8 g' gk ok h t ws) (n : Nat) : In w (wr.drewN n) b8 g' gk ok h t ws :=
  ⟨H.l.drewN n, H.hh.drewN n, H.r.drewN n, H.ws, H.ks, below_drewN H.bel n⟩
theorem In.set_ (H : In w wr b8 g' gk ok h t ws) (h1 : w.heap.size + 1 < b8) (h2 : g' < b8) (h3 : gk < w.heap.size) : In w (wr.setCells b8 0 (wvs t'.list)) b8 g' gk ok h t' ws :=
  ⟨H.l.set_ rfl, H.hh.other (by omega) 0 _, H.r.other (by omega) 0 _, rangeAt_keep H.ws ((setCells_os b8 (wvs t'.list) 0 wr).2.2.2.2 g' (by omega)), rangeAt_keep H.ks ((setCells_os b8 (wvs t'.list) 0 wr).2.2.2.2 gk (by omega)), below_setCells H.bel (by omega) _ _⟩
end
theorem Lies.keep2 {W W' : World} {b k : Nat} {l : List Value} (h : Lies W b k l) (hk : W'.heap[b]? = W.heap[b]?) (hz : W.heap.size ≤ W'.heap.size) : Lies W' b k l :=
  ⟨rangeAt_keep h.rg hk, there_keep h.th hk, Nat.lt_of_lt_of_le h.lt hz, h.len⟩
theorem ws_at {w : World} {g : Nat} {ws : List UInt32} (h : w.rangeAt g 0 (wvs ws)) {n k : Nat} (hl : ws.length = n) (hk : k < n) : w.cell? ⟨g, 0 + k, none⟩ = some (wv (ws.getD k 0)) := by
  refine h k _ ?_
  rw [wvs_at _ (show k < ws.length by omega), List.getD_eq_getElem?_getD, List.getElem?_eq_getElem (show k < ws.length by omega)]
  rfl
theorem ks_at {w : World} {g o : Nat} (h : w.rangeAt g o (wvs ksW)) {k : Nat} (hk : k < 64) : w.cell? ⟨g, o + k, none⟩ = some (wv (ksW.getD k 0)) := by
  refine h k _ ?_
  rw [wvs_at _ (show k < ksW.length by rw [ksW_len]; exact hk), List.getD_eq_getElem?_getD, List.getElem?_eq_getElem (show k < ksW.length by rw [ksW_len]; exact hk)]
  rfl

set_option maxRecDepth 100000 in
set_option maxHeartbeats 2400000 in
theorem into_ref (h : W8) (g o c gk ok ck : Nat) (b : List UInt8) (w : World) (hs : SlB w w.heap.size (some ⟨g, o, none⟩) 64 c b) (hgw : g < w.heap.size) (hk : w.rangeAt gk ok (wvs ksW)) (hkw : gk < w.heap.size) (hck : 64 ≤ ck) (hck2 : ck ≤ 1000) :
    Calls Tryz.prog 61 #[h.val, .slice (some ⟨g, o, none⟩) 64 c, .slice (some ⟨gk, ok, none⟩) 64 ck] w fun e w' => e = .returned (blockW h b).val ∧ Below w.heap.size w w' := by
  have HS := Lib.hid hs
  have HK := Lib.hid hk
  have HKW := Lib.hid hkw
  obtain ⟨w1, hw1⟩ : ∃ w1, w1 = w.alloc (.cells #[wv h.a, wv h.b, wv h.c, wv h.d, wv h.e, wv h.f, wv h.g, wv h.h] 105) := ⟨_, rfl⟩
  have l1 : Lies w1 w.heap.size 8 (wvs h.list) := by rw [hw1]; exact new8 w h
  have z1 : w1.heap.size = w.heap.size + 1 := by rw [hw1]; simp
  obtain ⟨w2, hw2⟩ : ∃ w2, w2 = w1.alloc (.cells Z8 105) := ⟨_, rfl⟩
  have l2 : Lies w2 (w.heap.size + 1) 8 Z8.toList := by rw [hw2, ← z1]; exact Z8_new w1
  have L12 : Hid (Lies w2 w.heap.size 8 (wvs h.list)) := Lib.hid (by rw [hw2]; exact l1.alloc _)
  have L22 := Lib.hid l2
  have B2 : Hid (Below w.heap.size w w2) := Lib.hid (by rw [hw2, hw1]; exact ((Below.refl _ _).alloc (Nat.le_refl _) _).alloc (by simp) _)
  have Z2 := Lib.hid (show w2.heap.size = w.heap.size + 1 + 1 by rw [hw2]; simp [z1])
  have HW2 := Lib.hid (hw2.trans (by rw [hw1]))
  have S2 := Lib.hid ((HS.out.below B2.out).more (B' := w2.heap.size) (by have := Z2.out; omega))
  have K2 := Lib.hid (rangeAt_keep HK.out (B2.out.block gk hkw))
  have HGW := Lib.hid hgw
  clear hw1 l1 z1 hw2 l2 hs hk hkw hgw
  go_enter Tryz.func61, Tryz.ntmps61
  go_wp2_with fail
  rw [← HW2.out]
  refine (out_ref g o c b w2 S2.out).mono ?_
  rintro e w3 ⟨g', c', rfl, hg', how, hb3⟩
  have WL := Lib.hid (drW_len b 48)
  obtain ⟨ws, hws⟩ : ∃ ws, drW b 48 = ws := ⟨_, rfl⟩
  have HWS := Lib.hid hws
  rw [hws] at how WL
  have HWL := Lib.hid (show ws.length = 64 from WL.out)
  have L13 := Lib.hid (L12.out.below hb3 L12.out.lt)
  have L23 := Lib.hid (L22.out.below hb3 L22.out.lt)
  have B3 := Lib.hid (B2.out.trans (hb3.mono B2.out.size))
  have K3 := Lib.hid (rangeAt_keep K2.out (hb3.block gk (by have := HKW.out; have := Z2.out; omega)))
  have R3 : Hid (w3.rangeAt g' 0 (wvs ws)) := Lib.hid (fun j v hv => by
    have hj := (List.getElem?_eq_some_iff.1 hv).1
    rw [wvs_len] at hj
    have h1 := how.cellAt j (by have := HWL.out; omega)
    rw [Nat.zero_add, h1]
    exact hv)
  have G3 := Lib.hid (show g' < w3.heap.size from (how.lt g' rfl).2)
  have Z3 := Lib.hid (show w.heap.size + 1 + 1 ≤ w3.heap.size from by have := hb3.size; have := Z2.out; omega)
  have hc64 : 64 ≤ c' := by
    rcases how.2 with ⟨h1, h2⟩ | ⟨q, cap, cur, h1, _, _, h2, _⟩
    · cases h1
    · cases h1; exact h2
  clear hws how hb3 hg'
  have H8 := Lib.hid (show h.list.length = 8 from rfl)
  have N3 := Lib.hid (Z8_new w3)
  have D3 := Lib.hid (below_setCells ((Below.refl w3.heap.size w3).alloc (Nat.le_refl _) (.cells Z8 105)) (Nat.le_refl _) 0 (wvs h.list))
  have I4 : Hid (In w ((w3.alloc (.cells Z8 105)).setCells w3.heap.size 0 (wvs h.list)) w3.heap.size g' gk ok h h ws) := Lib.hid
    ⟨N3.out.set_ rfl, L13.out.below D3.out L13.out.lt, L23.out.below D3.out L23.out.lt, rangeAt_keep R3.out (D3.out.block g' G3.out), rangeAt_keep K3.out (D3.out.block gk (by have := HKW.out; have := Z3.out; omega)), B3.out.trans (D3.out.mono B3.out.size)⟩
  have HF0 := Lib.hid (L13.out.rg)
  go_wp2_with (first
    | (with_reducible refine ld_w8 rfl (.tmp 3) rfl w.heap.size 0 h.list H8 rfl L13.out.rg ?_)
    | (with_reducible refine st_w8 rfl _ _ rfl w3.heap.size 0 h.list H8 rfl rfl N3.out.th ?_))
  generalize (w3.alloc (.cells Z8 105)).setCells w3.heap.size 0 (wvs h.list) = w4 at I4 ⊢
  have hb8 : w.heap.size + 1 < w3.heap.size := by have := Z3.out; omega
  have hg8 : g' < w3.heap.size := G3.out
  clear L13 L23 B3 K3 R3 N3 D3 L12 L22 B2 HF0 S2 K2
  generalize w3.heap.size = b8 at I4 hb8 hg8 ⊢
  have HB8 := Lib.hid (And.intro hb8 hg8)
  clear hb8 hg8 G3 Z3
  go_loopw [9] (fun i wr => ∃ k : Nat, k ≤ 64 ∧ i = .int .i64 (k : Int) ∧ Hid (In w wr b8 g' gk ok h (h.run ws k) ws)) (fun i _ => 64 - (intOf i).toNat)
  case atStart => exact ⟨0, by omega, rfl, I4⟩
  case round =>
    obtain ⟨k, hk, rfl, HI⟩ := hrel
    obtain ⟨t, ht⟩ : ∃ t, h.run ws k = t := ⟨_, rfl⟩
    have HRT := Lib.hid ht
    rw [ht] at HI
    by_cases hlt : k < 64
    · have hd : decide ((k : Int) < 64) = true := by simp; omega
      have hk0 : (0 : Int) ≤ (k : Int) := Int.natCast_nonneg _
      have hk1 : (k : Int) < 64 := by omega
      have hk2 : (k : Int) < (ck : Int) := by omega
      obtain ⟨kc, hkc⟩ : ∃ x, ksW.getD k 0 = x := ⟨_, rfl⟩
      obtain ⟨wc, hwc⟩ : ∃ x, ws.getD k 0 = x := ⟨_, rfl⟩
      have HKC := Lib.hid hkc
      have HWC := Lib.hid hwc
      have HST : Hid (h.run ws (k + 1) = t.step kc wc) := Lib.hid (by rw [← ht, ← hkc, ← hwc]; rfl)
      clear ht hkc hwc
      have a0 : wr.cell? ⟨b8, 0, none⟩ = some (wv t.a) := HI.out.l.cell (j := 0) rfl
      have a1 : wr.cell? ⟨b8, 1, none⟩ = some (wv t.b) := HI.out.l.cell (j := 1) rfl
      have a2 : wr.cell? ⟨b8, 2, none⟩ = some (wv t.c) := HI.out.l.cell (j := 2) rfl
      have a3 : wr.cell? ⟨b8, 3, none⟩ = some (wv t.d) := HI.out.l.cell (j := 3) rfl
      have a4 : wr.cell? ⟨b8, 4, none⟩ = some (wv t.e) := HI.out.l.cell (j := 4) rfl
      have a5 : wr.cell? ⟨b8, 5, none⟩ = some (wv t.f) := HI.out.l.cell (j := 5) rfl
      have a6 : wr.cell? ⟨b8, 6, none⟩ = some (wv t.g) := HI.out.l.cell (j := 6) rfl
      have a7 : wr.cell? ⟨b8, 7, none⟩ = some (wv t.h) := HI.out.l.cell (j := 7) rfl
      have ak : wr.cell? ⟨gk, ok + k, none⟩ = some (wv kc) := by rw [← HKC.out]; exact ks_at HI.out.ks hlt
      have aw : wr.cell? ⟨g', k, none⟩ = some (wv wc) := by rw [← HWC.out]; have := ws_at HI.out.ws HWL.out hlt; rwa [Nat.zero_add] at this
      obtain ⟨n1, En1⟩ : ∃ z, ~~~t.e = z := ⟨_, rfl⟩
      have H1 : IntKind.u32.wrap (4294967295 - (t.e.toNat : Int)) = (n1.toNat : Int) := by rw [← En1, w_not, wrap32i]; have := (~~~t.e).toNat_lt; omega
      have H1b : (4294967295 - (t.e.toNat : Int)) % 4294967296 = (n1.toNat : Int) := by rw [← En1, w_not]; have := (~~~t.e).toNat_lt; omega
      obtain ⟨r1, Er1⟩ : ∃ z, rotr t.e 6 = z := ⟨_, rfl⟩
      obtain ⟨r2, Er2⟩ : ∃ z, rotr t.e 11 = z := ⟨_, rfl⟩
      obtain ⟨r3, Er3⟩ : ∃ z, rotr t.e 25 = z := ⟨_, rfl⟩
      obtain ⟨r4, Er4⟩ : ∃ z, rotr t.a 2 = z := ⟨_, rfl⟩
      obtain ⟨r5, Er5⟩ : ∃ z, rotr t.a 13 = z := ⟨_, rfl⟩
      obtain ⟨r6, Er6⟩ : ∃ z, rotr t.a 22 = z := ⟨_, rfl⟩
      obtain ⟨a1, Ea1⟩ : ∃ z, t.e &&& t.f = z := ⟨_, rfl⟩
      have H2 : bits .and .u32 (t.e.toNat : Int) (t.f.toNat : Int) = (a1.toNat : Int) := by rw [← Ea1]; exact w_and _ _
      obtain ⟨a2, Ea2⟩ : ∃ z, n1 &&& t.g = z := ⟨_, rfl⟩
      have H3 : bits .and .u32 (n1.toNat : Int) (t.g.toNat : Int) = (a2.toNat : Int) := by rw [← Ea2]; exact w_and _ _
      obtain ⟨o1, Eo1⟩ : ∃ z, a1 ||| a2 = z := ⟨_, rfl⟩
      have H4 : bits .or .u32 (a1.toNat : Int) (a2.toNat : Int) = (o1.toNat : Int) := by rw [← Eo1]; exact w_or _ _
      obtain ⟨x1, Ex1⟩ : ∃ z, r1 ^^^ r2 = z := ⟨_, rfl⟩
      have H5 : bits .xor .u32 (r1.toNat : Int) (r2.toNat : Int) = (x1.toNat : Int) := by rw [← Ex1]; exact w_xor _ _
      obtain ⟨sp, Esp⟩ : ∃ z, x1 ^^^ r3 = z := ⟨_, rfl⟩
      have H6 : bits .xor .u32 (x1.toNat : Int) (r3.toNat : Int) = (sp.toNat : Int) := by rw [← Esp]; exact w_xor _ _
      obtain ⟨d1, Ed1⟩ : ∃ z, t.h + sp = z := ⟨_, rfl⟩
      have H7 : IntKind.u32.wrap ((t.h.toNat : Int) + (sp.toNat : Int)) = (d1.toNat : Int) := by rw [← Ed1]; exact w_add _ _
      have H7m : ((t.h.toNat : Int) + (sp.toNat : Int)) % 4294967296 = (d1.toNat : Int) := by rw [← Ed1, w_sum]
      obtain ⟨d2, Ed2⟩ : ∃ z, d1 + o1 = z := ⟨_, rfl⟩
      have H8 : IntKind.u32.wrap ((d1.toNat : Int) + (o1.toNat : Int)) = (d2.toNat : Int) := by rw [← Ed2]; exact w_add _ _
      have H8m : ((d1.toNat : Int) + (o1.toNat : Int)) % 4294967296 = (d2.toNat : Int) := by rw [← Ed2, w_sum]
      obtain ⟨d3, Ed3⟩ : ∃ z, d2 + kc = z := ⟨_, rfl⟩
      have H9 : IntKind.u32.wrap ((d2.toNat : Int) + (kc.toNat : Int)) = (d3.toNat : Int) := by rw [← Ed3]; exact w_add _ _
      have H9m : ((d2.toNat : Int) + (kc.toNat : Int)) % 4294967296 = (d3.toNat : Int) := by rw [← Ed3, w_sum]
      obtain ⟨X, EX⟩ : ∃ z, d3 + wc = z := ⟨_, rfl⟩
      have H10 : IntKind.u32.wrap ((d3.toNat : Int) + (wc.toNat : Int)) = (X.toNat : Int) := by rw [← EX]; exact w_add _ _
      have H10m : ((d3.toNat : Int) + (wc.toNat : Int)) % 4294967296 = (X.toNat : Int) := by rw [← EX, w_sum]
      obtain ⟨x2, Ex2⟩ : ∃ z, r4 ^^^ r5 = z := ⟨_, rfl⟩
      have H11 : bits .xor .u32 (r4.toNat : Int) (r5.toNat : Int) = (x2.toNat : Int) := by rw [← Ex2]; exact w_xor _ _
      obtain ⟨sq, Esq⟩ : ∃ z, x2 ^^^ r6 = z := ⟨_, rfl⟩
      have H12 : bits .xor .u32 (x2.toNat : Int) (r6.toNat : Int) = (sq.toNat : Int) := by rw [← Esq]; exact w_xor _ _
      obtain ⟨m1, Em1⟩ : ∃ z, t.a &&& t.b = z := ⟨_, rfl⟩
      have H13 : bits .and .u32 (t.a.toNat : Int) (t.b.toNat : Int) = (m1.toNat : Int) := by rw [← Em1]; exact w_and _ _
      obtain ⟨m2, Em2⟩ : ∃ z, t.a &&& t.c = z := ⟨_, rfl⟩
      have H14 : bits .and .u32 (t.a.toNat : Int) (t.c.toNat : Int) = (m2.toNat : Int) := by rw [← Em2]; exact w_and _ _
      obtain ⟨m3, Em3⟩ : ∃ z, t.b &&& t.c = z := ⟨_, rfl⟩
      have H15 : bits .and .u32 (t.b.toNat : Int) (t.c.toNat : Int) = (m3.toNat : Int) := by rw [← Em3]; exact w_and _ _
      obtain ⟨o2, Eo2⟩ : ∃ z, m1 ||| m2 = z := ⟨_, rfl⟩
      have H16 : bits .or .u32 (m1.toNat : Int) (m2.toNat : Int) = (o2.toNat : Int) := by rw [← Eo2]; exact w_or _ _
      obtain ⟨o3, Eo3⟩ : ∃ z, o2 ||| m3 = z := ⟨_, rfl⟩
      have H17 : bits .or .u32 (o2.toNat : Int) (m3.toNat : Int) = (o3.toNat : Int) := by rw [← Eo3]; exact w_or _ _
      obtain ⟨Y, EY⟩ : ∃ z, sq + o3 = z := ⟨_, rfl⟩
      have H18 : IntKind.u32.wrap ((sq.toNat : Int) + (o3.toNat : Int)) = (Y.toNat : Int) := by rw [← EY]; exact w_add _ _
      have H18m : ((sq.toNat : Int) + (o3.toNat : Int)) % 4294967296 = (Y.toNat : Int) := by rw [← EY, w_sum]
      obtain ⟨U, EU⟩ : ∃ z, X + Y = z := ⟨_, rfl⟩
      have H19 : IntKind.u32.wrap ((X.toNat : Int) + (Y.toNat : Int)) = (U.toNat : Int) := by rw [← EU]; exact w_add _ _
      have H19m : ((X.toNat : Int) + (Y.toNat : Int)) % 4294967296 = (U.toNat : Int) := by rw [← EU, w_sum]
      obtain ⟨V, EV⟩ : ∃ z, t.d + X = z := ⟨_, rfl⟩
      have H20 : IntKind.u32.wrap ((t.d.toNat : Int) + (X.toNat : Int)) = (V.toNat : Int) := by rw [← EV]; exact w_add _ _
      have H20m : ((t.d.toNat : Int) + (X.toNat : Int)) % 4294967296 = (V.toNat : Int) := by rw [← EV, w_sum]
      have HT2 : Hid (t.step kc wc = ⟨U, t.a, t.b, t.c, V, t.e, t.f, t.g⟩) := Lib.hid (by subst EV EU EY Eo3 Eo2 Em3 Em2 Em1 Esq Ex2 EX Ed3 Ed2 Ed1 Esp Ex1 Eo1 Ea2 Ea1 Er6 Er5 Er4 Er3 Er2 Er1 En1; rfl)
      have HR1 := Lib.hid Er1
      have HR2 := Lib.hid Er2
      have HR3 := Lib.hid Er3
      have HR4 := Lib.hid Er4
      have HR5 := Lib.hid Er5
      have HR6 := Lib.hid Er6
      clear EV EU EY Eo3 Eo2 Em3 Em2 Em1 Esq Ex2 EX Ed3 Ed2 Ed1 Esp Ex1 Eo1 Ea2 Ea1 Er6 Er5 Er4 Er3 Er2 Er1 En1
      have C6 := Lib.hid (fun j => quiet_eq (n := j) (HR1.out ▸ turned_ref t.e 6 6 rfl (by omega) (wr.drewN j)))
      have C11 := Lib.hid (fun j => quiet_eq (n := j) (HR2.out ▸ turned_ref t.e 11 11 rfl (by omega) (wr.drewN j)))
      have C25 := Lib.hid (fun j => quiet_eq (n := j) (HR3.out ▸ turned_ref t.e 25 25 rfl (by omega) (wr.drewN j)))
      go_wp2_with fail
      go_quiet ((first | (go_at_call 94; with_reducible exact C6.out _) | (go_at_call 94; with_reducible exact C11.out _) | (go_at_call 94; with_reducible exact C25.out _)))
      obtain ⟨wa, hwa⟩ : ∃ wa, wr.drewN nq = wa := ⟨_, rfl⟩
      have HA := Lib.hid (HI.out.drewN nq)
      rw [hwa] at HA ⊢
      clear hwa C6 C11 C25
      have x0 : wa.cell? ⟨b8, 0, none⟩ = some (wv t.a) := HA.out.l.cell (j := 0) rfl
      have x1 : wa.cell? ⟨b8, 1, none⟩ = some (wv t.b) := HA.out.l.cell (j := 1) rfl
      have x2 : wa.cell? ⟨b8, 2, none⟩ = some (wv t.c) := HA.out.l.cell (j := 2) rfl
      have x3 : wa.cell? ⟨b8, 3, none⟩ = some (wv t.d) := HA.out.l.cell (j := 3) rfl
      have x4 : wa.cell? ⟨b8, 4, none⟩ = some (wv t.e) := HA.out.l.cell (j := 4) rfl
      have x5 : wa.cell? ⟨b8, 5, none⟩ = some (wv t.f) := HA.out.l.cell (j := 5) rfl
      have x6 : wa.cell? ⟨b8, 6, none⟩ = some (wv t.g) := HA.out.l.cell (j := 6) rfl
      have x7 : wa.cell? ⟨b8, 7, none⟩ = some (wv t.h) := HA.out.l.cell (j := 7) rfl
      have xk : wa.cell? ⟨gk, ok + k, none⟩ = some (wv kc) := by rw [← HKC.out]; exact ks_at HA.out.ks hlt
      have xw : wa.cell? ⟨g', k, none⟩ = some (wv wc) := by rw [← HWC.out]; have := ws_at HA.out.ws HWL.out hlt; rwa [Nat.zero_add] at this
      have C2 := Lib.hid (fun j => quiet_eq (n := j) (HR4.out ▸ turned_ref t.a 2 2 rfl (by omega) (wa.drewN j)))
      have C13 := Lib.hid (fun j => quiet_eq (n := j) (HR5.out ▸ turned_ref t.a 13 13 rfl (by omega) (wa.drewN j)))
      have C22 := Lib.hid (fun j => quiet_eq (n := j) (HR6.out ▸ turned_ref t.a 22 22 rfl (by omega) (wa.drewN j)))
      go_wp2_with fail
      go_quiet ((first | (go_at_call 94; with_reducible exact C2.out _) | (go_at_call 94; with_reducible exact C13.out _) | (go_at_call 94; with_reducible exact C22.out _)))
      obtain ⟨wb, hwb⟩ : ∃ wb, wa.drewN nq = wb := ⟨_, rfl⟩
      have HBI := Lib.hid (HA.out.drewN nq)
      rw [hwb] at HBI ⊢
      clear hwb C2 C13 C22
      have z0 : wb.cell? ⟨b8, 0, none⟩ = some (wv t.a) := HBI.out.l.cell (j := 0) rfl
      have z1 : wb.cell? ⟨b8, 1, none⟩ = some (wv t.b) := HBI.out.l.cell (j := 1) rfl
      have z2 : wb.cell? ⟨b8, 2, none⟩ = some (wv t.c) := HBI.out.l.cell (j := 2) rfl
      have z3 : wb.cell? ⟨b8, 3, none⟩ = some (wv t.d) := HBI.out.l.cell (j := 3) rfl
      have z4 : wb.cell? ⟨b8, 4, none⟩ = some (wv t.e) := HBI.out.l.cell (j := 4) rfl
      have z5 : wb.cell? ⟨b8, 5, none⟩ = some (wv t.f) := HBI.out.l.cell (j := 5) rfl
      have z6 : wb.cell? ⟨b8, 6, none⟩ = some (wv t.g) := HBI.out.l.cell (j := 6) rfl
      have z7 : wb.cell? ⟨b8, 7, none⟩ = some (wv t.h) := HBI.out.l.cell (j := 7) rfl
      have zk : wb.cell? ⟨gk, ok + k, none⟩ = some (wv kc) := by rw [← HKC.out]; exact ks_at HBI.out.ks hlt
      have zw : wb.cell? ⟨g', k, none⟩ = some (wv wc) := by rw [← HWC.out]; have := ws_at HBI.out.ws HWL.out hlt; rwa [Nat.zero_add] at this
      have HL8 := Lib.hid (show (⟨U, t.a, t.b, t.c, V, t.e, t.f, t.g⟩ : W8).list.length = 8 from rfl)
      have HN := Lib.hid (HBI.out.set_ (t' := ⟨U, t.a, t.b, t.c, V, t.e, t.f, t.g⟩) HB8.out.1 HB8.out.2 HKW.out)
      go_wp2_with (first
        | (with_reducible refine st_w8 rfl _ _ rfl b8 0 (⟨U, t.a, t.b, t.c, V, t.e, t.f, t.g⟩ : W8).list HL8 rfl rfl HBI.out.l.th ?_))
      go_roundw
      case rel => exact ⟨k + 1, by omega, by go_num, Lib.hid (by rw [HST.out, HT2.out]; exact HN.out)⟩
      case measure => simp [intOf]; omega
    · obtain rfl : k = 64 := by omega
      have S0 : Hid (Lies wr w.heap.size 8 (wvs (sumsW h t 0))) := Lib.hid (by have := HI.out.hh; exact this)
      have T0 := Lib.hid HI.out.l
      have R0 := Lib.hid HI.out.r
      have B0 := Lib.hid HI.out.bel
      obtain ⟨wo, hwo⟩ : ∃ wo : World, wo = wr := ⟨_, rfl⟩
      rw [← hwo] at S0 T0 R0 B0 ⊢
      clear hwo HI
      go_wp2_with fail
      go_loopw [14] (fun i wr => ∃ j : Nat, j ≤ 8 ∧ i = .int .i64 (j : Int) ∧ Hid (Lies wr w.heap.size 8 (wvs (sumsW h t j))) ∧ Hid (Lies wr b8 8 (wvs t.list)) ∧ Hid (Lies wr (w.heap.size + 1) 8 Z8.toList) ∧ Hid (Below w.heap.size w wr)) (fun i _ => 8 - (intOf i).toNat)
      case atStart => exact ⟨0, by omega, rfl, S0, T0, R0, B0⟩
      case round =>
        obtain ⟨j, hj, rfl, hS, hT, hR, hB⟩ := hrel
        by_cases hlt8 : j < 8
        · have hd : decide ((j : Int) < 8) = true := by simp; omega
          have hj0 : (0 : Int) ≤ (j : Int) := Int.natCast_nonneg _
          have hj1 : (j : Int) < 8 := by omega
          have hs := sums_set h t hlt8
          have q1 : wr.drew.cell? ⟨w.heap.size, j, none⟩ = some (wv (h.list.getD j 0)) := by
            show wr.cell? _ = _
            rw [← sums_at h t hlt8]
            have hlen := sums_len h t (k := j) (by omega)
            refine hS.out.cell ?_
            rw [wvs_at _ (show j < (sumsW h t j).length by omega), List.getD_eq_getElem?_getD, List.getElem?_eq_getElem (show j < (sumsW h t j).length by omega)]
            rfl
          have q2 : wr.drew.frozen? ⟨w.heap.size, j, none⟩ = false := hS.out.frozen (j := j) hlt8
          have q3 : wr.drew.cell? ⟨b8, j, none⟩ = some (wv (t.list.getD j 0)) := by
            show wr.cell? _ = _
            refine hT.out.cell ?_
            rw [wvs_at _ (show j < t.list.length from hlt8), List.getD_eq_getElem?_getD, List.getElem?_eq_getElem (show j < t.list.length from hlt8)]
            rfl
          obtain ⟨x, hx⟩ : ∃ x, h.list.getD j 0 = x := ⟨_, rfl⟩
          obtain ⟨y, hy⟩ : ∃ y, t.list.getD j 0 = y := ⟨_, rfl⟩
          rw [hx] at q1 hs
          rw [hy] at q3 hs
          obtain ⟨z, hz⟩ : ∃ z, x + y = z := ⟨_, rfl⟩
          have hz1 : IntKind.u32.wrap ((x.toNat : Int) + (y.toNat : Int)) = (z.toNat : Int) := by rw [w_add, hz]
          have hz2 : ((x.toNat : Int) + (y.toNat : Int)) % 4294967296 = (z.toNat : Int) := by rw [← hz, w_sum]
          rw [hz] at hs
          have SN : Hid (Lies (wr.drew.setCell ⟨w.heap.size, j, none⟩ (wv z)) w.heap.size 8 (wvs (sumsW h t (j + 1)))) := Lib.hid (by
            rw [← hs]
            have := (show Lies wr.drew w.heap.size 8 (wvs (sumsW h t j)) from hS.out.drewN 1).set1 j (wv z)
            simpa [wvs, List.map_set] using this)
          have TN : Hid (Lies (wr.drew.setCell ⟨w.heap.size, j, none⟩ (wv z)) b8 8 (wvs t.list)) := Lib.hid ((hT.out.drewN 1).keep2 (Below.heap_setCell _ _ _ _ (by have := HB8.out.1; show b8 ≠ w.heap.size; omega)) (by simp))
          have RN : Hid (Lies (wr.drew.setCell ⟨w.heap.size, j, none⟩ (wv z)) (w.heap.size + 1) 8 Z8.toList) := Lib.hid ((hR.out.drewN 1).keep2 (Below.heap_setCell _ _ _ _ (by show w.heap.size + 1 ≠ w.heap.size; omega)) (by simp))
          have BN : Hid (Below w.heap.size w (wr.drew.setCell ⟨w.heap.size, j, none⟩ (wv z))) := Lib.hid ((hB.out.drew).setCell (Nat.le_refl _) _)
          clear hx hy hz hs
          go_wp2_with fail
          go_region
          all_goals
            go_wp2
            go_roundw
            case rel => exact ⟨j + 1, by omega, by go_num, SN, TN, RN, BN⟩
            case measure => simp [intOf]; omega
        · obtain rfl : j = 8 := by omega
          have H8b := Lib.hid (show (sumsW h t 8).length = 8 from sums_len h t (Nat.le_refl _))
          go_wp2_with (first
            | (with_reducible refine ld_w8 rfl (.tmp 3) rfl w.heap.size 0 (sumsW h t 8) H8b rfl hS.out.rg ?_)
            | (with_reducible refine st_w8 rfl _ _ rfl (w.heap.size + 1) 0 (sumsW h t 8) H8b rfl rfl hR.out.th ?_))
          refine bodyPost_ret (res_w8 rfl _ _ (w.heap.size + 1) (sumsW h t 8) H8b.out rfl (hR.out.set_ (l' := wvs (sumsW h t 8)) (by rw [wvs_len]; exact H8b.out)).rg) rfl ⟨?_, below_setCells hB.out (by omega) _ _⟩
          unfold blockW
          rw [HWS.out, HRT.out]
          rfl
end Go.Proofs.YtnkhoghdfncgpaaGreatDoor.S3
namespace Go.Proofs.YtnkhoghdfncgpaaGreatDoor.S3
set_option maxRecDepth 100000
set_option linter.unusedVariables false
open Go.RowKit Go.WideShapes Go.ChangeShapes

theorem one_sl (w : World) (b : Nat) (v : Int) (x : UInt8) (hv : v = (x.toNat : Int)) (hb : b = w.heap.size) : SlB (w.alloc (.cells #[.int .u8 v] 5)) (b + 1) (some ⟨b, 0, none⟩) 1 1 [x] := by
  subst hb hv
  exact Bl.sl (l := [x]) (Bl.new w 5 (bvs [x])) (Nat.lt_succ_self _) (by unfold maxLen; simp)
theorem be_mod : ∀ (k x : Nat), be k (x % 256 ^ k) = be k x
  | 0, _ => rfl
  | k + 1, x => by
    have h1 : x % 256 ^ (k + 1) / 256 = x / 256 % 256 ^ k := by rw [Nat.pow_succ', Nat.mod_mul_right_div_self]
    have h2 : UInt8.ofNat (x % 256 ^ (k + 1)) = UInt8.ofNat x := by
      apply UInt8.toNat_inj.1
      simp only [UInt8.toNat_ofNat']
      rw [Nat.pow_succ', Nat.mod_mul_right_mod]
    rw [be, be, h1, h2, be_mod k]

set_option maxRecDepth 100000 in
set_option maxHeartbeats 1600000 in
theorem high_any : ∀ (k : Nat) (x : Nat) (X : Int) (K : Int) (w : World), X = (x : Int) → x < 18446744073709551616 → K = (k : Int) → k ≤ 1000 →
    Calls Tryz.prog 35 #[.int .u64 X, .int .i64 K] w fun e w' =>
      ∃ A c, e = .returned (.slice A k c) ∧ Ow w' w.heap.size A k c (be k x) ∧ Below w.heap.size w w' := by
  intro k
  induction k with
  | zero =>
    intro x X K w hX hx hK hk
    subst hX hK
    go_enter Tryz.func35, Tryz.ntmps35
    go_wp2_with fail
    go_ret
    exact ⟨none, 0, rfl, World.ownsRow_nil _ _ _ _, Below.refl _ _⟩
  | succ k ih =>
    intro x X K w hX hx hK hk
    subst hX hK
    have IH := Lib.hid (ih (x / 256))
    clear ih
    obtain ⟨i0, hi0, hz0, hz1, hz2⟩ := info_parts info_u8
    have HX := Lib.hid hx
    clear hx
    go_enter Tryz.func35, Tryz.ntmps35
    go_wp2_with fail
    refine (IH.out _ _ _ (by have := HX.out; rw [IntKind.wrap_u64]; omega) (by have := HX.out; omega) (by omega) (by omega)).mono ?_
    rintro e w1 ⟨A1, c1, rfl, ho1, hb1⟩
    have ho2 := fun v => ho1.alloc (.cells #[.int .u8 v] 5)
    have HO := Lib.hid ho2
    have hsz := hb1.size
    clear ho2
    go_wp2_with (at_builtin; go_loud (refine wpList_append_sl rfl (.tmp 11) (.tmp 15) 35 rfl w.heap.size 5 i0 Tryz.underlying35 hi0 hz0 hz1 hz2 _ _ (be k (x / 256)) rfl (HO.out _) rfl (one_sl w1 w1.heap.size ((x : Int) % 256) (UInt8.ofNat x) (byte_of x).symm rfl) (by omega) (by simp; omega) ?_); intro v2 w2 ho2 hg2)
    go_ret
    obtain ⟨A2, c2, rfl⟩ := own_form ho2
    refine ⟨A2, c2, rfl, ho2, (hb1.alloc hsz _).grown hg2 (by simp; omega) (fun j hj => ?_)⟩
    have := ho1.lt j (by simpa [Act.eval] using hj)
    omega

set_option maxRecDepth 100000 in
set_option maxHeartbeats 1600000 in
theorem both_any {A A' : Option Addr} {n c n' c' : Nat} {l l' : List UInt8} {w : World} {B B' : Nat} (h : SlB w B A n c l) (h' : SlB w B' A' n' c' l') (hB : B ≤ w.heap.size) (hB' : B' ≤ w.heap.size) (hn : n + n' ≤ 140737488355320) :
    Calls Tryz.prog 92 #[.slice A n c, .slice A' n' c'] w fun e w' =>
      ∃ A3 c3, e = .returned (.slice A3 (n + n') c3) ∧ Ow w' w.heap.size A3 (n + n') c3 (l ++ l') ∧ Below w.heap.size w w' := by
  obtain ⟨i0, hi0, hz0, hz1, hz2⟩ := info_parts info_u8
  have hb0 : Below w.heap.size w (w.alloc (.cells #[] 5)) := (Below.refl _ _).alloc (Nat.le_refl _) _
  have h0 := World.ownsRow_made (base := w.heap.size) (e := 5) (size := 1) w #[] 0 (Nat.le_refl _) (Nat.zero_le _) rfl
  have h1 := h.below (hb0.mono hB)
  go_enter Tryz.func92, Tryz.ntmps92
  go_wp2_with (first
    | (at_builtin; refine wpList_append_sl rfl (.tmp 6) (.tmp 7) 35 rfl w.heap.size 5 i0 Tryz.underlying35 hi0 hz0 hz1 hz2 _ 0 [] rfl h0 rfl h1 (by omega) (by simp) ?_; intro v1 w1 ho1 hg1
       have hb1 : Below w.heap.size w w1 := hb0.grown hg1 (by simp) (fun k hk => by simp [Act.eval, Value.ownBlock] at hk; omega)
       have h2 := h'.below (hb1.mono hB')
       have hz1' := hb1.size)
    | (at_builtin; refine wpList_append_sl rfl (.tmp 9) (.tmp 10) 35 rfl w.heap.size 5 i0 Tryz.underlying35 hi0 hz0 hz1 hz2 _ (0 + n) ([] ++ l) rfl ho1 rfl h2 (by omega) hz1' ?_; intro v2 w2 ho2 hg2))
  go_ret
  obtain ⟨A2, c2, rfl⟩ := own_form ho2
  simp only [Nat.zero_add, List.nil_append] at ho2
  have hlt := ho1.lt
  refine ⟨A2, c2, ?_, ho2, hb1.grown hg2 hz1' (fun k hk => (hlt k (by simpa [Act.eval] using hk)).1)⟩
  show Ending.returned (.slice A2 (0 + n + n') c2) = _
  rw [Nat.zero_add]

/-- A row that the call owns, with bytes more: whatever guard stands before it. -/
theorem wpList_app_want {w : World} {ops : Array Oper} {rest : List Oper} {o : Oper} {a : Act} {Q : Exit → Act → World → Prop} (hw : Region.wanted o (yielded ops a.tmps) = true) (s x : Operand)
    (ho : o.op = .call { callee := .builtin .append, args := #[s, x], argTypes := #[35, 35] })
    (base : Nat) (v : Value) (n : Nat) (l0 : List UInt8) (hs : a.eval s = v) (hown : w.ownsRow base 5 1 v n (bvs l0))
    (ad : Addr) (m c : Nat) (l : List UInt8) (hx : a.eval x = .slice (some ad) m c) (hl : l.length = m) (hnews : ∀ j u, (bvs l)[j]? = some u → w.cell? (ad.add j) = some u)
    (hm : 0 < m) (h63 : n + m ≤ 1000000) (hbase : base ≤ w.heap.size)
    (h : ∀ v' w', w'.ownsRow base 5 1 v' (n + m) (bvs (l0 ++ l)) → w.grownBy w' v.ownBlock → wpList Tryz.prog ops Q rest (a.put o.dst v') w') : wpList Tryz.prog ops Q (o :: rest) a w := by
  obtain ⟨i0, hi0, hz0, hz1, hz2⟩ := info_parts info_u8
  refine wpList_want hw ?_
  have h1 := step_append_lies (P := Tryz.prog) (ops := ops) (o := { o with guard := none }) (a := a) (K := wpList Tryz.prog ops Q rest) (Q := Q) (E := True) w rfl s x 35 ho base 5 i0 (.int .u8 0) 1 1 Tryz.underlying35 hi0 hz0 hz1 hz2 rfl (by omega) v n (bvs l0) hs hown ad m c (bvs l) hx (by rw [bvs_len, hl, Nat.mul_one]) hnews (bvs_one _) hm (by unfold maxLen; omega) (by omega) hbase w.heap.size rfl
    (fun g cap w' h1 h2 _ _ => h _ w' (by unfold bvs; rw [List.map_append]; exact h1) h2)
  have hw0 : Region.wanted { o with guard := none } (yielded ops a.tmps) = true := rfl
  rw [if_pos hw0] at h1
  exact h1


theorem fill_is {n m : Nat} (h1 : n + 1 ≤ m) (h2 : m ≤ fillN n) (h3 : (m + 8) % 64 = 0) : m = fillN n := by
  have := fillN_bd n
  omega
theorem zeros_more (l : List UInt8) (k : Nat) : (l ++ 128 :: List.replicate k (0 : UInt8)) ++ [0] = l ++ 128 :: List.replicate (k + 1) 0 := by
  rw [List.append_assoc, List.cons_append, ← List.replicate_succ']

set_option maxRecDepth 100000 in
set_option maxHeartbeats 1600000 in
theorem pad_ref {A : Option Addr} {n c : Nat} {l : List UInt8} {w : World} {B : Nat} (hs : SlB w B A n c l) (hB : B ≤ w.heap.size) (hn : n ≤ 800) :
    Calls Tryz.prog 59 #[.slice A n c] w fun e w' => ∃ A' c', e = .returned (.slice A' (fillN n + 8) c') ∧ Ow w' w.heap.size A' (fillN n + 8) c' (padW l) ∧ Below w.heap.size w w' := by
  have hlen := Lib.hid hs.len
  have S0 := Lib.hid hs
  have HB0 := Lib.hid hB
  have hb1 : Below w.heap.size w (w.alloc (.cells #[.int .u8 128] 5)) := (Below.refl _ _).alloc (Nat.le_refl _) _
  have S1 := Lib.hid (hs.below (hb1.mono hB))
  have T1 := Lib.hid (one_sl w w.heap.size 128 128 rfl rfl)
  have B1 := Lib.hid hb1
  have hbd := Lib.hid (fillN_bd n)
  clear hs hB hb1
  go_enter Tryz.func59, Tryz.ntmps59
  go_wp2_with fail
  refine (both_any S1.out T1.out (by have := HB0.out; rw [World.size_alloc]; omega) (by rw [World.size_alloc]; omega) (by omega)).mono ?_
  rintro e w2 ⟨A2, c2, rfl, ho2, hb2⟩
  have B2 := Lib.hid (B1.out.trans (hb2.mono B1.out.size))
  have O2 : Hid (Ow w2 w.heap.size A2 (n + 1) c2 (l ++ 128 :: List.replicate 0 0)) := Lib.hid (Joins.ownsRow_le ho2 (by rw [World.size_alloc]; omega))
  clear ho2 hb2
  go_wp2_with fail
  go_loopw [3] (fun v wr => ∃ (k m : Nat) (A' : Option Addr) (c' : Nat), v = .slice A' m c' ∧ m = n + 1 + k ∧ m ≤ fillN n ∧ Hid (wr.ownsRow w.heap.size 5 1 (.slice A' m c') m (bvs (l ++ 128 :: List.replicate k 0))) ∧ Hid (Below w.heap.size w wr)) (fun v _ => fillN n - (match v with | .slice _ m _ => m | _ => 0))
  case atStart => exact ⟨0, n + 1, A2, c2, rfl, rfl, hbd.out.1, O2, B2⟩
  case round =>
    obtain ⟨k, m, A', c', rfl, hm, hmf, ho, hb⟩ := hrel
    have HMK := Lib.hid hm
    have HMF := Lib.hid hmf
    have hm7 : m ≤ 1000 := by have := hbd.out.2.1; omega
    have hmi : (m : Int) ≤ 1000 := by omega
    have hm0 : (0 : Int) ≤ (m : Int) := Int.natCast_nonneg _
    clear hm hmf
    obtain ⟨r, hr⟩ : ∃ r : Nat, (m + 8) % 64 = r := ⟨_, rfl⟩
    have hmod : ((m : Int) + 8).tmod 64 = (r : Int) := by rw [Int.tmod_eq_emod_of_nonneg (by omega)]; omega
    have HR := Lib.hid hr
    clear hr
    by_cases h0 : r = 0
    · subst h0
      have hmm : m = fillN n := fill_is (by have := HMK.out; omega) HMF.out HR.out
      have hmod0 : ((m : Int) + 8).tmod 64 = 0 := hmod
      have S3 := Lib.hid (S0.out.below (hb.out.mono HB0.out))
      have O3 := Lib.hid ((show Ow wr w.heap.size A' m c' (l ++ 128 :: List.replicate k 0) from ho.out).sl (Nat.le_refl _))
      have HZ := Lib.hid (show k = fillN n - n - 1 by have := HMK.out; omega)
      have HMM := Lib.hid hmm
      have hn0 : (0 : Int) ≤ (n : Int) := Int.natCast_nonneg _
      have hni : (n : Int) ≤ 800 := by omega
      clear hmm
      go_wp2_with fail
      refine (high_any 8 (n * 8) _ _ _ ?_ (by omega) rfl (by omega)).mono ?_
      · omega
      rintro e w4 ⟨A4, c4, rfl, ho4, hb4⟩
      have B4 := Lib.hid (hb.out.trans (hb4.mono hb.out.size))
      have O4 := Lib.hid (O3.out.below hb4)
      have P4 := Lib.hid (ho4.sl (Nat.le_refl _))
      have Z4 := Lib.hid hb4.size
      clear ho4 hb4
      go_wp2_with fail
      refine (both_any O4.out P4.out Z4.out (Nat.le_refl _) (by omega)).mono ?_
      rintro e w5 ⟨A5, c5, rfl, ho5, hb5⟩
      have B5 := Lib.hid (B4.out.trans (hb5.mono B4.out.size))
      have O5 : Hid (Ow w5 w.heap.size A5 (fillN n + 8) c5 (padW l)) := Lib.hid (by
        have h1 := Joins.ownsRow_le ho5 B4.out.size
        have e1 : padW l = l ++ 128 :: List.replicate k 0 ++ be 8 (n * 8) := by
          unfold padW
          rw [hlen.out, HZ.out, Nat.mul_comm n 8]
        rw [e1, ← HMM.out]
        exact h1)
      rw [HMM.out]
      clear ho5 hb5
      go_wp2
      go_ret
      exact ⟨A5, c5, rfl, O5.out, B5.out⟩
    · have hri : ((r : Int) != 0) = true := by simp; omega
      have hr0 : ¬ ((r : Int) = 0) := by omega
      have X4 := Lib.hid (ho.out.alloc (.cells #[.int .u8 0] 5))
      have E4 := Lib.hid (hb.out.alloc hb.out.size (.cells #[.int .u8 0] 5))
      have N4 : Hid (∀ j u, (bvs [0])[j]? = some u → (wr.alloc (.cells #[.int .u8 0] 5)).cell? ((⟨wr.heap.size, 0, none⟩ : Addr).add j) = some u) := Lib.hid (fun j u hu => by
        have h := Bl.cell (Bl.new wr 5 (bvs [0])) j
        rw [addr_add, Nat.zero_add]
        exact h.trans hu)
      have HNE : Hid (m + 1 ≤ fillN n) := Lib.hid (by
        have h1 := HMF.out
        by_cases e : m = fillN n
        · exfalso
          have := HR.out
          have := hbd.out.2.2
          rw [e] at *
          omega
        · omega)
      go_wp2_with (first
        | (at_builtin; with_reducible refine wpList_app_want rfl (.tmp 12) (.tmp 13) rfl w.heap.size (.slice A' m c') m (l ++ 128 :: List.replicate k 0) rfl X4.out ⟨wr.heap.size, 0, none⟩ 1 1 [0] rfl rfl N4.out (by omega) (by omega) E4.out.size ?_; intro v5 w5 ho5 hg5; obtain ⟨A5, c5, rfl⟩ := own_form ho5))
      go_roundw
      case rel => exact ⟨k + 1, m + 1, A5, c5, rfl, by have := HMK.out; omega, HNE.out, Lib.hid (by rw [← zeros_more]; exact ho5), Lib.hid (E4.out.grown hg5 E4.out.size (fun q hq => (X4.out.lt q hq).1))⟩
      case measure => simp; have := HNE.out; omega
end Go.Proofs.YtnkhoghdfncgpaaGreatDoor.S3
