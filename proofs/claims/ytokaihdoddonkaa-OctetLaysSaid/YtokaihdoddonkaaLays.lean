/-
  PROVED HERE: whatever x and n, confluencelaw01.OctetLays(x, n) returns true: behind whatever bytes a number of each width lies as its digits, in a row of its own. No condition.
-/
import Derived.Test.YtokaihdoddonkaaHigh
import Derived.Test.YtokaihdoddonkaaRows
import Derived.ProofKit
import Derived.OpenShut
import Derived.ChangeOld
import Derived.Carry
namespace Go.Proofs.Ytokaihdoddonkaa.octetLays
open Go.ChangeShapes Go.WideShapes Go.ChangeAt Go.RowKit
set_option linter.unusedVariables false

def sel (a b c : Nat) : Nat → Nat | 0 => a | 1 => b | _ => c
def sz : Nat → Nat := sel 2 4 8
theorem sz_le (j : Nat) : sz j ≤ 8 := by
  match j with
  | 0 => decide
  | 1 => decide
  | _ + 2 => exact Nat.le_refl 8
theorem sel_rng {a b c W R : Nat} (h1 : a < b) (h2 : b < c) (h3 : W ≤ a) (h4 : c < R) : ∀ p, p < 3 → W ≤ sel a b c p ∧ sel a b c p < R
  | 0, _ => ⟨h3, by show a < R; omega⟩
  | 1, _ => ⟨by show W ≤ b; omega, by show b < R; omega⟩
  | 2, _ => ⟨by show W ≤ c; omega, h4⟩
  | _ + 3, h => absurd h (by omega)
theorem sel_ne {a b c : Nat} (h1 : a < b) (h2 : b < c) : ∀ p j, p + 1 ≤ j → j < 3 → sel a b c j ≠ sel a b c p
  | 0, 1, _, _ => by show b ≠ a; omega
  | 0, 2, _, _ => by show c ≠ a; omega
  | 1, 2, _, _ => by show c ≠ b; omega
  | 0, 0, h, _ => absurd h (by omega)
  | 1, 0, h, _ => absurd h (by omega)
  | 1, 1, h, _ => absurd h (by omega)
  | _ + 2, 0, h, _ => absurd h (by omega)
  | _ + 2, 1, h, _ => absurd h (by omega)
  | _ + 2, 2, h, _ => absurd h (by omega)
  | _, _ + 3, _, h => absurd h (by omega)
def rowv (g m s : Nat) : Value := .slice (some ⟨g, 0, none⟩) (m + s) (m + s)
/-- What stands at the head of round p. -/
def St (w2 wr : World) (R Z a b c m : Nat) (r : List UInt8) (x p : Nat) : Prop :=
  Bl wr R 22 [rowv a m 2, rowv b m 4, rowv c m 8] ∧ Bl wr Z 3 [.int .i64 2, .int .i64 4, .int .i64 8] ∧
  (∀ j, p ≤ j → j < 3 → Bl wr (sel a b c j) 5 (bvs (r ++ be (sz j) x))) ∧ Below w2.heap.size w2 wr
theorem row_at {wr : World} {R a b c m p : Nat} (h : Bl wr R 22 [rowv a m 2, rowv b m 4, rowv c m 8]) (hp : p < 3) :
    wr.cell? ⟨R, p, none⟩ = some (.slice (some ⟨sel a b c p, 0, none⟩) (m + sz p) (m + sz p)) := by
  rw [h.cell p]
  match p, hp with
  | 0, _ => rfl
  | 1, _ => rfl
  | 2, _ => rfl
theorem size_at {wr : World} {Z p : Nat} (h : Bl wr Z 3 [.int .i64 2, .int .i64 4, .int .i64 8]) (hp : p < 3) : wr.cell? ⟨Z, p, none⟩ = some (.int .i64 (sz p : Nat)) := by
  rw [h.cell p]
  match p, hp with
  | 0, _ => rfl
  | 1, _ => rfl
  | 2, _ => rfl

set_option maxRecDepth 100000 in
set_option maxHeartbeats 2000000 in
theorem walk {A : Option Addr} {n c : Nat} {l : List UInt8} {w : World} (h : SlB w w.heap.size A n c l) (X : Int) (hX : 0 ≤ X ∧ X ≤ 18446744073709551615) :
    Calls Try.prog 3 #[.slice A n c, .int .u64 X] w fun e w' => e = .returned (.bool true) ∧ Below w.heap.size w w' := by
  obtain ⟨x, rfl⟩ := Int.eq_ofNat_of_zero_le hX.1
  have HX : Hid (x < 18446744073709551616) := by have : x < 18446744073709551616 := by omega
                                                 exact this
  clear hX
  go_enter Try.func3, Try.ntmps3
  go_wp2_with fail
  refine (wakes_any w).mono ?_
  rintro q w1 ⟨rfl, hb1⟩
  have hz1 := hb1.size
  go_wp2_with fail
  refine (own_any (h.below hb1) hz1).mono ?_
  rintro q w2 ⟨A2, c2, rfl, ho2, hb2⟩
  have hz2 := hb2.size
  have hs2 := ho2.sl (Nat.le_refl _)
  have hm : min n 600 ≤ 600 := Nat.min_le_right _ _
  have hbw : Below w.heap.size w w2 := hb1.trans (hb2.mono hz1)
  generalize hr : l.take 600 = r at *
  generalize hmm : min n 600 = m at *
  have HR := Lib.hid hr
  have HM := Lib.hid hmm
  have hrl := Lib.hid hs2.len
  clear ho2 hb2 hb1 hz1 hr hmm
  go_wp2_with fail
  refine (put_u16 hs2 (Nat.le_refl _) (x % 65536) _ (by first | omega | (rw [IntKind.wrap_u16]; omega) | (rw [IntKind.wrap_u64, IntKind.wrap_u16]; omega) | (rw [IntKind.wrap_u32]; omega) | (rw [IntKind.wrap_u64, IntKind.wrap_u32]; omega)) (by omega) (by omega)).mono ?_
  rintro q w3 ⟨g1, hg1, rfl, hp1, hb3⟩
  have hz3 := hb3.size
  go_wp2_with fail
  refine (put_u32 (hs2.below hb3) hz3 (x % 4294967296) _ (by first | omega | (rw [IntKind.wrap_u16]; omega) | (rw [IntKind.wrap_u64, IntKind.wrap_u16]; omega) | (rw [IntKind.wrap_u32]; omega) | (rw [IntKind.wrap_u64, IntKind.wrap_u32]; omega)) (by omega) (by omega)).mono ?_
  rintro q w4 ⟨g2, hg2, rfl, hp2, hb4⟩
  have hz4 := hb4.size
  have hb24 : Below w2.heap.size w2 w4 := hb3.trans (hb4.mono hz3)
  go_wp2_with fail
  refine (put_u64 (hs2.below hb24) hb24.size x _ rfl HX.out (by omega)).mono ?_
  rintro q w5 ⟨g3, hg3, rfl, hp3, hb5⟩
  have hz5 := hb5.size
  have hb25 : Below w2.heap.size w2 w5 := hb24.trans (hb5.mono hb24.size)
  have l1 := hp1.lt
  have l2 := hp2.lt
  have l3 := hp3.lt
  have p1 : Bl w5 g1 5 (bvs (r ++ be 2 x)) := by
    have := (hp1.below hb4 l1).below hb5 (by omega)
    rwa [show x % 65536 = x % 256 ^ 2 from rfl, be_mod] at this
  have p2 : Bl w5 g2 5 (bvs (r ++ be 4 x)) := by
    have := hp2.below hb5 l2
    rwa [show x % 4294967296 = x % 256 ^ 4 from rfl, be_mod] at this
  have P1 := Lib.hid p1
  have P2 := Lib.hid p2
  have P3 := Lib.hid hp3
  clear hp1 hp2 hp3 p1 p2 hb3 hb4 hb5 hb24
  go_wp2_with fail
  have q1 := Bl.new w5 22 [rowv g1 m 2, rowv g2 m 4, rowv g3 m 8]
  have q2 := q1.alloc (.cells #[.int .i64 2, .int .i64 4, .int .i64 8] 3)
  have q3 := Bl.new (w5.alloc (.cells [rowv g1 m 2, rowv g2 m 4, rowv g3 m 8].toArray 22)) 3 [.int .i64 2, .int .i64 4, .int .i64 8]
  simp only [World.size_alloc] at q3
  have st0 : St w2 ((w5.alloc (.cells [rowv g1 m 2, rowv g2 m 4, rowv g3 m 8].toArray 22)).alloc (.cells #[.int .i64 2, .int .i64 4, .int .i64 8] 3)) w5.heap.size (w5.heap.size + 1) g1 g2 g3 m r x 0 := by
    refine ⟨q2, q3, fun j _ hj => ?_, (hb25.alloc hb25.size _).alloc (by simp; have := hb25.size; omega) _⟩
    match j, hj with
    | 0, _ => exact (P1.out.alloc _).alloc _
    | 1, _ => exact (P2.out.alloc _).alloc _
    | 2, _ => exact (P3.out.alloc _).alloc _
  have ST0 := Lib.hid st0
  have hg12 : g1 < g2 := by omega
  have hg23 : g2 < g3 := by omega
  have hg3R : g3 < w5.heap.size := l3
  have hgw : w2.heap.size ≤ g1 := hg1
  generalize w5.heap.size = R at *
  clear st0 q1 q2 q3 P1 P2 P3 hb25 l1 l2 l3 hg1 hg2 hg3 hz3 hz4 hz5
  have hww := hbw.size
  go_loopw [28] (fun i wr => ∃ p : Nat, p ≤ 3 ∧ i = .int .i64 p ∧ Hid (St w2 wr R (R + 1) g1 g2 g3 m r x p)) (fun i _ => 3 - (intOf i).toNat)
  case atStart => exact ⟨0, by omega, rfl, ST0⟩
  case round =>
    obtain ⟨p, hp, rfl, hst⟩ := hrel
    by_cases hlt : p < 3
    · obtain ⟨hR, hZ, hrows, hbr⟩ := hst.out
      have hcR := row_at hR hlt
      have hcZ := size_at hZ hlt
      have hrow := Lib.hid (hrows p (Nat.le_refl _) hlt)
      have hsz8 := sz_le p
      have hrl2 := hbr.size
      have hxr := h.below (hbw.trans (hbr.mono hww))
      have hsel := sel_rng (W := w2.heap.size) hg12 hg23 hgw hg3R p hlt
      have hneq := fun j h1 h2 => sel_ne hg12 hg23 p j h1 h2
      have HNE := Lib.hid hneq
      have hkeep : Hid (∀ j, p + 1 ≤ j → j < 3 → Bl wr (sel g1 g2 g3 j) 5 (bvs (r ++ be (sz j) x))) := fun j h1 h2 => hrows j (by omega) h2
      have HR2 := Lib.hid hR
      have HZ2 := Lib.hid hZ
      clear hneq hrows hR hZ hst
      generalize hge : sel g1 g2 g3 p = g at *
      generalize hse : sz p = s at *
      clear hge hse
      have hRlt : R < wr.heap.size := HR2.out.lt
      have hp3 : (p : Int) < 3 := by omega
      go_upto_region 8 with fail
      go_cut [44] (fun b wx => b = .bool false ∧ Below wr.heap.size wr wx)
      case first =>
        go_region_with (first
          | (go_at_call 11; refine (own_is hxr.drew (by exact Nat.le_trans hww hrl2) m r HM.out HR.out).mono ?_; rintro q w6 ⟨A6, c6, rfl, ho6, hb6⟩; have hc6 := (hb6.cell (p := ⟨R, p, none⟩) (by exact hRlt)).trans hcR; have hz6 : wr.heap.size ≤ w6.heap.size := hb6.size)
          | (go_at_call 17; refine (high_any s x _ _ _ rfl HX.out rfl (by omega)).mono ?_; rintro q w7 ⟨A7, c7, rfl, ho7, hb7⟩; have hc7 := (hb7.cell (p := ⟨R, p, none⟩) (by show R < w6.heap.size; omega)).trans hc6; have hz7 := hb7.size)
          | (go_at_call 16; refine (both_any ((ho6.sl (Nat.le_refl _)).below hb7) (ho7.sl (Nat.le_refl _)) hz7 (Nat.le_refl _) (by omega)).mono ?_; rintro q w8 ⟨A8, c8, rfl, ho8, hb8⟩; have hc8 := (hb8.cell (p := ⟨R, p, none⟩) (by show R < w7.heap.size; omega)).trans hc7; have hz8 := hb8.size)
          | (go_at_call 15; have hb68 : Below wr.heap.size wr w8 := ((Below.refl _ _).drew.trans hb6).trans ((hb7.mono hz6).trans (hb8.mono (Nat.le_trans hz6 hz7))); have hs8 := Bl.sl (B := w8.heap.size) (hrow.out.below hb68 (by omega)) (by omega) (by simp [be_len, hrl.out, maxLen]; omega); rw [List.length_append, be_len, hrl.out] at hs8; refine (same_is hs8 (ho8.sl (Nat.le_refl _)) true (by simp)).mono ?_; rintro q w9 ⟨rfl, k9, rfl⟩))
        all_goals
          go_wp2_with fail
          go_meet
          exact ⟨rfl, below_drewN hb68 k9⟩
      case rest =>
        obtain ⟨rfl, hbc⟩ := hcut
        have hRc := HR2.out.below hbc hRlt
        have hZc := HZ2.out.below hbc HZ2.out.lt
        have hgc := hrow.out.below hbc (by omega)
        have hgl := hgc.lt
        have hcRc := (hbc.cell (p := ⟨R, p, none⟩) (by show R < wr.heap.size; omega)).trans hcR
        have hbrc : Below w2.heap.size w2 wc := hbr.trans (hbc.mono hrl2)
        have hlb : Hid ((r ++ be s x).length = m + s) := by
          have : (r ++ be s x).length = m + s := by rw [List.length_append, be_len, hrl.out]
          exact this
        have hG0 := only_refl wc (some g)
        have HGC := Lib.hid hgc
        have HRC := Lib.hid hRc
        have HZC := Lib.hid hZc
        clear hcR hcZ hgc hRc hZc HR2 HZ2 hrow
        go_wp2_with fail
        go_loopw [50] (fun j wv => ∃ (v : Nat) (l' : List UInt8), v ≤ m + s ∧ j = .int .i64 v ∧ l'.length = m + s ∧ Hid (Bl wv g 5 (bvs l')) ∧ wc.grownBy wv (some g)) (fun j _ => m + s - (intOf j).toNat)
        case atStart => exact ⟨0, _, Nat.zero_le _, rfl, hlb.out, HGC, hG0⟩
        case round =>
          obtain ⟨v, l', hv, rfl, hl', hbv, hGv⟩ := hrel
          by_cases hvl : v < m + s
          · have HL' := Lib.hid hl'
            clear hl'
            have hcv := hbv.out.cell v
            have hvl' : v < l'.length := by rw [HL'.out]; exact hvl
            rw [show (bvs l')[v]? = some (.int .u8 (l'[v].toNat : Int)) by simp [bvs, bv, List.getElem?_eq_getElem hvl']] at hcv
            have hfv := hbv.out.frozen v
            have hcRv := hGv.cell hcRc (by simp; omega)
            have hby := l'[v].toNat_lt
            have hset : Hid (Bl (wr.setCell ⟨g, v, none⟩ (bv (l'[v] + 1))) g 5 (bvs (l'.set v (l'[v] + 1)))) := by
              have := hbv.out.set_ v (bv (l'[v] + 1))
              rw [show (bvs l').set v (bv (l'[v] + 1)) = bvs (l'.set v (l'[v] + 1)) by simp [bvs, List.map_set]] at this
              exact this
            have hval : Hid (((l'[v].toNat : Int) + 1) % 256 = ((l'[v] + 1).toNat : Int)) := by
              have : ((l'[v].toNat : Int) + 1) % 256 = ((l'[v] + 1).toNat : Int) := by
                rw [UInt8.toNat_add]; simp
              exact this
            go_wp2_with fail
            have hval2 : Value.int .u8 (((l'[v].toNat : Int) + 1) % 256) = bv (l'[v] + 1) := by rw [hval.out]; rfl
            rw [hval2]
            exact ⟨⟨v + 1, l'.set v (l'[v] + 1), by omega, rfl, by rw [List.length_set, HL'.out], hset, only_set (p := ⟨g, v, none⟩) hGv rfl _⟩, by simp [intOf]; omega⟩
          · have st1 : St w2 wr R (R + 1) g1 g2 g3 m r x (p + 1) := by
              refine ⟨HRC.out.grown hGv (by simp; omega), HZC.out.grown hGv (by simp; omega), fun j h1 h2 => ?_, hbrc.trans (below_of_only hGv hsel.1 hbrc.size)⟩
              have hk := hkeep.out j h1 h2
              have hne := HNE.out j h1 h2
              exact (hk.below hbc hk.lt).grown hGv (by simpa using hne)
            have ST1 := Lib.hid st1
            clear st1
            go_wp2_with fail
            go_roundw
            case rel => exact ⟨p + 1, by omega, by go_num, ST1⟩
            case measure => simp [intOf]; omega
    · obtain rfl : p = 3 := by omega
      obtain ⟨hR, hZ, hrows, hbr⟩ := hst.out
      have hs3 := hs2.below hbr
      have hxr := h.below (hbw.trans (hbr.mono hww))
      have hsz := hbr.size
      have hbfin : Below w.heap.size w wr := hbw.trans (hbr.mono hww)
      clear hR hZ hrows hst
      go_wp2_with fail
      refine (own_is hxr (Nat.le_trans hww hsz) m r HM.out HR.out).mono ?_
      rintro q w6 ⟨A6, c6, rfl, ho6, hb6⟩
      go_wp2_with fail
      refine (same_is (hs3.below (hb6.mono hsz)) (ho6.sl (Nat.le_refl _)) true (by simp)).mono ?_
      rintro q w7 ⟨rfl, k7, rfl⟩
      go_wp2_with fail
      go_ret
      exact ⟨rfl, below_drewN (hbfin.trans (hb6.mono (Nat.le_trans hww hsz))) k7⟩

theorem own : ownKnob Try.prog.godebug = none := by kernel_rfl
theorem laidOut : laidOutB Try.prog = true := by kernel_rfl

set_option maxRecDepth 100000 in
theorem lifted (os : Os) (started : os.Started) (H : Type) (enc : TypeId × Value → H) :
    ReturnsInHanded {} Try.checked os 3 .any (Rows.octetLaysSpec.pre6 enc Try.prog Try.f3 Rows.octetLaysRow.domain false) (Rows.octetLaysSpec.post enc Try.prog Try.f3 false true false false) := by
  refine returnsInHanded_of_change (C := Try.checked) own started (by kernel_rfl) Try.func3
    (ChangeSpec.witness6 (enc := enc) (C := Try.checked) false ⟨#[], #[.slice none 0 0, .int .u64 0], []⟩ 8 (by kernel_rfl) (by kernel_rfl) (by kernel_rfl) (by kernel_rfl)) ?_
  intro W base args ds gs before hval0 hW hcnd _
  have hval : ∀ (j : Nat) t v, Try.f3.params[j]? = some t → args[j]? = some v → Value.okWide Try.prog W .any base t v := hval0
  have hW' := hW
  obtain ⟨p, q, hA0, hV, rfl, hfz, hnd⟩ := hW
  have hA : DataW.TrodAll enc Try.prog W 0 (fun _ => true) true Try.f3.params.toList args.toList ds p := hA0
  rw [Try.params3] at hA hval
  obtain ⟨v0, vs0, d0, ds0, p0, q0, hargs, rfl, rfl, h0, r0⟩ := trodAll_cons hA
  obtain ⟨v1, vs1, d1, ds1, p1, q1, rfl, rfl, rfl, h1, r1⟩ := trodAll_cons r0
  obtain ⟨rfl, rfl, rfl⟩ := trodAll_nil r1
  obtain rfl : args = #[v0, v1] := by cases args; simp_all
  obtain ⟨rfl, rfl⟩ := trodVars_none hV
  have k0 := h0
  have lt0 : ∀ x ∈ p0, x.block < W.heap.size := by obtain ⟨m, hm⟩ := k0; exact DataW.trod_lt m _ _ _ hm
  obtain ⟨a0, len0, cap0, rfl⟩ := okWide_slice Try.underlying22 (hval 0 22 v0 rfl rfl)
  obtain ⟨l0, s0⟩ : ∃ l, SlB W W.heap.size a0 len0 cap0 l := by
    obtain ⟨fuel, hf⟩ := h0
    rcases open_ints Try.underlying22 Try.underlying5 (by kernel_rfl) hf with ⟨hcs, _⟩ | ⟨x, l, c, zs, hcs, _, hl, hm, hz, _, hcell, hwz⟩
    · simp [Value.cells] at hcs
      obtain ⟨rfl, rfl, rfl⟩ := hcs
      exact ⟨[], SlB.nil_⟩
    · simp [Value.cells] at hcs
      obtain ⟨rfl, rfl, rfl⟩ := hcs
      exact sl_arg hl hm (by simpa using hz) hcell hwz
  have k1 := h1
  have lt1 : ∀ x ∈ p1, x.block < W.heap.size := by obtain ⟨m, hm⟩ := k1; exact DataW.trod_lt m _ _ _ hm
  obtain ⟨a1, rfl, e1, f1, w1⟩ := open_int Try.underlying23 (hval 1 23 v1 rfl rfl) h1
  have b1 := bounds_u64 w1
  clear hA0 hval0
  refine (walk s0 a1 b1).mono fun e W' ⟨he, bel⟩ => ?_
  subst he
  exact ⟨_, rfl, _, _, _, [], _, [], hW', trodAll_mk1 (shut_bool Try.underlying4 _), (trodAll_cons_mk (Below.trod laidOut (by kernel_rfl) (of_decide_eq_true (by kernel_rfl)) k0 bel lt0) (trodAll_cons_mk (Below.trod laidOut (by kernel_rfl) (of_decide_eq_true (by kernel_rfl)) k1 bel lt1) trodAll_mk0)), rfl, bel.frame _, fun h => by cases h⟩

theorem over : Rows.octetLaysRow.holds Try.pinned (OpenSpec.ofChange Rows.octetLaysSpec) :=
  OpenClaim.holds_of_wide 3 Try.f3 rfl rfl rfl rfl rfl rfl rfl ⟨rfl, rfl, rfl, rfl, rfl⟩ rfl rfl rfl rfl rfl (by kernel_rfl) Try.func3 (by kernel_rfl)
    (of_decide_eq_true (by kernel_rfl)) (by unfold Func.isWrapper; first | (rw [if_pos (by decide +kernel)]; kernel_rfl) | (rw [if_neg (by decide +kernel)]; exact ⟨rfl, rfl⟩))
    (fun os started H enc _ => lifted os started H enc)

theorem proved : Rows.OctetLaysSaid := over
#print axioms proved
end Go.Proofs.Ytokaihdoddonkaa.octetLays
