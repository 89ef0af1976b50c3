/-
  PROVED HERE: whatever l and behind, confluencelaw01.OctetThrough(l, behind) returns true: numbers that were put one behind the other are taken off as they were, and then what stood behind them. No condition.
-/
import Derived.Test.YtokaihdoddonkaaCat
import Derived.Test.YtokaihdoddonkaaCmp
import Derived.Test.YtokaihdoddonkaaRows
import Derived.ProofKit
import Derived.OpenShut
import Derived.ChangeOld
import Derived.Carry
namespace Go.Proofs.Ytokaihdoddonkaa.octetThrough
open Go.ChangeShapes Go.WideShapes Go.ChangeAt Go.RowKit
set_option linter.unusedVariables false

open Go.Proofs.Ytokaihdoddonkaa

/-- What one number of the law lays. -/
def item (z : Nat) : List UInt8 := be 4 (z / 128 % 4294967296) ++ be 2 (z / 8 % 65536) ++ be 8 z
def items (l : List Nat) : List UInt8 := l.flatMap item
theorem item_len (z : Nat) : (item z).length = 14 := by simp [item, be_len]
theorem items_snoc (l : List Nat) (z : Nat) : items (l ++ [z]) = items l ++ item z := by simp [items]
theorem items_len (l : List Nat) : (items l).length = 14 * l.length := by
  induction l with
  | nil => rfl
  | cons z l ih => simp only [items, List.flatMap_cons, List.length_append, item_len, List.length_cons] at *; omega

set_option maxRecDepth 100000 in
set_option maxHeartbeats 1000000 in
theorem walk {A A' : Option Addr} {n c n' c' : Nat} {l : List Nat} {l' : List UInt8} {w : World} (h : SlV w w.heap.size A n c (u64s l)) (hz : ∀ z ∈ l, z < 18446744073709551616) (h' : SlB w w.heap.size A' n' c' l') :
    Calls Try.prog 7 #[.slice A n c, .slice A' n' c'] w fun e w' => e = .returned (.bool true) ∧ Below w.heap.size w w' := by
  have hm := h.cap
  have hmm := h.max
  unfold maxLen at hmm
  have hk : (min (n : Int) 60).toNat = min n 60 := by omega
  have hK := Lib.hid hk
  clear hk
  go_enter Try.func7, Try.ntmps7
  go_wp2_with fail
  refine (wakes_any w).mono ?_
  rintro x w1 ⟨rfl, hb1⟩
  have hz1 := hb1.size
  go_upto_region 3 with fail
  have hK2 := hK.out
  have hK3 : 0 ≤ min (n : Int) 60 := by omega
  have hK4 : min (n : Int) 60 ≤ (c : Int) := by omega
  go_cut [0, 1] (fun s0 s1 wx => s0 = .slice A (min n 60) c ∧ ∃ A2 c2, s1 = .slice A2 (min n' 600) c2 ∧ SlB wx wx.heap.size A2 (min n' 600) c2 (l'.take 600) ∧ Below w.heap.size w wx)
  case first =>
    go_region_with (go_at_call 11; refine (own_any (h'.below hb1).drew (by exact hz1)).mono ?_; rintro x w2 ⟨A2, c2, rfl, ho2, hb2⟩)
    all_goals
      go_wp2_with fail
      go_meet
      exact ⟨rfl, A2, c2, rfl, ho2.sl (Nat.le_refl _), hb1.trans ((Below.refl _ _).drew.trans (hb2.mono hz1))⟩
  case rest =>
    obtain ⟨rfl, A2, c2, rfl, hs2, hbw⟩ := hcut
    have hT := (h.take (k := min n 60) (Nat.min_le_left _ _)).below hbw
    have hT2 : (u64s l).take (min n 60) = u64s (l.take (min n 60)) := by simp [u64s, List.map_take]
    rw [hT2] at hT
    have hz2 : ∀ z ∈ l.take (min n 60), z < 18446744073709551616 := fun z hh => hz z (List.mem_of_mem_take hh)
    have hm60 : min n 60 ≤ 60 := Nat.min_le_right _ _
    have hr600 : min n' 600 ≤ 600 := Nat.min_le_right _ _
    clear hK hK2 hK3 hK4 hT2
    generalize l.take (min n 60) = zs at *
    generalize l'.take 600 = r at *
    generalize min n 60 = m at *
    generalize min n' 600 = rn at *
    have hzl : Hid (zs.length = m) := by have := hT.len; rw [u64s, List.length_map] at this; exact this
    have HT := Lib.hid hT
    have HZ := Lib.hid hz2
    clear hT hz2 hz h h' hm hmm
    have hwz := hbw.size
    go_wp2_with fail
    go_loopw [5, 22] (fun b i wr => ∃ (q : Nat) (A : Option Addr) (c : Nat), q ≤ m ∧ i = .int .i64 q ∧ b = .slice A (14 * q) c ∧ SlB wr wr.heap.size A (14 * q) c (items (zs.take q)) ∧ Below wc.heap.size wc wr) (fun _ i _ => m - (intOf i).toNat)
    case atStart => exact ⟨0, none, 0, Nat.zero_le _, rfl, rfl, SlB.nil_, Below.refl _ _⟩
    case round =>
      obtain ⟨q, A1, c1, hq, rfl, rfl, hs, hbr⟩ := hrel
      have hsz := hbr.size
      by_cases hlt : q < m
      · have hqz : q < zs.length := by rw [hzl.out]; exact hlt
        have hq64 := HZ.out zs[q] (List.getElem_mem hqz)
        obtain ⟨bb, o, rfl, hbb, hc⟩ := HT.out.pos (by omega)
        have hcq := ((hbw.trans (hbr.mono hwz)).mono (Nat.le_refl _)).cell (p := ⟨bb, o + q, none⟩) hbb
        have hcq2 := (hbr.mono hwz).cell (p := ⟨bb, o + q, none⟩) hbb
        have hcq3 := hc q (by rw [u64s, List.length_map]; exact hqz)
        rw [← hcq2] at hcq3
        simp only [u64s, List.getElem_map] at hcq3
        clear hcq hcq2 hc
        have HI : Hid (items (zs.take (q + 1)) = items (zs.take q) ++ item zs[q]) := by
          rw [List.take_succ_eq_append_getElem hqz, items_snoc]; exact rfl
        generalize hzq : zs[q] = z at *
        clear hzq
        go_wp2_with fail
        refine (put_u32 hs (Nat.le_refl _) (z / 128 % 4294967296) _ (by first | omega | (rw [IntKind.wrap_u16]; omega) | (rw [IntKind.wrap_u64, IntKind.wrap_u16]; omega) | (rw [IntKind.wrap_u32]; omega) | (rw [IntKind.wrap_u64, IntKind.wrap_u32]; omega)) (by omega) (by omega)).mono ?_
        rintro x w2 ⟨g2, hg2, rfl, hp2, hb2⟩
        have hz2' := hb2.size
        have hs2' := Bl.sl (B := w2.heap.size) hp2 hp2.lt (by rw [List.length_append, be_len]; have := hs.len; unfold maxLen; omega)
        rw [List.length_append, be_len, hs.len] at hs2'
        go_wp2_with fail
        refine (put_u16 hs2' (Nat.le_refl _) (z / 8 % 65536) _ (by first | omega | (rw [IntKind.wrap_u16]; omega) | (rw [IntKind.wrap_u64, IntKind.wrap_u16]; omega) | (rw [IntKind.wrap_u32]; omega) | (rw [IntKind.wrap_u64, IntKind.wrap_u32]; omega)) (by omega) (by omega)).mono ?_
        rintro x w3 ⟨g3, hg3, rfl, hp3, hb3⟩
        have hz3' := hb3.size
        have hs3' := Bl.sl (B := w3.heap.size) hp3 hp3.lt (by rw [List.length_append, List.length_append, be_len, be_len]; have := hs.len; unfold maxLen; omega)
        rw [List.length_append, List.length_append, be_len, be_len, hs.len] at hs3'
        go_wp2_with fail
        refine (put_u64 hs3' (Nat.le_refl _) z _ rfl (by omega) (by omega)).mono ?_
        rintro x w4 ⟨g4, hg4, rfl, hp4, hb4⟩
        have hz4' := hb4.size
        have hs4' := Bl.sl (B := w4.heap.size) hp4 hp4.lt (by rw [List.length_append, List.length_append, List.length_append, be_len, be_len, be_len]; have := hs.len; unfold maxLen; omega)
        rw [List.length_append, List.length_append, List.length_append, be_len, be_len, be_len, hs.len] at hs4'
        have HS4 := Lib.hid hs4'
        clear hs4' hs2' hs3' hp2 hp3 hp4 hg2 hg3 hg4
        go_wp2_with fail
        go_roundw
        case rel =>
          refine ⟨q + 1, some ⟨g4, 0, none⟩, 14 * q + 4 + 2 + 8, by omega, by go_num, by rw [show 14 * (q + 1) = 14 * q + 4 + 2 + 8 by omega], ?_, ?_⟩
          · have := HS4.out
            rw [HI.out, item, show 14 * (q + 1) = 14 * q + 4 + 2 + 8 by omega, ← List.append_assoc, ← List.append_assoc]
            exact this
          · exact hbr.trans ((hb2.mono hsz).trans ((hb3.mono (Nat.le_trans hsz hz2')).trans (hb4.mono (Nat.le_trans hsz (Nat.le_trans hz2' hz3')))))
        case measure => simp [intOf]; omega
      · obtain rfl : q = m := by omega
        have hze : zs.take q = zs := List.take_of_length_le (by rw [hzl.out]; omega)
        rw [hze] at hs
        clear hze hlt hq
        have hs2r := (hs2.below hbr).more hsz
        go_wp2_with fail
        refine (concat2 hs hs2r (Nat.le_refl _) (by omega)).mono ?_
        rintro x w5 ⟨A5, c5, rfl, ho5, hb5⟩
        have hz5 := hb5.size
        go_wp2_with fail
        refine (read_any (ho5.sl (Nat.le_refl _)) (Nat.le_refl _) (by omega)).mono ?_
        rintro x w6 ⟨g, hg6, rfl, hR, hb6⟩
        have hz6 := hb6.size
        have hb06 : Below wc.heap.size wc w6 := hbr.trans ((hb5.mono hsz).trans (hb6.mono (Nat.le_trans hsz hz5)))
        have HR := Lib.hid hR
        clear hR ho5 hs hs2r hb5 hb6 hbr
        have hg0 : wc.heap.size ≤ g := by omega
        go_wp2_with fail
        go_loopw [45] (fun i wr => ∃ (p : Nat), p ≤ q ∧ i = .int .i64 p ∧ Hid (Rd wr g (items (zs.drop p) ++ r) 0) ∧ w6.grownBy wr (some g)) (fun i _ => q - (intOf i).toNat)
        case atStart => exact ⟨0, Nat.zero_le _, rfl, HR, only_refl _ _⟩
        case round =>
          obtain ⟨p, hp, rfl, hRp, hGp⟩ := hrel
          by_cases hlt : p < q
          · have hpz : p < zs.length := by rw [hzl.out]; exact hlt
            have hp64 := HZ.out zs[p] (List.getElem_mem hpz)
            obtain ⟨bb, o, rfl, hbb, hc⟩ := HT.out.pos (by omega)
            have hcp3 := hc p (by rw [u64s, List.length_map]; exact hpz)
            have hbG : Below wc.heap.size w6 wr := below_of_only hGp hg0 hb06.size
            rw [← ((hb06.trans hbG).mono hwz).cell (p := ⟨bb, o + p, none⟩) hbb] at hcp3
            simp only [u64s, List.getElem_map] at hcp3
            clear hc
            have hI : items (zs.drop p) = item zs[p] ++ items (zs.drop (p + 1)) := by
              rw [List.drop_eq_getElem_cons hpz]; rfl
            have hR1 := hRp.out
            rw [hI] at hR1
            generalize hzq : zs[p] = z at *
            generalize items (zs.drop (p + 1)) ++ r = rest at *
            have e0 : item z ++ items (zs.drop (p + 1)) ++ r = be 4 (z / 128 % 4294967296) ++ (be 2 (z / 8 % 65536) ++ (be 8 z ++ (items (zs.drop (p + 1)) ++ r))) := by simp [item]
            rw [e0] at hR1
            obtain ⟨t1, t2, t3⟩ := offT_at (be 4 (z / 128 % 4294967296)) (be 2 (z / 8 % 65536) ++ (be 8 z ++ (items (zs.drop (p + 1)) ++ r))) 4 4 rfl (be_len _ _)
            have c1 := take_u32 hR1
            rw [t1, t2, t3, num_be] at c1
            have C1 := Lib.hid c1
            clear c1 t1 t2 t3 hI e0 hzq hR1
            go_wp2_with fail
            refine C1.out.mono ?_
            rintro x w7 ⟨rfl, hR7, hG7⟩
            obtain ⟨t1, t2, t3⟩ := offT_at (be 2 (z / 8 % 65536)) (be 8 z ++ (items (zs.drop (p + 1)) ++ r)) 2 2 rfl (be_len _ _)
            have c2 := take_u16 hR7
            rw [t1, t2, t3, num_be] at c2
            have C2 := Lib.hid c2
            clear c2 t1 t2 t3 hR7 C1
            go_wp2_with fail
            refine C2.out.mono ?_
            rintro x w8 ⟨rfl, hR8, hG8⟩
            obtain ⟨t1, t2, t3⟩ := offT_at (be 8 z) (items (zs.drop (p + 1)) ++ r) 8 8 rfl (be_len _ _)
            have c3 := take_u64 hR8
            rw [t1, t2, t3, num_be, Nat.mod_eq_of_lt (by omega)] at c3
            have C3 := Lib.hid c3
            clear c3 t1 t2 t3 hR8 C2
            go_wp2_with fail
            refine C3.out.mono ?_
            rintro x w9 ⟨rfl, hR9, hG9⟩
            have HR9 := Lib.hid hR9
            clear hR9 C3
            go_wp2_with fail
            go_roundw
            case rel => exact ⟨p + 1, by omega, by go_num, HR9, only_trans hGp (only_trans hG7 (only_trans hG8 hG9))⟩
            case measure => simp [intOf]; omega
          · obtain rfl : p = q := by omega
            have hze : zs.drop p = [] := List.drop_eq_nil_of_le (by rw [hzl.out]; omega)
            have hR1 := hRp.out
            rw [hze] at hR1
            simp only [items, List.flatMap_nil, List.nil_append] at hR1
            have hbG : Below wc.heap.size w6 wr := below_of_only hGp hg0 hb06.size
            have hbN : Below wc.heap.size wc wr := hb06.trans hbG
            have hsN := hs2.below hbN
            have hrl := Lib.hid hs2.len
            clear hRp hze HR HT HZ hzl hs2 hb06 hbG hGp hlt hp
            go_wp2_with fail
            refine (left_any hR1).mono ?_
            rintro x w7 ⟨rfl, k7, rfl⟩
            rw [hrl.out]
            go_wp2_with fail
            have hR2 := hR1.drewN k7
            have c2 := raw_any hR2 (rn : Int) (by omega) (by rw [hrl.out]; omega)
            obtain ⟨t1, t2, t3⟩ := offT_at r [] rn rn rfl hrl.out
            rw [List.append_nil] at t1 t2 t3
            rw [t1, t2, t3, hrl.out] at c2
            have C2 := Lib.hid c2
            clear c2 t1 t2 t3 hR1
            refine C2.out.mono ?_
            rintro x w8 ⟨b8, hb8, rfl, hB8, hR8, hG8⟩
            have hb8g : Below wc.heap.size (wr.drewN k7) w8 := below_of_only hG8 hg0 (by exact hbN.size)
            have hs8 := Bl.sl (B := w8.heap.size) hB8 hB8.lt (by rw [hrl.out]; unfold maxLen; omega)
            rw [hrl.out] at hs8
            have hsN8 := (hsN.drewN k7).below hb8g
            go_wp2_with fail
            refine (bytesEqual_is hs8 hsN8 true (by simp)).mono ?_
            rintro x w9 ⟨rfl, rfl⟩
            go_wp2_with fail
            refine (left_any hR8).mono ?_
            rintro x w9 ⟨rfl, k9, rfl⟩
            go_wp2_with fail
            refine (err_any (hR8.drewN k9)).mono ?_
            rintro x w9 ⟨rfl, rfl⟩
            go_wp2_with fail
            go_ret
            refine ⟨?_, below_drewN (hbw.trans (((below_drewN hbN k7).trans hb8g).mono hwz)) k9⟩
            rfl

theorem own : ownKnob Try.prog.godebug = none := by kernel_rfl
theorem laidOut : laidOutB Try.prog = true := by kernel_rfl

set_option maxRecDepth 100000 in
theorem lifted (os : Os) (started : os.Started) (H : Type) (enc : TypeId × Value → H) :
    ReturnsInHanded {} Try.checked os 7 .any (Rows.octetThroughSpec.pre6 enc Try.prog Try.f7 Rows.octetThroughRow.domain false) (Rows.octetThroughSpec.post enc Try.prog Try.f7 false true false false) := by
  refine returnsInHanded_of_change (C := Try.checked) own started (by kernel_rfl) Try.func7
    (ChangeSpec.witness6 (enc := enc) (C := Try.checked) false ⟨#[], #[.slice none 0 0, .slice none 0 0], []⟩ 8 (by kernel_rfl) (by kernel_rfl) (by kernel_rfl) (by kernel_rfl)) ?_
  intro W base args ds gs before hval0 hW hcnd _
  have hval : ∀ (j : Nat) t v, Try.f7.params[j]? = some t → args[j]? = some v → Value.okWide Try.prog W .any base t v := hval0
  have hW' := hW
  obtain ⟨p, q, hA0, hV, rfl, hfz, hnd⟩ := hW
  have hA : DataW.TrodAll enc Try.prog W 0 (fun _ => true) true Try.f7.params.toList args.toList ds p := hA0
  rw [Try.params7] at hA hval
  obtain ⟨v0, vs0, d0, ds0, p0, q0, hargs, rfl, rfl, h0, r0⟩ := trodAll_cons hA
  obtain ⟨v1, vs1, d1, ds1, p1, q1, rfl, rfl, rfl, h1, r1⟩ := trodAll_cons r0
  obtain ⟨rfl, rfl, rfl⟩ := trodAll_nil r1
  obtain rfl : args = #[v0, v1] := by cases args; simp_all
  obtain ⟨rfl, rfl⟩ := trodVars_none hV
  have k0 := h0
  have lt0 : ∀ x ∈ p0, x.block < W.heap.size := by obtain ⟨m, hm⟩ := k0; exact DataW.trod_lt m _ _ _ hm
  obtain ⟨a0, len0, cap0, rfl⟩ := okWide_slice Try.underlying58 (hval 0 58 v0 rfl rfl)
  obtain ⟨l0, s0, b0⟩ : ∃ l : List Nat, SlV W W.heap.size a0 len0 cap0 (u64s l) ∧ ∀ z ∈ l, z < 18446744073709551616 := by
    obtain ⟨fuel, hf⟩ := h0
    rcases open_ints Try.underlying58 Try.underlying23 (by kernel_rfl) hf with ⟨hcs, _⟩ | ⟨x, l, c, zs, hcs, _, hl, hm, hz, _, hcell, hwz⟩
    · simp [Value.cells] at hcs
      obtain ⟨rfl, rfl, rfl⟩ := hcs
      exact ⟨[], SlV.nil_, by simp⟩
    · simp [Value.cells] at hcs
      obtain ⟨rfl, rfl, rfl⟩ := hcs
      exact slu_arg hl hm (by simpa using hz) hcell hwz
  have k1 := h1
  have lt1 : ∀ x ∈ p1, x.block < W.heap.size := by obtain ⟨m, hm⟩ := k1; exact DataW.trod_lt m _ _ _ hm
  obtain ⟨a1, len1, cap1, rfl⟩ := okWide_slice Try.underlying22 (hval 1 22 v1 rfl rfl)
  obtain ⟨l1, s1⟩ : ∃ l, SlB W W.heap.size a1 len1 cap1 l := by
    obtain ⟨fuel, hf⟩ := h1
    rcases open_ints Try.underlying22 Try.underlying5 (by kernel_rfl) hf with ⟨hcs, _⟩ | ⟨x, l, c, zs, hcs, _, hl, hm, hz, _, hcell, hwz⟩
    · simp [Value.cells] at hcs
      obtain ⟨rfl, rfl, rfl⟩ := hcs
      exact ⟨[], SlB.nil_⟩
    · simp [Value.cells] at hcs
      obtain ⟨rfl, rfl, rfl⟩ := hcs
      exact sl_arg hl hm (by simpa using hz) hcell hwz
  clear hA0 hval0
  refine (walk s0 b0 s1).mono fun e W' ⟨he, bel⟩ => ?_
  subst he
  exact ⟨_, rfl, _, _, _, [], _, [], hW', trodAll_mk1 (shut_bool Try.underlying4 _), (trodAll_cons_mk (Below.trod laidOut (by kernel_rfl) (of_decide_eq_true (by kernel_rfl)) k0 bel lt0) (trodAll_cons_mk (Below.trod laidOut (by kernel_rfl) (of_decide_eq_true (by kernel_rfl)) k1 bel lt1) trodAll_mk0)), rfl, bel.frame _, fun h => by cases h⟩

theorem over : Rows.octetThroughRow.holds Try.pinned (OpenSpec.ofChange Rows.octetThroughSpec) :=
  OpenClaim.holds_of_wide 7 Try.f7 rfl rfl rfl rfl rfl rfl rfl ⟨rfl, rfl, rfl, rfl, rfl⟩ rfl rfl rfl rfl rfl (by kernel_rfl) Try.func7 (by kernel_rfl)
    (of_decide_eq_true (by kernel_rfl)) (by unfold Func.isWrapper; first | (rw [if_pos (by decide +kernel)]; kernel_rfl) | (rw [if_neg (by decide +kernel)]; exact ⟨rfl, rfl⟩))
    (fun os started H enc _ => lifted os started H enc)

theorem proved : Rows.OctetThroughSaid := over
#print axioms proved
end Go.Proofs.Ytokaihdoddonkaa.octetThrough
