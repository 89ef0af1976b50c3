/-
  THE DIGEST THAT A TEXT SAYS.
-/
import Derived.Test.YtgjkahoblopddaaDoorRune
import Derived.ScopeJumps
namespace Go.Proofs.YtgjkahoblopddaaDoor
set_option linter.unusedVariables false
set_option linter.unusedSimpArgs false
open Go.RowKit Go.WideShapes Go.ChangeShapes

theorem results_cell_tmp {P : Program} {fn : Func} {p t : Tmp} {ty : TypeId} (h : fn.results = #[.cell p ty, .tmp t]) (tmps : Array Value) (w : World) (b o : Nat) (cs : List Value) (d : TypeDesc)
    (hp : tmps.getD p undef = .pointer (some ⟨b, o, none⟩)) (hc : w.rangeAt b o cs) (hu : P.underlying ty = some d) (hd : d.isRow = true) (hi : (P.info? ty).map (·.size) = some cs.length) :
    (results fn tmps).run P w = .ok (.tuple #[.agg cs.toArray, tmps.getD t undef]) w := by
  have hp' : tmps[p]?.getD undef = .pointer (some ⟨b, o, none⟩) := by simpa using hp
  simp [results, h, hp', asAddr, run_loadVar_mid w b o ty cs d hc hu hd hi]
theorem Lies.keep {W W' : World} {b k : Nat} {l : List Value} (h : Lies W b k l) (hk : W'.heap[b]? = W.heap[b]?) (hz : W.heap.size ≤ W'.heap.size) : Lies W' b k l :=
  ⟨rangeAt_keep h.rg hk, there_keep h.th hk, Nat.lt_of_lt_of_le h.lt hz, h.len⟩

theorem wrap8 (n : Int) : IntKind.u8.wrap n = n % 256 := by
  simp [IntKind.wrap, IntKind.min, IntKind.max, IntKind.signed, IntKind.bits]
/-- At the label. -/
def ParseJ (s : ByteArray) (w : World) (a' : Act) (w' : World) : Prop :=
  ∃ u4 u5 u6 u7 u8 u9 u10 u11 u12 u13 u14 u15 u16 u17 u18 u19 u20 u21 u22 u23 u24 u25 u26 u27 u28 u29 u30 u31 u32 u33 : Value, a' = { tmps := #[.string s, undef, .pointer (some ⟨w.heap.size, 0, none⟩), .int .i64 0, u4, u5, u6, u7, u8, u9, u10, u11, u12, u13, u14, u15, u16, u17, u18, u19, u20, u21, u22, u23, u24, u25, u26, u27, u28, u29, u30, u31, u32, u33], defers := [] } ∧ Hid (goodL s.data.toList = false) ∧ Hid (Lies w' w.heap.size 32 (bvs Zi)) ∧ Hid (Below w.heap.size w w')
/-- Behind the first signs. -/
structure ParseR (s : ByteArray) (w wr : World) (pos : Nat) : Prop where
  it : wr.heap[w.heap.size + 1 + 1]? = some (.stringIter s pos)
  ok : ∀ i, i < pos → 0 ≤ hx (s.data.toList.getD i 0)
  row : Lies wr (w.heap.size + 1) 32 (bvs (rowP s.data.toList pos))
  res : Lies wr w.heap.size 32 (bvs Zi)
  bel : Below w.heap.size w wr
theorem ParseR.next {s : ByteArray} {w wr : World} {pos : Nat} (h : ParseR s w wr pos) (p' : Nat) :
    (wr.iterAt (w.heap.size + 1 + 1) s p').heap[w.heap.size + 1 + 1]? = some (.stringIter s p') ∧ Lies (wr.iterAt (w.heap.size + 1 + 1) s p') (w.heap.size + 1) 32 (bvs (rowP s.data.toList pos)) ∧
      Lies (wr.iterAt (w.heap.size + 1 + 1) s p') w.heap.size 32 (bvs Zi) ∧ Below w.heap.size w (wr.iterAt (w.heap.size + 1 + 1) s p') :=
  ⟨Lib.iterAt_heap _ _ _ _ _ h.it, h.row.keep (Lib.iterAt_other _ _ _ _ _ (by omega)) (Nat.le_of_eq (Lib.iterAt_size _ _ _ _).symm),
    h.res.keep (Lib.iterAt_other _ _ _ _ _ (by omega)) (Nat.le_of_eq (Lib.iterAt_size _ _ _ _).symm), Lib.below_iterAt h.bel (by omega) _ _⟩
theorem data_at (s : ByteArray) {i : Nat} (h : i < s.size) : s.data.toList.getD i 0 = s[i]'h := by
  rw [List.getD_eq_getElem?_getD, List.getElem?_eq_getElem (by simpa using h)]
  rfl
theorem size_list (s : ByteArray) : s.data.toList.length = s.size := by simp

set_option maxRecDepth 100000 in
set_option maxHeartbeats 1600000 in
theorem parse_any (s : ByteArray) (w : World) :
    Calls Tryd.prog 24 #[.string s] w fun e w' => e = .returned (.tuple #[.agg (bvs (parseW s.data.toList)).toArray, .int .i64 (parseE s.data.toList)]) ∧ Below w.heap.size w w' := by
  have L0 := Lib.hid (Zi_new w)
  have B0 := Lib.hid (show Below w.heap.size w (w.alloc (.cells (bvs Zi).toArray 26)) from (Below.refl _ _).alloc (Nat.le_refl _) _)
  have L1 := Lib.hid (Zi_new (w.alloc (.cells (bvs Zi).toArray 26)))
  go_enter Tryd.func24, Tryd.ntmps24
  go_wp2_with (first | (with_reducible refine al_id rfl rfl ?_))
  refine wp_scope_jumps 0 (ParseJ s w) (fun _ _ => 0) rfl ?first ?pass
  case pass =>
    rintro a wr ⟨u4, u5, u6, u7, u8, u9, u10, u11, u12, u13, u14, u15, u16, u17, u18, u19, u20, u21, u22, u23, u24, u25, u26, u27, u28, u29, u30, u31, u32, u33, rfl, HG, HL, HB⟩
    obtain ⟨wo, hwo⟩ : ∃ wo : World, wo = wr := ⟨wr, rfl⟩
    have hbl : ∀ w' : World, (Instr.build 26 #[]).run Tryd.prog w' = .ok (.agg (bvs Zi).toArray) w' := fun _ => by kernel_rfl
    go_wp2_with (first | (with_reducible refine st_id rfl _ _ rfl w.heap.size 0 Zi (Lib.hid Zi_len) rfl rfl HL.out.th ?_))
    simp only [Exit.jump]
    refine bodyPost_ret (results_cell_tmp rfl _ _ w.heap.size 0 (bvs Zi) _ rfl (HL.out.set_ (l' := bvs Zi) (by rw [bvs_len]; exact Zi_len)).rg Tryd.underlying26 rfl (by rw [bvs_len, Zi_len]; exact size_id)) rfl ⟨?_, below_setCells HB.out (Nat.le_refl _) _ _⟩
    unfold parseW parseE
    rw [HG.out]
    rfl
  case first =>
    by_cases h64 : (s.size : Int) = 64
    · have hz : s.size = 64 := by omega
      have HZ := Lib.hid hz
      have HR : Hid (ParseR s w (((w.alloc (.cells (bvs Zi).toArray 26)).alloc (.cells (bvs Zi).toArray 26)).iter s 0) 0) := Lib.hid
        ⟨by have := World.iter_heap ((w.alloc (.cells (bvs Zi).toArray 26)).alloc (.cells (bvs Zi).toArray 26)) s 0; simpa using this,
          fun i hi => absurd hi (by omega),
          by rw [rowP_zero]; have := L1.out; rw [World.size_alloc] at this; exact this.alloc _,
          (L0.out.alloc _).alloc _, (B0.out.alloc B0.out.size _).alloc (by simp; omega) _⟩
      clear hz
      go_wp2_with (first | (with_reducible refine al_id rfl rfl ?_))
      go_loopw [] (fun wr => ∃ pos : Nat, pos ≤ 64 ∧ Hid (ParseR s w wr pos)) (fun wr => 64 - wr.iterPos (w.heap.size + 1 + 1))
      case atStart => exact ⟨0, by omega, HR⟩
      case round =>
        obtain ⟨pos, hp, hr⟩ := hrel
        have hps : Hid (wr.iterPos (w.heap.size + 1 + 1) = pos) := Lib.hid (by simp [World.iterPos, hr.out.it])
        by_cases hlt : pos < 64
        · have hlz : pos < s.size := by rw [HZ.out]; exact hlt
          by_cases hc : (s[pos]'hlz).toNat < 128
          · have hnx : ∀ ty, (Instr.next (.pointer (some ⟨w.heap.size + 1 + 1, 0, none⟩)) true ty).run Tryd.prog wr = _ := fun ty => Lib.run_next_ascii_at wr (w.heap.size + 1 + 1) s pos ty hr.out.it hlz hc
            obtain ⟨n1, n2, n3, n4⟩ := hr.out.next (pos + 1)
            obtain ⟨W1, hW1⟩ : ∃ W1, W1 = wr.iterAt (w.heap.size + 1 + 1) s (pos + 1) := ⟨_, rfl⟩
            rw [← hW1] at hnx n1 n2 n3 n4
            have N1 := Lib.hid n1
            have N2 := Lib.hid n2
            have N3 := Lib.hid n3
            have N4 := Lib.hid n4
            have OK := Lib.hid hr.out.ok
            have hd := data_at s hlz
            generalize s[pos]'hlz = c at hnx hc hd
            have HD := Lib.hid hd
            have RA := Lib.hid (rune_ascii sgB c hc)
            obtain ⟨h, hh⟩ : ∃ h, firstIdx sgB c = h := ⟨_, rfl⟩
            rw [hh] at RA
            have HH := Lib.hid (show hx c = h from hh)
            clear hW1 n1 n2 n3 n4 hd hr hh
            by_cases h0 : h < 0
            · have HG : Hid (goodL s.data.toList = false) := Lib.hid (goodL_bad (i := pos) (by rw [size_list]; exact hlz) (by rw [HD.out, HH.out]; exact h0))
              go_wp2_with (go_at_call 46; refine (RA.out _).mono ?_; rintro e w5 ⟨rfl, rfl⟩)
              go_step3
              show 0 = 0 ∧ ParseJ s w _ _
              exact ⟨rfl, _, _, _, _, _, _, _, _, _, _, _, _, _, _, _, _, _, _, _, _, _, _, _, _, _, _, _, _, _, _, rfl, HG, N3, N4⟩
            · have hrl := rowP_len s.data.toList pos
              obtain ⟨x, hx⟩ : ∃ x, (rowP s.data.toList pos).getD (pos / 2) 0 = x := ⟨_, rfl⟩
              have hcl : W1.cell? ⟨w.heap.size + 1, pos / 2, none⟩ = some (.int .u8 (x.toNat : Int)) := N2.out.cell (by
                rw [← hx, List.getD_eq_getElem?_getD]
                simp [bvs, bv, List.getElem?_eq_getElem (show pos / 2 < (rowP s.data.toList pos).length by omega)])
              have hfz : W1.frozen? ⟨w.heap.size + 1, pos / 2, none⟩ = false := N2.out.frozen (by omega)
              have HX := Lib.hid hx
              have h0' : 0 ≤ Proofs.YtgjkahoblopddaaDoor.hx c := by rw [HH.out]; omega
              have hup : bits .or .u8 ((x.toNat : Int) * 16 % 256) (h % 256) = ((upd x (hb c)).toNat : Int) := by
                have h1 := hb_val c h0'
                have h2 := hx_bd c
                rw [← upd_val, h1, HH.out, wrap8]
                congr 1
                rw [HH.out] at h2
                omega
              have ST : Hid (Lies (W1.setCell ⟨w.heap.size + 1, pos / 2, none⟩ (bv (upd x (hb c)))) (w.heap.size + 1) 32 (bvs (rowP s.data.toList (pos + 1)))) := Lib.hid (by
                have h1 := N2.out.set1 (pos / 2) (bv (upd x (hb c)))
                have h2 := rowP_set s.data.toList pos hlt
                rw [HX.out, HD.out] at h2
                rw [← h2]
                simpa [bvs, List.map_set] using h1)
              have OK2 : Hid (∀ i, i < pos + 1 → 0 ≤ Proofs.YtgjkahoblopddaaDoor.hx (s.data.toList.getD i 0)) := Lib.hid (fun i hi => by
                by_cases e : i = pos
                · rw [e, HD.out]; exact h0'
                · exact OK.out i (by omega))
              clear hx hrl h0'
              go_wp2_with (go_at_call 46; refine (RA.out _).mono ?_; rintro e w5 ⟨rfl, rfl⟩)
              go_roundw
              case rel =>
                exact ⟨pos + 1, by omega, Lib.hid ⟨(Below.heap_setCell _ _ _ _ (by simp)).trans N1.out, OK2.out, ST.out, N3.out.keep (Below.heap_setCell _ _ _ _ (by simp)) (by simp), N4.out.setCell (by simp) _⟩⟩
              case measure =>
                rw [hps.out]
                have : (w5.setCell ⟨w.heap.size + 1, pos / 2, none⟩ (bv (upd x (hb c)))).iterPos (w.heap.size + 1 + 1) = pos + 1 := by
                  simp only [World.iterPos]
                  rw [(Below.heap_setCell _ _ _ _ (by simp)).trans N1.out]
                simp only [bv] at this
                rw [this]
                omega
          · have hdh := decode_high s pos hlz (by omega)
            obtain ⟨r, hr0⟩ : ∃ r, (Utf8.decode s pos).1 = r := ⟨_, rfl⟩
            have hnx : ∀ ty, (Instr.next (.pointer (some ⟨w.heap.size + 1 + 1, 0, none⟩)) true ty).run Tryd.prog wr = _ := fun ty => Lib.run_next_any_at wr (w.heap.size + 1 + 1) s pos ty hr.out.it hlz
            obtain ⟨n1, n2, n3, n4⟩ := hr.out.next (pos + (Utf8.decode s pos).2)
            obtain ⟨W1, hW1⟩ : ∃ W1, W1 = wr.iterAt (w.heap.size + 1 + 1) s (pos + (Utf8.decode s pos).2) := ⟨_, rfl⟩
            rw [← hW1] at hnx n3 n4
            rw [hr0] at hnx hdh
            have N3 := Lib.hid n3
            have N4 := Lib.hid n4
            have HG : Hid (goodL s.data.toList = false) := Lib.hid (goodL_bad (i := pos) (by rw [size_list]; exact hlz) (by
              rw [data_at s hlz]
              have := hx_low (s[pos]'hlz)
              omega))
            have RA := Lib.hid (rune_high (r : Int) (by have := hdh.1; omega))
            clear hW1 n1 n2 n3 n4 hr hr0 hdh
            go_wp2_with (go_at_call 46; refine (RA.out _).mono ?_; rintro e w5 ⟨rfl, hb5⟩)
            go_step3
            show 0 = 0 ∧ ParseJ s w _ _
            exact ⟨rfl, _, _, _, _, _, _, _, _, _, _, _, _, _, _, _, _, _, _, _, _, _, _, _, _, _, _, _, _, _, _, rfl, HG, Lib.hid (N3.out.below hb5 N3.out.lt), Lib.hid (N4.out.trans (hb5.mono N4.out.size))⟩
        · obtain rfl : pos = 64 := by omega
          have hnx : ∀ ty, (Instr.next (.pointer (some ⟨w.heap.size + 1 + 1, 0, none⟩)) true ty).run Tryd.prog wr = _ := fun ty => Lib.run_next_end_at wr (w.heap.size + 1 + 1) s 64 ty hr.out.it (by rw [HZ.out]; omega)
          have HRow := Lib.hid hr.out.row
          have HRes := Lib.hid hr.out.res
          have HBel := Lib.hid hr.out.bel
          have HRL := Lib.hid (rowP_len s.data.toList 64)
          have HG : Hid (goodL s.data.toList = true) := Lib.hid (goodL_of (by rw [size_list, HZ.out]) hr.out.ok)
          clear hr
          go_wp2_with (first
            | (with_reducible refine ld_id rfl _ rfl (w.heap.size + 1) 0 (rowP s.data.toList 64) HRL rfl HRow.out.rg ?_)
            | (with_reducible refine st_id rfl _ _ rfl w.heap.size 0 (rowP s.data.toList 64) HRL rfl rfl HRes.out.th ?_))
          simp only [Exit.jump]
          refine bodyPost_ret (results_cell_tmp rfl _ _ w.heap.size 0 (bvs (rowP s.data.toList 64)) _ rfl (HRes.out.set_ (l' := bvs (rowP s.data.toList 64)) (by rw [bvs_len]; exact HRL.out)).rg Tryd.underlying26 rfl (by rw [bvs_len, HRL.out]; exact size_id)) rfl ⟨?_, below_setCells HBel.out (Nat.le_refl _) _ _⟩
          unfold parseW parseE
          rw [HG.out]
          rfl
    · have hne : ((s.size : Int) != 64) = true := by simp [h64]
      have HG : Hid (goodL s.data.toList = false) := Lib.hid (by
        cases hg : goodL s.data.toList
        · rfl
        · simp only [goodL, Bool.and_eq_true, beq_iff_eq] at hg
          exact absurd hg.1 (by rw [size_list]; omega))
      go_wp2_with (first | (with_reducible refine al_id rfl rfl ?_))
      go_step3
      show 0 = 0 ∧ ParseJ s w _ _
      exact ⟨rfl, _, _, _, _, _, _, _, _, _, _, _, _, _, _, _, _, _, _, _, _, _, _, _, _, _, _, _, _, _, _, rfl, HG, Lib.hid (L0.out.alloc _), Lib.hid (B0.out.alloc B0.out.size _)⟩
end Go.Proofs.YtgjkahoblopddaaDoor
