/-
  CONTRACT OF Copy.
-/
import Derived.Test.YtionbjocfepkaaaCb
namespace Go.Proofs.Ytionbjocfepkaaa
set_option linter.unusedVariables false
open Go.RowKit Go.WideShapes Go.ChangeShapes

set_option maxRecDepth 100000 in
set_option maxHeartbeats 1600000 in
theorem copy_dk {w : World} {g : Nat} {S : Nat → Prop} {M : Mo} (h : Dk w g S M) (hwt : M.wt.length ≤ 1000000000) :
    Calls Try.prog 11 #[rp g] w fun e w' => ∃ g' S', e = .returned (rp g') ∧ Dk w' g' S' M ∧ (∀ b, S' b → w.heap.size ≤ b) ∧ Below w.heap.size w w' := by
  obtain ⟨ga, O, W, h⟩ := h
  obtain ⟨A, co, rfl⟩ := own_form h.ord
  have hmx := h.ok.max
  have hcl : ∀ w', Below w.heap.size w w' → Calls Try.prog 33 #[.slice A M.wt.length co] w' fun e w'' => ∃ v, e = .returned v ∧ w''.ownsRow w'.heap.size 3 1 v M.wt.length (M.wt.map fun p => Value.int .i64 (p.1 : Int)) ∧ Below w'.heap.size w' w'' := fun w' hb =>
    clone_int ((own_slv h.ord).below hb) hb.size (fun u hu => by simp only [List.mem_map] at hu; obtain ⟨p, _, rfl⟩ := hu; rfl) hwt
  obtain ⟨dl, hdl⟩ : ∃ dl, dl = dkL (.slice (some ⟨ga, 0, none⟩) M.safe.length M.safe.length) (.slice A M.wt.length co) M.fu M.fa M.dead M.ops := ⟨_, rfl⟩
  have hrg : w.rangeAt g 0 dl := by
    rw [hdl]
    intro j v hv
    rw [Nat.zero_add, Bl.cell h.db j]
    exact hv
  have L8 := Lib.hid (show dl.length = 8 by rw [hdl]; rfl)
  have O8 := Lib.hid (show dl.toArray.all (·.oneCell') = true by rw [hdl]; simp [Value.oneCell'])
  obtain ⟨wA, hwA⟩ : ∃ wA, wA = (w.alloc (.cells ZD 68)).setCells w.heap.size 0 dl := ⟨_, rfl⟩
  have hzd : Bl (w.alloc (.cells ZD 68)) w.heap.size 68 ZD.toList := Bl.new w 68 ZD.toList
  have hT0 : (w.alloc (.cells ZD 68)).there w.heap.size 0 8 := fun j hj => ⟨by
    rw [hzd.cell (0 + j), Nat.zero_add, List.getElem?_eq_getElem (show j < ZD.toList.length from hj)]; rfl, hzd.frozen _⟩
  have hblA : Bl wA w.heap.size 68 dl := by rw [hwA]; exact bl_set0 hzd (by rw [L8.out]; rfl)
  have hbA : Below w.heap.size w wA := by rw [hwA]; exact below_setCells ((Below.refl _ _).alloc (Nat.le_refl _) _) (Nat.le_refl _) _ _
  have hzA : wA.heap.size = w.heap.size + 1 := by rw [hwA, (setCells_os _ _ _ _).2.2.2.1]; simp
  have HH := Lib.hid h
  have HCL := Lib.hid hcl
  have HRG := Lib.hid hrg
  have HT0 := Lib.hid hT0
  have HWA := Lib.hid hwA
  have HDL := Lib.hid hdl
  have BLA := Lib.hid hblA
  have HBA := Lib.hid hbA
  have HZA := Lib.hid hzA
  have HWT := Lib.hid hwt
  have a0 : wA.cell? ⟨g, 0, none⟩ = some (.slice (some ⟨ga, 0, none⟩) M.safe.length M.safe.length) := cell_of_blk (hbA.block g h.db.lt) h.db.c0
  have a1 : wA.cell? ⟨g, 1, none⟩ = some (.slice A M.wt.length co) := cell_of_blk (hbA.block g h.db.lt) h.db.c1
  have hgc : g < w.heap.size := h.db.lt
  have hmk := fun w => make_sectors M.safe.length hmx w
  have hmb := fun w => make_blocks M.wt.length hwt w
  clear h hcl hrg hT0 hwA hdl hblA hzd hwt
  go_enter Try.func11, Try.ntmps11
  go_wp2_with (first
    | (with_reducible refine ld_disk rfl _ rfl g dl L8 rfl HRG.out ?_)
    | (with_reducible refine al_disk rfl rfl ?_)
    | (with_reducible refine st_disk rfl _ _ rfl w.heap.size dl L8 O8 rfl rfl HT0.out ?_; rw [← HWA.out])
    | fail)
  refine (HCL.out wA hbA).mono ?_
  rintro e w1 ⟨v, rfl, hown, hb1⟩
  obtain ⟨A2, c2, rfl⟩ := own_form hown
  have bl1 := BLA.out.below hb1 (by rw [hzA]; omega)
  have f1 := bl1.frozen 1
  have e1 : w1.cell? ⟨w.heap.size, 1, none⟩ = some (.slice A M.wt.length co) := by rw [bl1.cell 1, HDL.out]; rfl
  have e0 : w1.cell? ⟨w.heap.size, 0, none⟩ = some (.slice (some ⟨ga, 0, none⟩) M.safe.length M.safe.length) := by rw [bl1.cell 0, HDL.out]; rfl
  have f0 := bl1.frozen 0
  have b0 : w1.cell? ⟨g, 0, none⟩ = some (.slice (some ⟨ga, 0, none⟩) M.safe.length M.safe.length) := cell_of_blk (hb1.block g (by rw [hzA]; omega)) a0
  have b1 : w1.cell? ⟨g, 1, none⟩ = some (.slice A M.wt.length co) := cell_of_blk (hb1.block g (by rw [hzA]; omega)) a1
  have hz1 : w.heap.size < w1.heap.size := bl1.lt
  have hg1 : g < w1.heap.size := by omega
  have BL1 := Lib.hid bl1
  have HOW := Lib.hid hown
  have HB1 := Lib.hid hb1
  clear bl1 hown hb1 a0 a1 hbA
  go_wp2_with fail
  have C0 : Hid (Cp w M w.heap.size w1.heap.size (w1.heap.size + 1) (.slice A2 M.wt.length c2) 0 _) := Lib.hid (Cp.start (HBA.out.trans (HB1.out.mono (by rw [hzA]; omega))) (s0 := .slice (some ⟨ga, 0, none⟩) M.safe.length M.safe.length) (O0 := .slice A M.wt.length co) (by have := BL1.out; rw [HDL.out] at this; exact this) (by have := HOW.out; rw [hzA] at this; exact this))
  clear e0 e1 f0 f1 b0 b1 hmk hmb
  go_loopw [4, 37] (fun r i wr => ∃ (k o m : Nat), k ≤ M.safe.length ∧ i = .int .i64 (k : Int) ∧ r = .slice (some ⟨w1.heap.size + 1, o, none⟩) m m ∧ m + offW M.wt k = M.wt.length ∧ (0 < m → o = offW M.wt k * 64) ∧ Hid (Cp w M w.heap.size w1.heap.size (w1.heap.size + 1) (.slice A2 M.wt.length c2) k wr)) (fun _ i _ => M.safe.length - (intOf i).toNat)
  case atStart => exact ⟨0, 0, M.wt.length, Nat.zero_le _, rfl, rfl, by simp [offW], fun _ => by simp [offW], C0⟩
  case round =>
    obtain ⟨k, o, m, hk, rfl, rfl, hm, hmo, hcp⟩ := hrel
    by_cases hlt : k < M.safe.length
    · have hd : decide ((k : Int) < (M.safe.length : Int)) = true := by simp; omega
      have hk0 : (0 : Int) ≤ (k : Int) := Int.natCast_nonneg _
      have hk1 : (k : Int) < (M.safe.length : Int) := by omega
      have HCP := hcp
      obtain ⟨sk, hsk⟩ : ∃ sk, sk = M.safe.getD k [] := ⟨_, rfl⟩
      have hl64 : sk.length = 64 := by rw [hsk, getD_of_lt hlt]; exact HH.out.ok.len _ (List.getElem_mem _)
      have hwb := HCP.out.below
      have c0 := HCP.out.db.c0
      have hclt := HCP.out.lt
      -- the sector that is read, as cells
      obtain ⟨cs, hcs⟩ : ∃ cs, cs = bvs sk ++ [W k] := ⟨_, rfl⟩
      have hsr0 : w.rangeAt ga (k * 65) cs := by
        rw [hcs]
        refine rangeAt_app.2 ⟨hsk ▸ cellS_range HH.out.sec hlt (hsk ▸ hl64), fun j v hv => ?_⟩
        obtain rfl : j = 0 := by
          have := (List.getElem?_eq_some_iff.1 hv).1
          simpa using this
        have e := cellS_waits HH.out.sec hlt
        rw [bvs_len, hl64, Nat.add_zero, e]
        exact hv
      have hgaw : ga < w.heap.size := HH.out.lt ga HH.out.sga
      have SR := Lib.hid (rangeAt_keep hsr0 (hwb.block ga hgaw))
      have CL := Lib.hid (show cs.length = 65 by rw [hcs, List.length_append, bvs_len, hl64]; rfl)
      have CO := Lib.hid (show cs.toArray.all (·.oneCell') = true from all_oneCell_toArray (fun v hv => by
        rw [hcs, List.mem_append] at hv
        rcases hv with hv | hv
        · exact bvs_one _ v hv
        · have e : v = W k := by simpa using hv
          rcases HH.out.wv k hlt with ⟨_, h⟩ | ⟨b, o', c, cur, _, h, _⟩ <;> rw [e, h] <;> rfl))
      have TS := Lib.hid (show (wr.alloc (.cells ZS 80)).there wr.heap.size 0 65 from fun j hj => by
        have hz := Bl.new wr 80 ZS.toList
        refine ⟨?_, hz.frozen _⟩
        rw [show (wr.alloc (.cells ZS 80)).cell? ⟨wr.heap.size, 0 + j, none⟩ = ZS.toList[0 + j]? from hz.cell (0 + j), Nat.zero_add, List.getElem?_eq_getElem (by rw [Array.length_toList, ZS_size]; exact hj)]
        rfl)
      obtain ⟨wS, hwS⟩ : ∃ wS, wS = (wr.alloc (.cells ZS 80)).setCells wr.heap.size 0 cs := ⟨_, rfl⟩
      have hbS : Below wr.heap.size wr wS := by rw [hwS]; exact below_setCells ((Below.refl _ _).alloc (Nat.le_refl _) _) (Nat.le_refl _) _ _
      have hzS : wS.heap.size = wr.heap.size + 1 := by rw [hwS, (setCells_os _ _ _ _).2.2.2.1]; simp
      have hrS : wS.rangeAt wr.heap.size 0 cs := by rw [hwS]; exact World.rangeAt_setCells_same _ _ _ _ (by rw [CL.out]; exact TS.out)
      have hrS2 := rangeAt_app.1 (hcs ▸ hrS)
      rw [bvs_len, hl64] at hrS2
      have s0 : wS.cell? ⟨w.heap.size, 0, none⟩ = some (.slice (some ⟨w1.heap.size, 0, none⟩) M.safe.length M.safe.length) := cell_of_blk (hbS.block _ (by omega)) c0
      have RS := Lib.hid hrS2.1
      have LS := Lib.hid hl64
      have CS := Lib.hid (HCP.out.keep hbS)
      have TT := Lib.hid (rowIs_there CS.out.sec (k * 65) 64 (by omega))
      obtain ⟨wT, hwT⟩ : ∃ wT, wT = wS.setCells w1.heap.size (k * 65) (bvs sk) := ⟨_, rfl⟩
      have hoT : ∀ b, b ≠ w1.heap.size → wT.heap[b]? = wS.heap[b]? := fun b hb => by rw [hwT]; exact (setCells_os _ _ _ _).2.2.2.2 b hb
      have t64 : wT.cell? ⟨wr.heap.size, 64, none⟩ = some (W k) := by
        refine cell_of_blk (hoT _ (by omega)) ?_
        have := hrS2.2 0 (W k) rfl
        simpa using this
      have HWS := Lib.hid hwS
      have HWT2 := Lib.hid hwT
      have HHK := Lib.hid hbS
      have hgsb : w1.heap.size < wr.heap.size := by omega
      have HSK := Lib.hid hsk
      clear hsr0 hrS hrS2 hcp C0 c0 hcs hwS hl64
      rcases HH.out.wv k hlt with ⟨hwn, hWk⟩ | ⟨b, o', c, cur', hwn, hWk, hSb, hlc, hcm, hrg, hbk, _⟩
      · rw [hWk] at t64
        have HWN := Lib.hid hwn
        clear hwn hWk hsk hwT
        go_wp2_with (first
          | (with_reducible refine ld_sector rfl _ rfl ga (k * 65) cs CL rfl SR.out ?_)
          | (with_reducible refine al_sector rfl rfl ?_)
          | (with_reducible refine st_sector rfl _ _ rfl wr.heap.size cs CL CO rfl rfl TS.out ?_; rw [← HWS.out])
          | (with_reducible refine ld_safe rfl _ rfl wr.heap.size 0 sk LS rfl RS.out ?_)
          | (with_reducible refine st_safe rfl _ _ rfl w1.heap.size (k * 65) sk LS rfl rfl TT.out ?_; rw [← HWT2.out])
          | (with_reducible refine wp_copy_none rfl _ _ rfl ⟨w1.heap.size + 1, o, none⟩ m m rfl rfl ?_))
        go_roundw
        case rel =>
          refine ⟨k + 1, o, m, by omega, by go_num, rfl, by rw [offW, HWN.out]; simpa using hm, by rw [offW, HWN.out]; simpa using hmo, Lib.hid ?_⟩
          rw [HWT2.out, HSK.out]
          exact CS.out.step0 HH.out.ok hlt HWN.out
        case measure => simp [intOf]; omega
      · rw [hWk] at t64
        have hn0 : 0 < (waitsOf M.wt k).length := List.length_pos_iff.2 hwn
        have hx : ∀ x ∈ waitsOf M.wt k, x.length = 64 := fun x hx => by
          obtain ⟨p, hp, rfl⟩ := waitsOf_mem hx
          exact (HH.out.ok.wt p hp).2
        have hoff := offW_le M.wt (k + 1)
        rw [offW] at hoff
        obtain ⟨cur, hcur, hcsz, _⟩ := CS.out.row
        have hcw : wr.heap[w1.heap.size + 1]? = some (.cells cur 37 (0, 0)) := (hbS.block _ (by omega)).symm.trans hcur
        have hob := hmo (by omega)
        subst hob
        obtain ⟨n, hn⟩ : ∃ n, (waitsOf M.wt k).length = n := ⟨_, rfl⟩
        rw [hn] at t64
        have HWL := Lib.hid hx
        have HCT := Lib.hid ((hoT _ (by omega)).trans hcur)
        have HNL := Lib.hid (show (waitsOf M.wt k).length = n ∧ n ≤ m from ⟨hn, by omega⟩)
        have HSRC := Lib.hid (show ∀ j v, (fl (waitsOf M.wt k))[j]? = some v → wT.cell? ((⟨b, o', none⟩ : Addr).add j) = some v from fun j v hj => by
          rw [addr_add]
          have hbw := HH.out.lt b hSb
          exact cell_of_blk (hoT b (by omega)) (cell_of_blk (hbS.block b (by have := hwb.size; omega)) (cell_of_blk (hwb.block b hbw) (hrg j v hj)))
          )
        have HFIT := Lib.hid (show offW M.wt k * 64 + (waitsOf M.wt k).length * 64 ≤ cur.size by rw [hcsz]; omega)
        obtain ⟨wU, hwU⟩ : ∃ wU, wU = wT.setRow (w1.heap.size + 1) (cpRow cur M.wt k) := ⟨_, rfl⟩
        have u0 : wU.cell? ⟨w.heap.size, 0, none⟩ = some (.slice (some ⟨w1.heap.size, 0, none⟩) M.safe.length M.safe.length) := by
          rw [hwU]
          exact cell_of_blk (setRow_other wT _ _ _ (by omega)) (cell_of_blk (hoT _ (by omega)) s0)
        have hrow1 := (CS.out.sec1 HH.out.ok hlt)
        have ufr : wU.frozen? ⟨w1.heap.size, k * 65 + 64, none⟩ = false := by
          have h1 : (wS.setCells w1.heap.size (k * 65) (bvs (M.safe.getD k []))).frozen? ⟨w1.heap.size, k * 65 + 64, none⟩ = false := hrow1.frozen _
          rw [hwU, hwT, hsk, World.frozen?_of_block (a := ⟨w1.heap.size, k * 65 + 64, none⟩) (setRow_other _ _ _ _ (show w1.heap.size ≠ w1.heap.size + 1 by omega))]
          exact h1
        have ucl : wU.cell? ⟨w1.heap.size, k * 65 + 64, none⟩ = some (.slice none 0 0) := by
          have h1 := hrow1.cell (i := k * 65 + 64) (by omega)
          rw [if_pos rfl] at h1
          rw [hwU, hwT, hsk]
          exact cell_of_blk (setRow_other _ _ _ _ (by omega)) h1
        have HWU := Lib.hid (show wT.setRow (w1.heap.size + 1) (cur.toList.take (offW M.wt k * 64) ++ fl (waitsOf M.wt k) ++ cur.toList.drop (offW M.wt k * 64 + (waitsOf M.wt k).length * 64)).toArray = wU from by rw [hwU]; rfl)
        have HWN := Lib.hid (show Cp w M w.heap.size w1.heap.size (w1.heap.size + 1) (.slice A2 M.wt.length c2) (k + 1) (wU.drew.setCell ⟨w1.heap.size, k * 65 + 64, none⟩ (.slice (some ⟨w1.heap.size + 1, offW M.wt k * 64, none⟩) n n)) from by
          have h1 := CS.out.step1 HH.out.ok hlt hwn hcur
          rw [hwU, hwT, hsk]
          unfold waC at h1
          rw [if_neg hwn, hn] at h1
          exact h1)
        have hm1 : n ≤ m := HNL.out.2
        have hnp : 0 < n := by omega
        have hmm : m ≤ 1000000000 := by have := HWT.out; omega
        have hi0 : (0 : Int) < (n : Int) := by omega
        have hi1 : (n : Int) ≤ (m : Int) := by omega
        have hi2 : (0 : Int) ≤ (n : Int) := by omega
        have OFK : Hid (offW M.wt (k + 1) = offW M.wt k + n) := Lib.hid (by rw [offW, hn])
        generalize offW M.wt k = ok at HCT HFIT HWU HWN OFK hm
        generalize waitsOf M.wt k = wl at HWL HNL HSRC HFIT HWU hn
        obtain ⟨p64, hp64⟩ : ∃ p64, p64 = ok * 64 := ⟨_, rfl⟩
        simp only [← hp64] at HFIT HWU HWN ⊢
        have HP := Lib.hid hp64
        clear hp64 hx hoff hrow1 hcur hcsz hcw hwn hWk hrg hbk hwU hwT hsk
        go_wp2_with (first
          | (with_reducible refine ld_sector rfl _ rfl ga (k * 65) cs CL rfl SR.out ?_)
          | (with_reducible refine al_sector rfl rfl ?_)
          | (with_reducible refine st_sector rfl _ _ rfl wr.heap.size cs CL CO rfl rfl TS.out ?_; rw [← HWS.out])
          | (with_reducible refine ld_safe rfl _ rfl wr.heap.size 0 sk LS rfl RS.out ?_)
          | (with_reducible refine st_safe rfl _ _ rfl w1.heap.size (k * 65) sk LS rfl rfl TT.out ?_; rw [← HWT2.out])
          | (with_reducible refine wp_copy_blocks rfl _ _ rfl (w1.heap.size + 1) p64 m m ⟨b, o', none⟩ n c cur wl HWL HCT HNL HSRC HFIT rfl rfl ?_; rw [HWU.out, HNL.out.1])
          | fail)
        have HK1 := Lib.hid (show wU.drew.cell? ⟨w.heap.size, 0, none⟩ = some (.slice (some ⟨w1.heap.size, 0, none⟩) M.safe.length M.safe.length) from u0)
        have HK2 := Lib.hid (show (wU.setCell ⟨w1.heap.size, k * 65 + 64, none⟩ (.slice (some ⟨w1.heap.size + 1, p64, none⟩) n n)).drew.cell? ⟨w.heap.size, 0, none⟩ = some (.slice (some ⟨w1.heap.size, 0, none⟩) M.safe.length M.safe.length) from cell_of_blk (Below.heap_setCell _ _ _ _ (show w.heap.size ≠ w1.heap.size by omega)) u0)
        go_region_held3 (fun w' => w'.cell? ⟨w.heap.size, 0, none⟩ = some (.slice (some ⟨w1.heap.size, 0, none⟩) M.safe.length M.safe.length))
          (first | with_reducible exact HK1.out | with_reducible exact HK2.out)
          (first | fail)
        go_wp2
        go_roundw
        case rel =>
          by_cases hmn : m = n
          · rw [if_pos hmn]
            refine ⟨k + 1, p64, m - n, by omega, by go_num, rfl, ?_, fun h => absurd h (by omega), HWN⟩
            rw [OFK.out]; omega
          · rw [if_neg hmn]
            refine ⟨k + 1, p64 + n * 64, m - n, by omega, by go_num, rfl, ?_, fun _ => ?_, HWN⟩
            · rw [OFK.out]; omega
            · rw [OFK.out, HP.out]; omega
        case measure => simp [intOf]; omega
    · have hd : decide ((k : Int) < (M.safe.length : Int)) = false := by simp; omega
      obtain rfl : k = M.safe.length := by omega
      have HCP := hcp
      clear hcp C0
      go_wp2
      go_ret
      obtain ⟨S', h1, h2, h3⟩ := HCP.out.done HH.out.ok HWT.out
      exact ⟨_, S', rfl, h1, h2, h3⟩
end Go.Proofs.Ytionbjocfepkaaa
