/-
  CONTRACTS OF THE STATEMENTS' HELPERS: happens.
-/
import Derived.Test.YtionbjocfepkaaaWa
namespace Go.Proofs.Ytionbjocfepkaaa
set_option linter.unusedVariables false
open Go.RowKit Go.WideShapes Go.ChangeShapes

/-- An act done to a disk. -/
def Mo.act (M : Mo) (kind n : Int) (b : UInt8) (ks : List Bool) : Mo × List UInt8 × Int :=
  if whichI kind = 0 then M.read n
  else if whichI kind = 1 ∨ whichI kind = 2 then ((M.write n (actB b)).1, Zb, (M.write n (actB b)).2)
  else if whichI kind = 3 then (M.sync.1, Zb, M.sync.2)
  else if whichI kind = 4 then ((M.arm n).1, Zb, (M.arm n).2)
  else if whichI kind = 5 then ((M.fail n).1, Zb, (M.fail n).2)
  else (M.crash (lvB (ks.take 200)), Zb, 0)

theorem read_len {M : Mo} (h : M.Ok) (i : Int) : (M.read i).2.1.length = 64 := by
  unfold Mo.read
  split
  · exact Zb_len
  split
  · exact Zb_len
  rename_i hh
  split
  · exact Zb_len
  · have hin : 0 ≤ i ∧ i < M.safe.length := by simpa [hasB] using hh
    show (holdsOf M.safe M.wt i.toNat).length = 64
    unfold holdsOf
    cases hla : (waitsOf M.wt i.toNat).getLast? with
    | none =>
      show (M.safe.getD i.toNat []).length = 64
      rw [getD_of_lt (by omega)]
      exact h.len _ (List.getElem_mem _)
    | some y =>
      obtain ⟨p, hp, rfl⟩ := waitsOf_mem (List.mem_of_getLast? hla)
      exact (h.wt p hp).2
theorem act_len {M : Mo} (h : M.Ok) (kind n : Int) (b : UInt8) (ks : List Bool) : (M.act kind n b ks).2.1.length = 64 := by
  unfold Mo.act
  split
  · exact read_len h n
  repeat' split
  all_goals exact Zb_len

/-- A block of the call's own is as it was. -/
theorem Stepped.blk {w w' : World} {g : Nat} {S : Nat → Prop} {M : Mo} (h : Stepped w g S M w') {r : Nat} (hr : r < w.heap.size) (hs : ¬ S r) : w'.heap[r]? = w.heap[r]? := by
  obtain ⟨S', hd, hm, hg⟩ := h
  exact hm.block r hr hs
theorem Stepped.pre {w0 w w' : World} {g : Nat} {S : Nat → Prop} {M : Mo} (h : Stepped w g S M w') (hb : Below w0.heap.size w0 w) : Stepped w0 g S M w' := by
  obtain ⟨S', hd, hm, hg⟩ := h
  exact ⟨S', hd, (Mv.of_below hb S).trans hm, fun b hb' => (hg b hb').imp id fun h => Nat.le_trans hb.size h⟩
/-- A store into a block of the call's own. -/
theorem Stepped.post {w0 w w' : World} {g : Nat} {S : Nat → Prop} {M : Mo} (h : Stepped w g S M w') (hb : Below w0.heap.size w0 w) {r : Nat} (h0 : w0.heap.size ≤ r) (h1 : r < w.heap.size) (hs : ¬ S r) (o : Nat) (vs : List Value) : Stepped w0 g S M (w'.setCells r o vs) := by
  obtain ⟨S', hd, hm, hg⟩ := h.pre hb
  obtain ⟨S'', hd2, hm2, hg2⟩ := h
  refine ⟨S'', hd2.keep (by rw [(setCells_os _ _ _ _).2.2.2.1]; exact Nat.le_refl _) fun b hb' => (setCells_os _ _ _ _).2.2.2.2 b ?_, hm.setCells (.inr h0) o vs, fun b hb' => (hg2 b hb').imp id fun h => Nat.le_trans hb.size h⟩
  rintro rfl
  rcases hg2 b hb' with x | x
  · exact hs x
  · omega
theorem Stepped.dk {w w' : World} {g : Nat} {S : Nat → Prop} {M : Mo} (h : Stepped w g S M w') : ∃ S', Dk w' g S' M ∧ Mv S w w' ∧ Grow S S' w := h
theorem there_keep {w w' : World} {b o n : Nat} (h : w.there b o n) (hk : w'.heap[b]? = w.heap[b]?) : w'.there b o n := fun j hj => by
  obtain ⟨h1, h2⟩ := h j hj
  exact ⟨by rw [World.cell?_of_block (a := ⟨b, o + j, none⟩) hk]; exact h1, by rw [World.frozen?_of_block (a := ⟨b, o + j, none⟩) hk]; exact h2⟩

/-- What happens has made. -/
abbrev hapW (w : World) (kind n : Int) (b : UInt8) (A : Option Addr) (l c : Nat) : World := (w.alloc (.cells #[.int .i64 kind, .int .i64 n, .int .u8 (b.toNat : Int), .slice A l c] 35)).alloc (.cells Z64 37)
structure HapW (w : World) (kind n : Int) (b : UInt8) (A : Option Addr) (l c : Nat) (w' : World) : Prop where
  below : Below w.heap.size w w'
  size : w.heap.size + 1 < w'.heap.size
  c0 : w'.cell? ⟨w.heap.size, 0, none⟩ = some (.int .i64 kind)
  c1 : w'.cell? ⟨w.heap.size, 1, none⟩ = some (.int .i64 n)
  c2 : w'.cell? ⟨w.heap.size, 2, none⟩ = some (.int .u8 (b.toNat : Int))
  c3 : w'.cell? ⟨w.heap.size, 3, none⟩ = some (.slice A l c)
  th : w'.there (w.heap.size + 1) 0 64
  rg : w'.rangeAt (w.heap.size + 1) 0 (bvs Zb)
theorem HapW.mk_ (w : World) (kind n : Int) (b : UInt8) (A : Option Addr) (l c : Nat) : HapW w kind n b A l c (hapW w kind n b A l c) := by
  have B := Bl.new w 35 [.int .i64 kind, .int .i64 n, .int .u8 (b.toNat : Int), .slice A l c]
  have e : (w.alloc (.cells #[.int .i64 kind, .int .i64 n, .int .u8 (b.toNat : Int), .slice A l c] 35)).heap.size = w.heap.size + 1 := by simp
  have T := Z64_there (w.alloc (.cells #[.int .i64 kind, .int .i64 n, .int .u8 (b.toNat : Int), .slice A l c] 35))
  have R := Z64_range (w.alloc (.cells #[.int .i64 kind, .int .i64 n, .int .u8 (b.toNat : Int), .slice A l c] 35))
  rw [e] at T R
  exact ⟨((Below.refl _ _).alloc (Nat.le_refl _) _).alloc (by simp) _, by simp, (cell_alloc_old (by simp)).trans (B.cell 0), (cell_alloc_old (by simp)).trans (B.cell 1), (cell_alloc_old (by simp)).trans (B.cell 2), (cell_alloc_old (by simp)).trans (B.cell 3), T, R⟩
theorem HapW.keep {w w' w'' : World} {kind n : Int} {b : UInt8} {A : Option Addr} {l c : Nat} (h : HapW w kind n b A l c w') (hb : Below w'.heap.size w' w'') : HapW w kind n b A l c w'' := by
  have hs := h.size
  exact ⟨h.below.trans (hb.mono h.below.size), Nat.lt_of_lt_of_le h.size hb.size, cell_of_blk (hb.block _ (by omega)) h.c0, cell_of_blk (hb.block _ (by omega)) h.c1, cell_of_blk (hb.block _ (by omega)) h.c2, cell_of_blk (hb.block _ (by omega)) h.c3, there_keep h.th (hb.block _ (by omega)), rangeAt_keep h.rg (hb.block _ (by omega))⟩

set_option maxRecDepth 100000 in
set_option maxHeartbeats 1600000 in
theorem happens_0n {w : World} {B : Nat} (kind n : Int) (b : UInt8) {A : Option Addr} {l c : Nat} {ks : List Bool} (hs : SlV w B A l c (bls ks)) (hB : B ≤ w.heap.size) (hkd : whichI kind = 0) :
    Calls Try.prog 9 #[.pointer none, actV kind n b A l c] w fun e w' => e = .returned (.tuple #[.agg (bvs Zb).toArray, .int .i64 1]) ∧ Below w.heap.size w w' := by
  have hH := HapW.mk_ w kind n b A l c
  have HK := Lib.hid hkd
  have HS := Lib.hid hs
  have HH := Lib.hid hH
  have HZ := Lib.hid Zb_len
  have c0 := hH.c0
  have c1 := hH.c1
  have c2 := hH.c2
  have c3 := hH.c3
  clear hkd hs hH
  go_enter Try.func9, Try.ntmps9
  go_wp2_with (first
    | (with_reducible refine al_block rfl rfl ?_)
    | (go_at_call 13; refine (which_any kind n b A l c _).mono ?_; rintro e w2 ⟨rfl, hb2⟩; rw [HK.out]; have HH2 := Lib.hid (HH.out.keep hb2); have e0 := HH2.out.c0; have e1 := HH2.out.c1; have e2 := HH2.out.c2; have e3 := HH2.out.c3)
    | (go_at_call 21; refine (read_nil n _).mono ?_; rintro e w4 ⟨rfl, hb4⟩; have HH4 := Lib.hid (HH2.out.keep hb4))
    | (with_reducible refine st_block rfl (.tmp 4) (.tmp 18) rfl (w.heap.size + 1) 0 Zb HZ rfl rfl HH4.out.th ?_))
  exact bodyPost_ret (results_cell_tmp rfl _ _ (w.heap.size + 1) 0 (bvs Zb) _ rfl (there_set HZ.out HH4.out.th) Try.underlying37 rfl (size_of HZ.out)) rfl ⟨rfl, below_setCells HH4.out.below (Nat.le_succ _) 0 (bvs Zb)⟩

set_option maxRecDepth 100000 in
set_option maxHeartbeats 1600000 in
theorem happens_1n {w : World} {B : Nat} (kind n : Int) (b : UInt8) {A : Option Addr} {l c : Nat} {ks : List Bool} (hs : SlV w B A l c (bls ks)) (hB : B ≤ w.heap.size) (hkd : whichI kind = 1) :
    Calls Try.prog 9 #[.pointer none, actV kind n b A l c] w fun e w' => e = .returned (.tuple #[.agg (bvs Zb).toArray, .int .i64 1]) ∧ Below w.heap.size w w' := by
  have hH := HapW.mk_ w kind n b A l c
  have HK := Lib.hid hkd
  have HS := Lib.hid hs
  have HH := Lib.hid hH
  have HZ := Lib.hid Zb_len
  have c0 := hH.c0
  have c1 := hH.c1
  have c2 := hH.c2
  have c3 := hH.c3
  clear hkd hs hH
  go_enter Try.func9, Try.ntmps9
  go_wp2_with (first
    | (with_reducible refine al_block rfl rfl ?_)
    | (go_at_call 13; refine (which_any kind n b A l c _).mono ?_; rintro e w2 ⟨rfl, hb2⟩; rw [HK.out]; have HH2 := Lib.hid (HH.out.keep hb2); have e0 := HH2.out.c0; have e1 := HH2.out.c1; have e2 := HH2.out.c2; have e3 := HH2.out.c3)
    | fail)
  go_region_held3 (fun w' => w'.cell? ⟨w.heap.size, 0, none⟩ = some (.int .i64 kind) ∧ w'.cell? ⟨w.heap.size, 1, none⟩ = some (.int .i64 n) ∧ w'.cell? ⟨w.heap.size, 2, none⟩ = some (.int .u8 (b.toNat : Int)) ∧ w'.cell? ⟨w.heap.size, 3, none⟩ = some (.slice A l c))
    (first | exact ⟨k0, k1, k2, k3⟩ | exact ⟨HH3.out.c0, HH3.out.c1, HH3.out.c2, HH3.out.c3⟩ | exact ⟨e0, e1, e2, e3⟩)
    (first
      | (go_at_call 14; refine (block_any kind n b A l c _).mono ?_; rintro e w3 ⟨rfl, hb3⟩; have HH3 := Lib.hid (HH2.out.keep ((Below.refl _ _).drew.trans hb3)); clear hb3)
      | (go_at_call 20; refine (write_nil n (actB b) _).mono ?_; rintro e w4 ⟨rfl, hb4⟩; have HH4 := Lib.hid (HH3.out.keep hb4); have k0 := HH4.out.c0; have k1 := HH4.out.c1; have k2 := HH4.out.c2; have k3 := HH4.out.c3))
  go_wp2_with (first
    | (with_reducible refine ld_block rfl (.tmp 4) rfl (w.heap.size + 1) 0 Zb HZ rfl HH4.out.rg ?_)
    | (with_reducible refine st_block rfl (.tmp 4) (.tmp 45) rfl (w.heap.size + 1) 0 Zb HZ rfl rfl HH4.out.th ?_))
  exact bodyPost_ret (results_cell_tmp rfl _ _ (w.heap.size + 1) 0 (bvs Zb) _ rfl (there_set HZ.out HH4.out.th) Try.underlying37 rfl (size_of HZ.out)) rfl ⟨rfl, below_setCells HH4.out.below (Nat.le_succ _) 0 (bvs Zb)⟩

set_option maxRecDepth 100000 in
set_option maxHeartbeats 1600000 in
theorem happens_2n {w : World} {B : Nat} (kind n : Int) (b : UInt8) {A : Option Addr} {l c : Nat} {ks : List Bool} (hs : SlV w B A l c (bls ks)) (hB : B ≤ w.heap.size) (hkd : whichI kind = 2) :
    Calls Try.prog 9 #[.pointer none, actV kind n b A l c] w fun e w' => e = .returned (.tuple #[.agg (bvs Zb).toArray, .int .i64 1]) ∧ Below w.heap.size w w' := by
  have hH := HapW.mk_ w kind n b A l c
  have HK := Lib.hid hkd
  have HS := Lib.hid hs
  have HH := Lib.hid hH
  have HZ := Lib.hid Zb_len
  have c0 := hH.c0
  have c1 := hH.c1
  have c2 := hH.c2
  have c3 := hH.c3
  clear hkd hs hH
  go_enter Try.func9, Try.ntmps9
  go_wp2_with (first
    | (with_reducible refine al_block rfl rfl ?_)
    | (go_at_call 13; refine (which_any kind n b A l c _).mono ?_; rintro e w2 ⟨rfl, hb2⟩; rw [HK.out]; have HH2 := Lib.hid (HH.out.keep hb2); have e0 := HH2.out.c0; have e1 := HH2.out.c1; have e2 := HH2.out.c2; have e3 := HH2.out.c3)
    | fail)
  go_region_held3 (fun w' => w'.cell? ⟨w.heap.size, 0, none⟩ = some (.int .i64 kind) ∧ w'.cell? ⟨w.heap.size, 1, none⟩ = some (.int .i64 n) ∧ w'.cell? ⟨w.heap.size, 2, none⟩ = some (.int .u8 (b.toNat : Int)) ∧ w'.cell? ⟨w.heap.size, 3, none⟩ = some (.slice A l c))
    (first | exact ⟨k0, k1, k2, k3⟩ | exact ⟨HH3.out.c0, HH3.out.c1, HH3.out.c2, HH3.out.c3⟩ | exact ⟨e0, e1, e2, e3⟩)
    (first
      | (go_at_call 14; refine (block_any kind n b A l c _).mono ?_; rintro e w3 ⟨rfl, hb3⟩; have HH3 := Lib.hid (HH2.out.keep ((Below.refl _ _).drew.trans hb3)); clear hb3)
      | (go_at_call 20; refine (write_nil n (actB b) _).mono ?_; rintro e w4 ⟨rfl, hb4⟩; have HH4 := Lib.hid (HH3.out.keep hb4); have k0 := HH4.out.c0; have k1 := HH4.out.c1; have k2 := HH4.out.c2; have k3 := HH4.out.c3))
  go_wp2_with (first
    | (with_reducible refine ld_block rfl (.tmp 4) rfl (w.heap.size + 1) 0 Zb HZ rfl HH4.out.rg ?_)
    | (with_reducible refine st_block rfl (.tmp 4) (.tmp 45) rfl (w.heap.size + 1) 0 Zb HZ rfl rfl HH4.out.th ?_))
  exact bodyPost_ret (results_cell_tmp rfl _ _ (w.heap.size + 1) 0 (bvs Zb) _ rfl (there_set HZ.out HH4.out.th) Try.underlying37 rfl (size_of HZ.out)) rfl ⟨rfl, below_setCells HH4.out.below (Nat.le_succ _) 0 (bvs Zb)⟩

set_option maxRecDepth 100000 in
set_option maxHeartbeats 1600000 in
theorem happens_3n {w : World} {B : Nat} (kind n : Int) (b : UInt8) {A : Option Addr} {l c : Nat} {ks : List Bool} (hs : SlV w B A l c (bls ks)) (hB : B ≤ w.heap.size) (hkd : whichI kind = 3) :
    Calls Try.prog 9 #[.pointer none, actV kind n b A l c] w fun e w' => e = .returned (.tuple #[.agg (bvs Zb).toArray, .int .i64 1]) ∧ Below w.heap.size w w' := by
  have hH := HapW.mk_ w kind n b A l c
  have HK := Lib.hid hkd
  have HS := Lib.hid hs
  have HH := Lib.hid hH
  have HZ := Lib.hid Zb_len
  have c0 := hH.c0
  have c1 := hH.c1
  have c2 := hH.c2
  have c3 := hH.c3
  clear hkd hs hH
  go_enter Try.func9, Try.ntmps9
  go_wp2_with (first
    | (with_reducible refine al_block rfl rfl ?_)
    | (go_at_call 13; refine (which_any kind n b A l c _).mono ?_; rintro e w2 ⟨rfl, hb2⟩; rw [HK.out]; have HH2 := Lib.hid (HH.out.keep hb2); have e0 := HH2.out.c0; have e1 := HH2.out.c1; have e2 := HH2.out.c2; have e3 := HH2.out.c3)
    | (go_at_call 24; refine (sync_nil _).mono ?_; rintro e w4 ⟨rfl, hb4⟩; have HH4 := Lib.hid (HH2.out.keep hb4))
    | (with_reducible refine ld_block rfl (.tmp 4) rfl (w.heap.size + 1) 0 Zb HZ rfl HH4.out.rg ?_)
    | (with_reducible refine st_block rfl (.tmp 4) (.tmp 45) rfl (w.heap.size + 1) 0 Zb HZ rfl rfl HH4.out.th ?_))
  exact bodyPost_ret (results_cell_tmp rfl _ _ (w.heap.size + 1) 0 (bvs Zb) _ rfl (there_set HZ.out HH4.out.th) Try.underlying37 rfl (size_of HZ.out)) rfl ⟨rfl, below_setCells HH4.out.below (Nat.le_succ _) 0 (bvs Zb)⟩

set_option maxRecDepth 100000 in
set_option maxHeartbeats 1600000 in
theorem happens_4n {w : World} {B : Nat} (kind n : Int) (b : UInt8) {A : Option Addr} {l c : Nat} {ks : List Bool} (hs : SlV w B A l c (bls ks)) (hB : B ≤ w.heap.size) (hkd : whichI kind = 4) :
    Calls Try.prog 9 #[.pointer none, actV kind n b A l c] w fun e w' => e = .returned (.tuple #[.agg (bvs Zb).toArray, .int .i64 1]) ∧ Below w.heap.size w w' := by
  have hH := HapW.mk_ w kind n b A l c
  have HK := Lib.hid hkd
  have HS := Lib.hid hs
  have HH := Lib.hid hH
  have HZ := Lib.hid Zb_len
  have c0 := hH.c0
  have c1 := hH.c1
  have c2 := hH.c2
  have c3 := hH.c3
  clear hkd hs hH
  go_enter Try.func9, Try.ntmps9
  go_wp2_with (first
    | (with_reducible refine al_block rfl rfl ?_)
    | (go_at_call 13; refine (which_any kind n b A l c _).mono ?_; rintro e w2 ⟨rfl, hb2⟩; rw [HK.out]; have HH2 := Lib.hid (HH.out.keep hb2); have e0 := HH2.out.c0; have e1 := HH2.out.c1; have e2 := HH2.out.c2; have e3 := HH2.out.c3)
    | (go_at_call 22; refine (arm_nil n _).mono ?_; rintro e w4 ⟨rfl, hb4⟩; have HH4 := Lib.hid (HH2.out.keep hb4))
    | (with_reducible refine ld_block rfl (.tmp 4) rfl (w.heap.size + 1) 0 Zb HZ rfl HH4.out.rg ?_)
    | (with_reducible refine st_block rfl (.tmp 4) (.tmp 45) rfl (w.heap.size + 1) 0 Zb HZ rfl rfl HH4.out.th ?_))
  exact bodyPost_ret (results_cell_tmp rfl _ _ (w.heap.size + 1) 0 (bvs Zb) _ rfl (there_set HZ.out HH4.out.th) Try.underlying37 rfl (size_of HZ.out)) rfl ⟨rfl, below_setCells HH4.out.below (Nat.le_succ _) 0 (bvs Zb)⟩

set_option maxRecDepth 100000 in
set_option maxHeartbeats 1600000 in
theorem happens_5n {w : World} {B : Nat} (kind n : Int) (b : UInt8) {A : Option Addr} {l c : Nat} {ks : List Bool} (hs : SlV w B A l c (bls ks)) (hB : B ≤ w.heap.size) (hkd : whichI kind = 5) :
    Calls Try.prog 9 #[.pointer none, actV kind n b A l c] w fun e w' => e = .returned (.tuple #[.agg (bvs Zb).toArray, .int .i64 1]) ∧ Below w.heap.size w w' := by
  have hH := HapW.mk_ w kind n b A l c
  have HK := Lib.hid hkd
  have HS := Lib.hid hs
  have HH := Lib.hid hH
  have HZ := Lib.hid Zb_len
  have c0 := hH.c0
  have c1 := hH.c1
  have c2 := hH.c2
  have c3 := hH.c3
  clear hkd hs hH
  go_enter Try.func9, Try.ntmps9
  go_wp2_with (first
    | (with_reducible refine al_block rfl rfl ?_)
    | (go_at_call 13; refine (which_any kind n b A l c _).mono ?_; rintro e w2 ⟨rfl, hb2⟩; rw [HK.out]; have HH2 := Lib.hid (HH.out.keep hb2); have e0 := HH2.out.c0; have e1 := HH2.out.c1; have e2 := HH2.out.c2; have e3 := HH2.out.c3)
    | (go_at_call 26; refine (fail_nil n _).mono ?_; rintro e w4 ⟨rfl, hb4⟩; have HH4 := Lib.hid (HH2.out.keep hb4))
    | (with_reducible refine ld_block rfl (.tmp 4) rfl (w.heap.size + 1) 0 Zb HZ rfl HH4.out.rg ?_)
    | (with_reducible refine st_block rfl (.tmp 4) (.tmp 45) rfl (w.heap.size + 1) 0 Zb HZ rfl rfl HH4.out.th ?_))
  exact bodyPost_ret (results_cell_tmp rfl _ _ (w.heap.size + 1) 0 (bvs Zb) _ rfl (there_set HZ.out HH4.out.th) Try.underlying37 rfl (size_of HZ.out)) rfl ⟨rfl, below_setCells HH4.out.below (Nat.le_succ _) 0 (bvs Zb)⟩

set_option maxRecDepth 100000 in
set_option maxHeartbeats 1600000 in
theorem happens_6n {w : World} {B : Nat} (kind n : Int) (b : UInt8) {A : Option Addr} {l c : Nat} {ks : List Bool} (hs : SlV w B A l c (bls ks)) (hB : B ≤ w.heap.size) (hkd : whichI kind = 6) :
    Calls Try.prog 9 #[.pointer none, actV kind n b A l c] w fun e w' => e = .returned (.tuple #[.agg (bvs Zb).toArray, .int .i64 1]) ∧ Below w.heap.size w w' := by
  have hH := HapW.mk_ w kind n b A l c
  have HK := Lib.hid hkd
  have HS := Lib.hid hs
  have HH := Lib.hid hH
  have HZ := Lib.hid Zb_len
  have c0 := hH.c0
  have c1 := hH.c1
  have c2 := hH.c2
  have c3 := hH.c3
  clear hkd hs hH
  go_enter Try.func9, Try.ntmps9
  go_wp2_with (first
    | (with_reducible refine al_block rfl rfl ?_)
    | (go_at_call 13; refine (which_any kind n b A l c _).mono ?_; rintro e w2 ⟨rfl, hb2⟩; rw [HK.out]; have HH2 := Lib.hid (HH.out.keep hb2); have e0 := HH2.out.c0; have e1 := HH2.out.c1; have e2 := HH2.out.c2; have e3 := HH2.out.c3)
    | (go_at_call 27; refine (keep_any2 (w := w2) (B := B) kind n b (ks := ks) (HS.out.keep fun p hp => HH2.out.below.cell (p := p) (by omega)) (by have := HH2.out.below.size; omega)).mono ?_; rintro e w3 ⟨A', n', c', rfl, hs3, hoff3, hb3⟩; have HS3 := Lib.hid hs3; have HH3 := Lib.hid (HH2.out.keep hb3); have HOFF := Lib.hid hoff3; clear hs3 hoff3)
    | (go_at_call 17; refine (crash_nil (.slice A' n' c') ⟨A', n', c', rfl⟩ _).mono ?_; rintro e w4 ⟨rfl, hb4⟩; have HH4 := Lib.hid (HH3.out.keep hb4))
    | (with_reducible refine ld_block rfl (.tmp 4) rfl (w.heap.size + 1) 0 Zb HZ rfl HH4.out.rg ?_)
    | (with_reducible refine st_block rfl (.tmp 4) (.tmp 45) rfl (w.heap.size + 1) 0 Zb HZ rfl rfl HH4.out.th ?_))
  exact bodyPost_ret (results_cell_tmp rfl _ _ (w.heap.size + 1) 0 (bvs Zb) _ rfl (there_set HZ.out HH4.out.th) Try.underlying37 rfl (size_of HZ.out)) rfl ⟨rfl, below_setCells HH4.out.below (Nat.le_succ _) 0 (bvs Zb)⟩

set_option maxRecDepth 100000 in
set_option maxHeartbeats 1600000 in
theorem happens_0 {w : World} {g : Nat} {S : Nat → Prop} {M : Mo} {B : Nat} (kind n : Int) (b : UInt8) {A : Option Addr} {l c : Nat} {ks : List Bool} (hs : SlV w B A l c (bls ks)) (hB : B ≤ w.heap.size) (h : Dk w g S M) (hops : M.ops ≤ 1000000000) (hwt : M.wt.length ≤ 1000000000) (hkd : whichI kind = 0) :
    Calls Try.prog 9 #[rp g, actV kind n b A l c] w fun e w' => e = .returned (.tuple #[.agg (bvs (M.read n).2.1).toArray, .int .i64 (M.read n).2.2]) ∧ Stepped w g S (M.read n).1 w' := by
  have hH := HapW.mk_ w kind n b A l c
  have HK := Lib.hid hkd
  have HD := Lib.hid h
  have HLT := Lib.hid h.lt
  have HOPS := Lib.hid hops
  have HWT := Lib.hid hwt
  have HL := Lib.hid (read_len h.ok n)
  clear h hops hwt
  have HS := Lib.hid hs
  have HH := Lib.hid hH
  have HZ := Lib.hid Zb_len
  have c0 := hH.c0
  have c1 := hH.c1
  have c2 := hH.c2
  have c3 := hH.c3
  clear hkd hs hH
  go_enter Try.func9, Try.ntmps9
  go_wp2_with (first
    | (with_reducible refine al_block rfl rfl ?_)
    | (go_at_call 13; refine (which_any kind n b A l c _).mono ?_; rintro e w2 ⟨rfl, hb2⟩; rw [HK.out]; have HH2 := Lib.hid (HH.out.keep hb2); have e0 := HH2.out.c0; have e1 := HH2.out.c1; have e2 := HH2.out.c2; have e3 := HH2.out.c3)
    | (go_at_call 21; refine (read_dk (w := w2) (HD.out.below HH2.out.below) n (by have := HOPS.out; omega)).mono ?_; rintro e w4 ⟨rfl, hst⟩; have HST := Lib.hid hst; have HB4 := Lib.hid (hst.blk (r := w.heap.size + 1) HH2.out.size (fun hS => by have := HLT.out _ hS; omega)); have HTH := Lib.hid (there_keep HH2.out.th HB4.out); have HRG := Lib.hid (rangeAt_keep HH2.out.rg HB4.out); clear hst)
    | (with_reducible refine st_block rfl (.tmp 4) (.tmp 18) rfl (w.heap.size + 1) 0 (M.read n).2.1 HL rfl rfl HTH.out ?_))
  exact bodyPost_ret (results_cell_tmp rfl _ _ (w.heap.size + 1) 0 (bvs (M.read n).2.1) _ rfl (there_set HL.out HTH.out) Try.underlying37 rfl (size_of HL.out)) rfl ⟨rfl, HST.out.post HH2.out.below (r := w.heap.size + 1) (Nat.le_succ _) HH2.out.size (fun hS => by have := HLT.out _ hS; omega) 0 (bvs (M.read n).2.1)⟩

set_option maxRecDepth 100000 in
set_option maxHeartbeats 1600000 in
theorem happens_1 {w : World} {g : Nat} {S : Nat → Prop} {M : Mo} {B : Nat} (kind n : Int) (b : UInt8) {A : Option Addr} {l c : Nat} {ks : List Bool} (hs : SlV w B A l c (bls ks)) (hB : B ≤ w.heap.size) (h : Dk w g S M) (hops : M.ops ≤ 1000000000) (hwt : M.wt.length ≤ 1000000000) (hkd : whichI kind = 1) :
    Calls Try.prog 9 #[rp g, actV kind n b A l c] w fun e w' => e = .returned (.tuple #[.agg (bvs Zb).toArray, .int .i64 (M.write n (actB b)).2]) ∧ Stepped w g S (M.write n (actB b)).1 w' := by
  have hH := HapW.mk_ w kind n b A l c
  have HK := Lib.hid hkd
  have HD := Lib.hid h
  have HLT := Lib.hid h.lt
  have HOPS := Lib.hid hops
  have HWT := Lib.hid hwt
  clear h hops hwt
  have HS := Lib.hid hs
  have HH := Lib.hid hH
  have HZ := Lib.hid Zb_len
  have c0 := hH.c0
  have c1 := hH.c1
  have c2 := hH.c2
  have c3 := hH.c3
  clear hkd hs hH
  go_enter Try.func9, Try.ntmps9
  go_wp2_with (first
    | (with_reducible refine al_block rfl rfl ?_)
    | (go_at_call 13; refine (which_any kind n b A l c _).mono ?_; rintro e w2 ⟨rfl, hb2⟩; rw [HK.out]; have HH2 := Lib.hid (HH.out.keep hb2); have e0 := HH2.out.c0; have e1 := HH2.out.c1; have e2 := HH2.out.c2; have e3 := HH2.out.c3)
    | fail)
  go_region_held3 (fun w' => w'.cell? ⟨w.heap.size, 0, none⟩ = some (.int .i64 kind) ∧ w'.cell? ⟨w.heap.size, 1, none⟩ = some (.int .i64 n) ∧ w'.cell? ⟨w.heap.size, 2, none⟩ = some (.int .u8 (b.toNat : Int)) ∧ w'.cell? ⟨w.heap.size, 3, none⟩ = some (.slice A l c))
    (first | exact ⟨k0, k1, k2, k3⟩ | exact ⟨HH3.out.c0, HH3.out.c1, HH3.out.c2, HH3.out.c3⟩ | exact ⟨e0, e1, e2, e3⟩)
    (first
      | (go_at_call 14; refine (block_any kind n b A l c _).mono ?_; rintro e w3 ⟨rfl, hb3⟩; have HH3 := Lib.hid (HH2.out.keep ((Below.refl _ _).drew.trans hb3)); clear hb3)
      | (go_at_call 20; refine (write_dk (w := w3) (HD.out.below HH3.out.below) n (actB b) (actB_len b) (by have := HOPS.out; omega) HWT.out).mono ?_; rintro e w4 ⟨rfl, hst⟩; have HST := Lib.hid hst; have HB4 := Lib.hid (hst.blk (r := w.heap.size + 1) HH3.out.size (fun hS => by have := HLT.out _ hS; omega)); have HTH := Lib.hid (there_keep HH3.out.th HB4.out); have HRG := Lib.hid (rangeAt_keep HH3.out.rg HB4.out); clear hst; have HK0 := Lib.hid (HST.out.blk (r := w.heap.size) (by have := HH3.out.size; omega) (fun hS => by have := HLT.out _ hS; omega)); have k0 := cell_of_blk HK0.out HH3.out.c0; have k1 := cell_of_blk HK0.out HH3.out.c1; have k2 := cell_of_blk HK0.out HH3.out.c2; have k3 := cell_of_blk HK0.out HH3.out.c3))
  go_wp2_with (first
    | (with_reducible refine ld_block rfl (.tmp 4) rfl (w.heap.size + 1) 0 Zb HZ rfl HRG.out ?_)
    | (with_reducible refine st_block rfl (.tmp 4) (.tmp 45) rfl (w.heap.size + 1) 0 Zb HZ rfl rfl HTH.out ?_))
  exact bodyPost_ret (results_cell_tmp rfl _ _ (w.heap.size + 1) 0 (bvs Zb) _ rfl (there_set HZ.out HTH.out) Try.underlying37 rfl (size_of HZ.out)) rfl ⟨rfl, HST.out.post HH3.out.below (r := w.heap.size + 1) (Nat.le_succ _) HH3.out.size (fun hS => by have := HLT.out _ hS; omega) 0 (bvs Zb)⟩

set_option maxRecDepth 100000 in
set_option maxHeartbeats 1600000 in
theorem happens_2 {w : World} {g : Nat} {S : Nat → Prop} {M : Mo} {B : Nat} (kind n : Int) (b : UInt8) {A : Option Addr} {l c : Nat} {ks : List Bool} (hs : SlV w B A l c (bls ks)) (hB : B ≤ w.heap.size) (h : Dk w g S M) (hops : M.ops ≤ 1000000000) (hwt : M.wt.length ≤ 1000000000) (hkd : whichI kind = 2) :
    Calls Try.prog 9 #[rp g, actV kind n b A l c] w fun e w' => e = .returned (.tuple #[.agg (bvs Zb).toArray, .int .i64 (M.write n (actB b)).2]) ∧ Stepped w g S (M.write n (actB b)).1 w' := by
  have hH := HapW.mk_ w kind n b A l c
  have HK := Lib.hid hkd
  have HD := Lib.hid h
  have HLT := Lib.hid h.lt
  have HOPS := Lib.hid hops
  have HWT := Lib.hid hwt
  clear h hops hwt
  have HS := Lib.hid hs
  have HH := Lib.hid hH
  have HZ := Lib.hid Zb_len
  have c0 := hH.c0
  have c1 := hH.c1
  have c2 := hH.c2
  have c3 := hH.c3
  clear hkd hs hH
  go_enter Try.func9, Try.ntmps9
  go_wp2_with (first
    | (with_reducible refine al_block rfl rfl ?_)
    | (go_at_call 13; refine (which_any kind n b A l c _).mono ?_; rintro e w2 ⟨rfl, hb2⟩; rw [HK.out]; have HH2 := Lib.hid (HH.out.keep hb2); have e0 := HH2.out.c0; have e1 := HH2.out.c1; have e2 := HH2.out.c2; have e3 := HH2.out.c3)
    | fail)
  go_region_held3 (fun w' => w'.cell? ⟨w.heap.size, 0, none⟩ = some (.int .i64 kind) ∧ w'.cell? ⟨w.heap.size, 1, none⟩ = some (.int .i64 n) ∧ w'.cell? ⟨w.heap.size, 2, none⟩ = some (.int .u8 (b.toNat : Int)) ∧ w'.cell? ⟨w.heap.size, 3, none⟩ = some (.slice A l c))
    (first | exact ⟨k0, k1, k2, k3⟩ | exact ⟨HH3.out.c0, HH3.out.c1, HH3.out.c2, HH3.out.c3⟩ | exact ⟨e0, e1, e2, e3⟩)
    (first
      | (go_at_call 14; refine (block_any kind n b A l c _).mono ?_; rintro e w3 ⟨rfl, hb3⟩; have HH3 := Lib.hid (HH2.out.keep ((Below.refl _ _).drew.trans hb3)); clear hb3)
      | (go_at_call 20; refine (write_dk (w := w3) (HD.out.below HH3.out.below) n (actB b) (actB_len b) (by have := HOPS.out; omega) HWT.out).mono ?_; rintro e w4 ⟨rfl, hst⟩; have HST := Lib.hid hst; have HB4 := Lib.hid (hst.blk (r := w.heap.size + 1) HH3.out.size (fun hS => by have := HLT.out _ hS; omega)); have HTH := Lib.hid (there_keep HH3.out.th HB4.out); have HRG := Lib.hid (rangeAt_keep HH3.out.rg HB4.out); clear hst; have HK0 := Lib.hid (HST.out.blk (r := w.heap.size) (by have := HH3.out.size; omega) (fun hS => by have := HLT.out _ hS; omega)); have k0 := cell_of_blk HK0.out HH3.out.c0; have k1 := cell_of_blk HK0.out HH3.out.c1; have k2 := cell_of_blk HK0.out HH3.out.c2; have k3 := cell_of_blk HK0.out HH3.out.c3))
  go_wp2_with (first
    | (with_reducible refine ld_block rfl (.tmp 4) rfl (w.heap.size + 1) 0 Zb HZ rfl HRG.out ?_)
    | (with_reducible refine st_block rfl (.tmp 4) (.tmp 45) rfl (w.heap.size + 1) 0 Zb HZ rfl rfl HTH.out ?_))
  exact bodyPost_ret (results_cell_tmp rfl _ _ (w.heap.size + 1) 0 (bvs Zb) _ rfl (there_set HZ.out HTH.out) Try.underlying37 rfl (size_of HZ.out)) rfl ⟨rfl, HST.out.post HH3.out.below (r := w.heap.size + 1) (Nat.le_succ _) HH3.out.size (fun hS => by have := HLT.out _ hS; omega) 0 (bvs Zb)⟩

set_option maxRecDepth 100000 in
set_option maxHeartbeats 1600000 in
theorem happens_3 {w : World} {g : Nat} {S : Nat → Prop} {M : Mo} {B : Nat} (kind n : Int) (b : UInt8) {A : Option Addr} {l c : Nat} {ks : List Bool} (hs : SlV w B A l c (bls ks)) (hB : B ≤ w.heap.size) (h : Dk w g S M) (hops : M.ops ≤ 1000000000) (hwt : M.wt.length ≤ 1000000000) (hkd : whichI kind = 3) :
    Calls Try.prog 9 #[rp g, actV kind n b A l c] w fun e w' => e = .returned (.tuple #[.agg (bvs Zb).toArray, .int .i64 M.sync.2]) ∧ Stepped w g S M.sync.1 w' := by
  have hH := HapW.mk_ w kind n b A l c
  have HK := Lib.hid hkd
  have HD := Lib.hid h
  have HLT := Lib.hid h.lt
  have HOPS := Lib.hid hops
  have HWT := Lib.hid hwt
  clear h hops hwt
  have HS := Lib.hid hs
  have HH := Lib.hid hH
  have HZ := Lib.hid Zb_len
  have c0 := hH.c0
  have c1 := hH.c1
  have c2 := hH.c2
  have c3 := hH.c3
  clear hkd hs hH
  go_enter Try.func9, Try.ntmps9
  go_wp2_with (first
    | (with_reducible refine al_block rfl rfl ?_)
    | (go_at_call 13; refine (which_any kind n b A l c _).mono ?_; rintro e w2 ⟨rfl, hb2⟩; rw [HK.out]; have HH2 := Lib.hid (HH.out.keep hb2); have e0 := HH2.out.c0; have e1 := HH2.out.c1; have e2 := HH2.out.c2; have e3 := HH2.out.c3)
    | (go_at_call 24; refine (sync_dk (w := w2) (HD.out.below HH2.out.below) (by have := HOPS.out; omega) HWT.out).mono ?_; rintro e w4 ⟨rfl, hst⟩; have HST := Lib.hid hst; have HB4 := Lib.hid (hst.blk (r := w.heap.size + 1) HH2.out.size (fun hS => by have := HLT.out _ hS; omega)); have HTH := Lib.hid (there_keep HH2.out.th HB4.out); have HRG := Lib.hid (rangeAt_keep HH2.out.rg HB4.out); clear hst)
    | (with_reducible refine ld_block rfl (.tmp 4) rfl (w.heap.size + 1) 0 Zb HZ rfl HRG.out ?_)
    | (with_reducible refine st_block rfl (.tmp 4) (.tmp 45) rfl (w.heap.size + 1) 0 Zb HZ rfl rfl HTH.out ?_))
  exact bodyPost_ret (results_cell_tmp rfl _ _ (w.heap.size + 1) 0 (bvs Zb) _ rfl (there_set HZ.out HTH.out) Try.underlying37 rfl (size_of HZ.out)) rfl ⟨rfl, HST.out.post HH2.out.below (r := w.heap.size + 1) (Nat.le_succ _) HH2.out.size (fun hS => by have := HLT.out _ hS; omega) 0 (bvs Zb)⟩

set_option maxRecDepth 100000 in
set_option maxHeartbeats 1600000 in
theorem happens_4 {w : World} {g : Nat} {S : Nat → Prop} {M : Mo} {B : Nat} (kind n : Int) (b : UInt8) {A : Option Addr} {l c : Nat} {ks : List Bool} (hs : SlV w B A l c (bls ks)) (hB : B ≤ w.heap.size) (h : Dk w g S M) (hops : M.ops ≤ 1000000000) (hwt : M.wt.length ≤ 1000000000) (hn : -9223372036854775808 ≤ n ∧ n ≤ 9223372036854775807) (hkd : whichI kind = 4) :
    Calls Try.prog 9 #[rp g, actV kind n b A l c] w fun e w' => e = .returned (.tuple #[.agg (bvs Zb).toArray, .int .i64 (M.arm n).2]) ∧ Stepped w g S (M.arm n).1 w' := by
  have hH := HapW.mk_ w kind n b A l c
  have HK := Lib.hid hkd
  have HD := Lib.hid h
  have HLT := Lib.hid h.lt
  have HOPS := Lib.hid hops
  have HWT := Lib.hid hwt
  have HN := Lib.hid hn
  clear hn
  clear h hops hwt
  have HS := Lib.hid hs
  have HH := Lib.hid hH
  have HZ := Lib.hid Zb_len
  have c0 := hH.c0
  have c1 := hH.c1
  have c2 := hH.c2
  have c3 := hH.c3
  clear hkd hs hH
  go_enter Try.func9, Try.ntmps9
  go_wp2_with (first
    | (with_reducible refine al_block rfl rfl ?_)
    | (go_at_call 13; refine (which_any kind n b A l c _).mono ?_; rintro e w2 ⟨rfl, hb2⟩; rw [HK.out]; have HH2 := Lib.hid (HH.out.keep hb2); have e0 := HH2.out.c0; have e1 := HH2.out.c1; have e2 := HH2.out.c2; have e3 := HH2.out.c3)
    | (go_at_call 22; refine (arm_dk (w := w2) (HD.out.below HH2.out.below) n HN.out).mono ?_; rintro e w4 ⟨rfl, hst⟩; have HST := Lib.hid hst; have HB4 := Lib.hid (hst.blk (r := w.heap.size + 1) HH2.out.size (fun hS => by have := HLT.out _ hS; omega)); have HTH := Lib.hid (there_keep HH2.out.th HB4.out); have HRG := Lib.hid (rangeAt_keep HH2.out.rg HB4.out); clear hst)
    | (with_reducible refine ld_block rfl (.tmp 4) rfl (w.heap.size + 1) 0 Zb HZ rfl HRG.out ?_)
    | (with_reducible refine st_block rfl (.tmp 4) (.tmp 45) rfl (w.heap.size + 1) 0 Zb HZ rfl rfl HTH.out ?_))
  exact bodyPost_ret (results_cell_tmp rfl _ _ (w.heap.size + 1) 0 (bvs Zb) _ rfl (there_set HZ.out HTH.out) Try.underlying37 rfl (size_of HZ.out)) rfl ⟨rfl, HST.out.post HH2.out.below (r := w.heap.size + 1) (Nat.le_succ _) HH2.out.size (fun hS => by have := HLT.out _ hS; omega) 0 (bvs Zb)⟩

set_option maxRecDepth 100000 in
set_option maxHeartbeats 1600000 in
theorem happens_5 {w : World} {g : Nat} {S : Nat → Prop} {M : Mo} {B : Nat} (kind n : Int) (b : UInt8) {A : Option Addr} {l c : Nat} {ks : List Bool} (hs : SlV w B A l c (bls ks)) (hB : B ≤ w.heap.size) (h : Dk w g S M) (hops : M.ops ≤ 1000000000) (hwt : M.wt.length ≤ 1000000000) (hn : -9223372036854775808 ≤ n ∧ n ≤ 9223372036854775807) (hkd : whichI kind = 5) :
    Calls Try.prog 9 #[rp g, actV kind n b A l c] w fun e w' => e = .returned (.tuple #[.agg (bvs Zb).toArray, .int .i64 (M.fail n).2]) ∧ Stepped w g S (M.fail n).1 w' := by
  have hH := HapW.mk_ w kind n b A l c
  have HK := Lib.hid hkd
  have HD := Lib.hid h
  have HLT := Lib.hid h.lt
  have HOPS := Lib.hid hops
  have HWT := Lib.hid hwt
  have HN := Lib.hid hn
  clear hn
  clear h hops hwt
  have HS := Lib.hid hs
  have HH := Lib.hid hH
  have HZ := Lib.hid Zb_len
  have c0 := hH.c0
  have c1 := hH.c1
  have c2 := hH.c2
  have c3 := hH.c3
  clear hkd hs hH
  go_enter Try.func9, Try.ntmps9
  go_wp2_with (first
    | (with_reducible refine al_block rfl rfl ?_)
    | (go_at_call 13; refine (which_any kind n b A l c _).mono ?_; rintro e w2 ⟨rfl, hb2⟩; rw [HK.out]; have HH2 := Lib.hid (HH.out.keep hb2); have e0 := HH2.out.c0; have e1 := HH2.out.c1; have e2 := HH2.out.c2; have e3 := HH2.out.c3)
    | (go_at_call 26; refine (fail_dk (w := w2) (HD.out.below HH2.out.below) n HN.out).mono ?_; rintro e w4 ⟨rfl, hst⟩; have HST := Lib.hid hst; have HB4 := Lib.hid (hst.blk (r := w.heap.size + 1) HH2.out.size (fun hS => by have := HLT.out _ hS; omega)); have HTH := Lib.hid (there_keep HH2.out.th HB4.out); have HRG := Lib.hid (rangeAt_keep HH2.out.rg HB4.out); clear hst)
    | (with_reducible refine ld_block rfl (.tmp 4) rfl (w.heap.size + 1) 0 Zb HZ rfl HRG.out ?_)
    | (with_reducible refine st_block rfl (.tmp 4) (.tmp 45) rfl (w.heap.size + 1) 0 Zb HZ rfl rfl HTH.out ?_))
  exact bodyPost_ret (results_cell_tmp rfl _ _ (w.heap.size + 1) 0 (bvs Zb) _ rfl (there_set HZ.out HTH.out) Try.underlying37 rfl (size_of HZ.out)) rfl ⟨rfl, HST.out.post HH2.out.below (r := w.heap.size + 1) (Nat.le_succ _) HH2.out.size (fun hS => by have := HLT.out _ hS; omega) 0 (bvs Zb)⟩

set_option maxRecDepth 100000 in
set_option maxHeartbeats 1600000 in
theorem happens_6 {w : World} {g : Nat} {S : Nat → Prop} {M : Mo} {B : Nat} (kind n : Int) (b : UInt8) {A : Option Addr} {l c : Nat} {ks : List Bool} (hs : SlV w B A l c (bls ks)) (hB : B ≤ w.heap.size) (h : Dk w g S M) (hops : M.ops ≤ 1000000000) (hwt : M.wt.length ≤ 1000000000) (hkd : whichI kind = 6) :
    Calls Try.prog 9 #[rp g, actV kind n b A l c] w fun e w' => e = .returned (.tuple #[.agg (bvs Zb).toArray, .int .i64 0]) ∧ Stepped w g S (M.crash (lvB (ks.take 200))) w' := by
  have hH := HapW.mk_ w kind n b A l c
  have HK := Lib.hid hkd
  have HD := Lib.hid h
  have HLT := Lib.hid h.lt
  have HOPS := Lib.hid hops
  have HWT := Lib.hid hwt
  clear h hops hwt
  have HS := Lib.hid hs
  have HH := Lib.hid hH
  have HZ := Lib.hid Zb_len
  have c0 := hH.c0
  have c1 := hH.c1
  have c2 := hH.c2
  have c3 := hH.c3
  clear hkd hs hH
  go_enter Try.func9, Try.ntmps9
  go_wp2_with (first
    | (with_reducible refine al_block rfl rfl ?_)
    | (go_at_call 13; refine (which_any kind n b A l c _).mono ?_; rintro e w2 ⟨rfl, hb2⟩; rw [HK.out]; have HH2 := Lib.hid (HH.out.keep hb2); have e0 := HH2.out.c0; have e1 := HH2.out.c1; have e2 := HH2.out.c2; have e3 := HH2.out.c3)
    | (go_at_call 27; refine (keep_any2 (w := w2) (B := B) kind n b (ks := ks) (HS.out.keep fun p hp => HH2.out.below.cell (p := p) (by omega)) (by have := HH2.out.below.size; omega)).mono ?_; rintro e w3 ⟨A', n', c', rfl, hs3, hoff3, hb3⟩; have HS3 := Lib.hid hs3; have HH3 := Lib.hid (HH2.out.keep hb3); have HOFF := Lib.hid hoff3; clear hs3 hoff3)
    | (go_at_call 17; refine (crash_dk (w := w3) (HD.out.below HH3.out.below) (A := A') (c := c') (l := ks.take 200) HS3.out (Nat.le_refl _) (fun x hx hS => by have h1 := HOFF.out x hx; have h2 := HLT.out _ hS; have h3 := HH2.out.below.size; omega) HWT.out).mono ?_; rintro e w4 ⟨rfl, hst⟩; have HST := Lib.hid hst; have HB4 := Lib.hid (hst.blk (r := w.heap.size + 1) HH3.out.size (fun hS => by have := HLT.out _ hS; omega)); have HTH := Lib.hid (there_keep HH3.out.th HB4.out); have HRG := Lib.hid (rangeAt_keep HH3.out.rg HB4.out); clear hst)
    | (with_reducible refine ld_block rfl (.tmp 4) rfl (w.heap.size + 1) 0 Zb HZ rfl HRG.out ?_)
    | (with_reducible refine st_block rfl (.tmp 4) (.tmp 45) rfl (w.heap.size + 1) 0 Zb HZ rfl rfl HTH.out ?_))
  exact bodyPost_ret (results_cell_tmp rfl _ _ (w.heap.size + 1) 0 (bvs Zb) _ rfl (there_set HZ.out HTH.out) Try.underlying37 rfl (size_of HZ.out)) rfl ⟨rfl, HST.out.post HH3.out.below (r := w.heap.size + 1) (Nat.le_succ _) HH3.out.size (fun hS => by have := HLT.out _ hS; omega) 0 (bvs Zb)⟩
end Go.Proofs.Ytionbjocfepkaaa
