/-
  OBJECTS: the parts of a map, told one by one.
-/
import Derived.Test.YtcofkhmgmemkmaaGreatDoorK24
import Derived.WalkKit
import Derived.RangeFuncMany
namespace Go.Proofs.YtcofkhmgmemkmaaGreatDoor
set_option linter.unusedVariables false
set_option linter.unusedSimpArgs false
open Go.RowKit Go.WideShapes Go.ChangeShapes Go.Deep Go.Shelf
attribute [local irreducible] wpQuiet
attribute [local go_sem] Oper.semAt_some

def blobO (t : ByteArray) : Ov := { kOv 1 with text := t }
def leafO (r : Rw) : Lf := ⟨r.p, idW (blobO r.t)⟩
def treeO (rs : List Rw) : Ov := { kOv 2 with lv := rs.map leafO }
/-- The parts of a map, one behind the other. -/
def allO (rs : List Rw) : List Ov := rs.map (fun r => blobO r.t) ++ [treeO rs]
theorem allO_len (rs : List Rw) : (allO rs).length = rs.length + 1 := by simp [allO]
/-- What is told: an object, and where its leaves lie. -/
abbrev El := Ov × Sl
def El.hd (x : El) : Hd := ⟨idW x.1, x.1.at_ x.2 nSl nSl, ⟨rfl, rfl, rfl⟩⟩
def elV (x : El) : Value := .agg (El.hd x).cells.toArray
/-- What of the loop's world turns between two of them. -/
def tT : TypeId → Bool := fun t => t == 34 || t == 68
/-- The slice in block M does not lie in block k. -/
def Np (M : Nat) (W : World) (k : Nat) : Prop := ∀ (ad : Addr) (n c : Nat), ad.block = k → W.cell? ⟨M, 0, none⟩ ≠ some (.slice (some ad) n c)
/-- The slice in block M lies in a block of its own kind. -/
def Fm (M : Nat) (W : World) : Prop := ∀ (ad : Addr) (n c : Nat), W.cell? ⟨M, 0, none⟩ = some (.slice (some ad) n c) → ∃ cs f, W.heap[ad.block]? = some (.cells cs 54 f)
theorem Fm.new {M : Nat} {W : World} (h : Fm M W) {k : Nat} (hk : W.heap.size ≤ k) : Np M W k := fun ad n c ha e => by
  obtain ⟨cs, f, hb⟩ := h ad n c e
  have := (Array.getElem?_eq_some_iff.1 hb).1
  omega
theorem Fm.ty {M : Nat} {W : World} (h : Fm M W) {k : Nat} {cs : Array Value} {t : TypeId} {f : Nat × Nat} (hk : W.heap[k]? = some (.cells cs t f)) (ht : t ≠ 54) : Np M W k := fun ad n c ha e => by
  obtain ⟨cs', f', hb⟩ := h ad n c e
  rw [ha, hk] at hb
  injection hb with hb
  injection hb with _ h2
  exact ht h2
/-- What the loop's body leaves be: all but its own variables, which lie ahead of V0, and the row in block M's slice. -/
structure Kq (n₀ V0 M : Nat) (A B : World) : Prop where
  bel : Below n₀ A B
  kp : ∀ (k : Nat) (cs : Array Value) (t : TypeId) (f : Nat × Nat), V0 ≤ k → Np M A k → A.heap[k]? = some (.cells cs t f) → B.heap[k]? = some (.cells cs t f)
  ow : ∀ k, k < A.heap.size → Np M A k → Np M B k
section
variable {n₀ V0 M : Nat} {A B C : World}
theorem np_same {k : Nat} (h : Np M A k) (e : B.heap[M]? = A.heap[M]?) : Np M B k := fun ad n c ha => by rw [World.cell?_of_block (a := ⟨M, 0, none⟩) e]; exact h ad n c ha
theorem Kq.trans (h : Kq n₀ V0 M A B) (k : Kq n₀ V0 M B C) : Kq n₀ V0 M A C :=
  ⟨h.bel.trans k.bel, fun j cs t f hv hn hj => k.kp j cs t f hv (h.ow j (Array.getElem?_eq_some_iff.1 hj).1 hn) (h.kp j cs t f hv hn hj), fun j hj hn => k.ow j (Nat.lt_of_lt_of_le hj h.bel.size) (h.ow j hj hn)⟩
theorem Kq.below (h : Below A.heap.size A B) (h0 : n₀ ≤ A.heap.size) (hM : M < A.heap.size) : Kq n₀ V0 M A B :=
  ⟨h.mono h0, fun j cs t f _ _ hj => (h.block j (Array.getElem?_eq_some_iff.1 hj).1).trans hj, fun j _ hn => np_same hn (h.block M hM)⟩
theorem Kq.lt (h : Kq n₀ V0 M A B) {b k : Nat} {t : TypeId} {l : List Value} (hl : Lt A b t k l) (hv : V0 ≤ b) (hn : Np M A b) : Lt B b t k l := by
  obtain ⟨cs, f, hb⟩ := hl.ty
  have h' := h.kp b cs t f hv hn hb
  exact ⟨hl.ls.kp (h'.trans hb.symm) h.bel.size, cs, f, h'⟩
end
theorem own_keep {w w' : World} {base : Nat} {e : TypeId} {k : Nat} {v : Value} {n : Nat} {xs : List Value} (h : w.ownsRow base e k v n xs) (hk : ∀ g, v.ownBlock = some g → w'.heap[g]? = w.heap[g]?) : w'.ownsRow base e k v n xs := by
  rcases h with ⟨h1, h2 | ⟨g, cap, cur, h2, h3, h4, h5⟩⟩
  · exact ⟨h1, .inl h2⟩
  · exact ⟨h1, .inr ⟨g, cap, cur, h2, h3, (hk g (by rw [h2]; rfl)).trans h4, h5⟩⟩
/-- Its leaves lie in a block of leaves. -/
def Ty (W : World) (x : El) : Prop := ∀ ad, x.2.a = some ad → ∃ cs f, W.heap[ad.block]? = some (Obj.cells cs 68 f)
/-- Which ones are told. -/
def Vx (rs : List Rw) (pre : List El) (x : El) (W : World) : Prop := (allO rs)[pre.length]? = some x.1 ∧ Obj3 W W.heap.size x.1 x.2 nSl nSl ∧ x.2.n ≤ 100 ∧ S3.GK W ∧ (pre.length < rs.length → x.2 = nSl) ∧ Ty W x
theorem gk_keep {w w' : World} {n₀ : Nat} (h : S3.GK w) (hb : Below n₀ w w') (h0 : 0 < n₀) : S3.GK w' :=
  ⟨Nat.lt_of_lt_of_le h.lt hb.size, fun j v hv => (World.cell?_of_block (a := ⟨0, 0 + j, none⟩) (hb.block 0 h0)).trans (h.rg j v hv)⟩
theorem blob_ok {W : World} {B : Nat} (t : ByteArray) : Obj3 W B (blobO t) nSl nSl nSl := by
  have k := kOv_ok (w := W) (B := B) (k := 1) ⟨by decide, by decide⟩
  exact ⟨k.l, k.p, k.e, k.kb, k.sb, k.nb, k.ab⟩
theorem tree_ok {W : World} {B : Nat} {rs : List Rw} {L : Sl} (h : SqL W B L.a L.n L.c (rs.map leafO)) : Obj3 W B (treeO rs) L nSl nSl := by
  have k := kOv_ok (w := W) (B := B) (k := 2) ⟨by decide, by decide⟩
  exact ⟨h, k.p, k.e, k.kb, k.sb, k.nb, k.ab⟩
theorem blob_built (t : ByteArray) : Tryz.prog.built 34 [(0, .int .i64 1), (1, .string t)] = some ((blobO t).at_ nSl nSl nSl).cells.toArray := by kernel_rfl
theorem tree_built : Tryz.prog.built 34 [(0, .int .i64 2)] = some ((kOv 2).at_ nSl nSl nSl).cells.toArray := by kernel_rfl
theorem rows_sizes {l : List Rw} (h : rightR l = true) : l.length ≤ 32 ∧ ∀ r ∈ l, r.p.size ≤ 48 ∧ r.t.size ≤ 256 := by
  unfold rightR fitW at h
  simp only [Bool.and_eq_true, decide_eq_true_eq, List.all_eq_true] at h
  exact ⟨h.1.1, fun r hr => fitP_sizes (h.1.2 r hr)⟩
theorem info_lf : (Tryz.prog.info? 68).map (fun i => (i.zero, i.size, i.bytes)) = some (some (.agg zLf.cells.toArray), 33, 48) := by kernel_rfl
theorem lfz_sz : (Value.agg zLf.cells.toArray).cells.size = 33 := by rfl
theorem lf_ones (l : List Lf) : ∀ u ∈ l.flatMap Lf.cells, u.oneCell' = true := fun u hu => by
  obtain ⟨i, _, hi⟩ := List.mem_flatMap.1 hu
  rcases List.mem_cons.1 hi with rfl | h
  · rfl
  · exact S3.bvs_one _ u h
theorem tree_lay {rs : List Rw} (h : rightR rs = true) : layW (treeO rs) := by
  obtain ⟨h1, h2⟩ := rows_sizes h
  refine .inr (.inl ⟨rfl, by simpa [treeO] using h1, fun l hl => ?_⟩)
  obtain ⟨r, hr, rfl⟩ := List.mem_map.1 (show l ∈ rs.map leafO from hl)
  exact (h2 r hr).1
theorem lf_step {w w' : World} {b base n c k : Nat} {A : Option Addr} {l xs : List Value} {tmp : Obj} (h : Lt w b 34 73 l) (ho : w.ownsRow base 68 33 (.slice A n c) k xs) (hg : (w.alloc tmp).grownBy w' (Value.slice A n c).ownBlock) : Lt w' b 34 73 l := by
  obtain ⟨cs, f, hb⟩ := h.ty
  have e : w'.heap[b]? = w.heap[b]? := by
    refine (hg.block b (by have := h.ls.lt; simp; omega) fun e => ?_).trans (Below.heap_alloc w tmp b h.ls.lt)
    rcases ho.2 with ⟨e1, _⟩ | ⟨g, cap, cur, e1, _, hgb, _⟩
    · rw [e1] at e; simp [Value.ownBlock] at e
    · rw [e1] at e
      obtain rfl : b = g := by simpa [Value.ownBlock] using e
      rw [hb] at hgb
      injection hgb with hgb
      injection hgb with _ h2
      exact absurd h2 (by decide)
  exact ⟨h.ls.kp e (by have := hg.size; simp at this; omega), cs, f, e.trans hb⟩
theorem own_ty {w : World} {base : Nat} {e : TypeId} {k m n c : Nat} {A : Option Addr} {xs : List Value} (h : w.ownsRow base e k (.slice A n c) m xs) : ∀ g, (Value.slice A n c).ownBlock = some g → base ≤ g ∧ g < w.heap.size ∧ ∃ cs f, w.heap[g]? = some (.cells cs e f) := fun g e1 => by
  rcases h.2 with ⟨e2, _⟩ | ⟨g', cap, cur, e2, hb, hg, _⟩
  · rw [e2] at e1; simp [Value.ownBlock] at e1
  · rw [e2] at e1
    obtain rfl : g' = g := by simpa [Value.ownBlock] using e1
    exact ⟨hb, (Array.getElem?_eq_some_iff.1 hg).1, _, _, hg⟩
/-- An append to a row of leaves, and what it goes with. -/
theorem own_turn {w w' : World} {base n c k : Nat} {A : Option Addr} {xs : List Value} {tmp : Obj} (ho : w.ownsRow base 68 33 (.slice A n c) k xs) (hg : (w.alloc tmp).grownBy w' (Value.slice A n c).ownBlock) {n₀ : Nat} (h0 : n₀ ≤ base) (h1 : n₀ ≤ w.heap.size) : Tr tT n₀ w w' := by
  have b0 : Below w.heap.size w (w.alloc tmp) := (Below.refl _ _).alloc (Nat.le_refl _) _
  refine (Tr.below b0 h1).trans (Tr.grown hg (Nat.le_trans h1 b0.size) (fun g e => Nat.le_trans h0 (own_ty ho g e).1) fun g e o ho' => ?_)
  obtain ⟨_, hl, cs, f, hc⟩ := own_ty ho g e
  rw [b0.block g hl, hc] at ho'
  injection ho' with ho'
  exact ⟨cs, _, f, ho'.symm, rfl⟩
theorem set_turn {w : World} {b o n₀ : Nat} {v : Value} {cs : Array Value} {f : Nat × Nat} (h : w.heap[b]? = some (.cells cs 34 f)) (hb : n₀ ≤ b) : Tr tT n₀ w (w.setCell ⟨b, o, none⟩ v) :=
  Tr.grown (only_set (only_refl w (some b)) (p := ⟨b, o, none⟩) rfl v) (by have := (Array.getElem?_eq_some_iff.1 h).1; omega) (fun g e => by injection e with e; omega) fun g e o' ho' => by
    injection e with e
    subst e
    rw [h] at ho'
    injection ho' with ho'
    exact ⟨cs, _, f, ho'.symm, rfl⟩
theorem below_cell {w : World} {b o n₀ : Nat} {v : Value} (hb : n₀ ≤ b) (hw : n₀ ≤ w.heap.size) : Below n₀ w (w.setCell ⟨b, o, none⟩ v) :=
  below_of_only (only_set (only_refl w (some b)) (p := ⟨b, o, none⟩) rfl v) hb hw
set_option maxRecDepth 100000 in
set_option maxHeartbeats 4000000 in
theorem parts_turns (n : Nat) (hn1 : 1 ≤ n) {V : World} {Bm n₀ m c : Nat} {A : Option Addr} {rs : List Rw} (hb : Boxed V Bm 51 (.slice A m c)) (hBm : Bm < n₀) (hr : SqR V n₀ A m c rs) (hn0 : n₀ ≤ V.heap.size) (h00 : 0 < n₀) (hg : S3.GK V) (hfit : rightR rs = true) {M : Nat} (hM : M < V.heap.size) :
    SeqTurns Fence.wide n Tryz.prog 53 #[.pointer (some ⟨Bm, 0, none⟩)] (fun x => #[elV x]) tT n₀ (Vx rs) (Fm M) (Kq n₀ V.heap.size M) (fun ys => ys.map (·.1) = allO rs) (fun _ => True) (rs.length + 1) V := by
  intro l J Jx W hW hJ hF hY h0
  have HF := Lib.hid hF
  have HMW : M < W.heap.size := Nat.lt_of_lt_of_le hM hW.size
  have HVW := hW.size
  clear hF
  obtain ⟨hs1, hs2⟩ := rows_sizes hfit
  have hml : rs.length = m := hr.len
  have hm32 : m ≤ 32 := by omega
  have HSZ := Lib.hid hs2
  have HLAY := Lib.hid (tree_lay hfit)
  have HZW : n₀ ≤ W.heap.size := Nat.le_trans hn0 hW.size
  have HWn : Hid (Below n₀ V W) := Lib.hid (hW.mono hn0)
  have HBX : Hid (∀ X, Below n₀ W X → X.cell? ⟨Bm, 0, none⟩ = some (.slice A m c) ∧ SqR X n₀ A m c rs ∧ S3.GK X) := Lib.hid fun X hX => by
    have hb' := HWn.out.trans hX
    refine ⟨?_, hr.below hb', gk_keep hg hb' h00⟩
    exact (World.cell?_of_block (a := ⟨Bm, 0, none⟩) (hb'.block Bm hBm)).trans hb.cell
  have HY := Lib.hid hY
  have HJ := Lib.hid hJ
  obtain ⟨tk, htk⟩ : ∃ o, (kOv 2).at_ nSl nSl nSl = o := ⟨_, rfl⟩
  have BT : Hid (Tryz.prog.built 34 [(0, .int .i64 2)] = some tk.cells.toArray) := Lib.hid (by rw [← htk]; exact tree_built)
  have TK1 : Hid (tk.lv.oneCell' = true ∧ tk.pv.oneCell' = true ∧ tk.ev.oneCell' = true) := Lib.hid (by rw [← htk]; exact ⟨rfl, rfl, rfl⟩)
  have HTK := Lib.hid htk
  obtain ⟨zz, hzz⟩ : ∃ o, zOf = o := ⟨_, rfl⟩
  have ZO : Hid (∀ w : World, (zeroValue 34).run Tryz.prog w = .ok (.agg zz.cells.toArray) w) := Lib.hid (by rw [← hzz]; exact zero_of)
  obtain ⟨wA, hwA⟩ : ∃ wA, W.alloc (.cells zz.cells.toArray 34) = wA := ⟨_, rfl⟩
  have YA : Lies wA W.heap.size 73 zz.cells := by
    rw [← hwA]
    have := Lies.new W zz.cells 34
    rwa [of_sz] at this
  obtain ⟨w1, hw1⟩ : ∃ w1, wA.setCells W.heap.size 0 tk.cells = w1 := ⟨_, rfl⟩
  have Y1 : Hid (Lt w1 W.heap.size 34 73 tk.cells) := Lib.hid (by rw [← hw1, ← hwA]; exact Lt.made W _ (of_sz _) (of_sz _))
  have C1 : Hid (Below W.heap.size W w1) := Lib.hid (by rw [← hw1, ← hwA]; exact below_setCells ((Below.refl _ _).alloc (Nat.le_refl _) _) (Nat.le_refl _) _ _)
  have J1 : Hid (J [] w1) := Lib.hid (hJ [] W w1 (by simp) h0 (Tr.below C1.out HZW))
  have HZ1 : Hid (w1.heap.size = W.heap.size + 1) := Lib.hid (by rw [← hw1, size_setCells, ← hwA]; simp)
  have HWA := Lib.hid hwA
  have HW1 := Lib.hid hw1
  have TA := Lib.hid YA.th
  clear hY hJ h0 hwA hw1 YA htk hzz hb hr hg hs1 hs2 hW hfit
  refine callsIn_of_wp Tryz.func53 rfl trivial ?_ rfl
  simp only [Tryz.ntmps53, List.size_toArray, List.length_cons, List.length_nil, Nat.reduceAdd, Nat.reduceSub, Array.replicate_succ, Array.replicate_zero, List.push_toArray, List.append_toArray, List.nil_append, List.cons_append]
  refine wpIn_wide.2 ?_
  go_upto_region 1 with (first
    | ((with_reducible refine bdt 34 [(0, .const (.int .i64 2))] ?_ ?_ tk.cells.toArray ?_ ?_); rfl; rfl; exact BT.out)
    | ((with_reducible refine alt 34 ?_ ?_ zz.cells ZO.out ?_); rfl; rfl; rw [HWA.out]; (try simp only [Act.put, List.setIfInBounds_toArray, List.set_cons_succ, List.set_cons_zero]))
    | ((with_reducible refine sto (.tmp 3) (.tmp 7) ?_ ?_ W.heap.size 0 tk ?_ ?_ TA.out TK1.out.1 TK1.out.2.1 TK1.out.2.2 ?_); rfl; rfl; rfl; rfl; rw [HW1.out])
    | fail)
  have q0 := (HBX.out w1 (C1.out.mono HZW)).1
  go_wp2_with fail
  clear q0
  go_loopw [11] (fun i wr => ∃ k : Nat, k ≤ m ∧ i = .int .i64 (k : Int) ∧ Hid (∃ pre : List El, pre.length = k ∧ pre.map (·.1) = (rs.take k).map (fun r => blobO r.t) ∧ J pre wr) ∧ Hid (Below n₀ W wr ∧ W.heap.size ≤ wr.heap.size) ∧ Hid (∃ B cc, Lt wr W.heap.size 34 73 ((kOv 2).at_ ⟨B, k, cc⟩ nSl nSl).cells ∧ wr.ownsRow w1.heap.size 68 33 (.slice B k cc) k (((rs.take k).map leafO).flatMap Lf.cells))) (fun i _ => m - (intOf i).toNat)
  case atStart => exact ⟨0, Nat.zero_le _, rfl, Lib.hid ⟨[], rfl, rfl, J1.out⟩, Lib.hid ⟨C1.out.mono HZW, C1.out.size⟩, Lib.hid ⟨none, 0, by rw [HTK.out]; exact Y1.out, rfl, .inl ⟨rfl, rfl⟩⟩⟩
  case round =>
    obtain ⟨k, hk, rfl, hj, hbw, ht⟩ := hrel
    obtain ⟨pre, hpl, hpm, hjp⟩ := hj.out
    obtain ⟨B, cc, hlt5, hown5⟩ := ht.out
    have HPM := Lib.hid hpm
    have HJP := Lib.hid hjp
    have HLT := Lib.hid hlt5
    have HOWN := Lib.hid hown5
    have HBW := Lib.hid hbw.out.1
    have HZR := hbw.out.2
    clear hj ht hpm hjp hlt5 hown5 hbw
    by_cases hlt : k < m
    · have hd : decide ((k : Int) < (m : Int)) = true := by simp; omega
      have hk0 : (0 : Int) ≤ (k : Int) := Int.natCast_nonneg _
      have hk1 : (k : Int) < (m : Int) := by omega
      obtain ⟨b, o, rfl, hbl, hrg⟩ := (HBX.out wr HBW.out).2.1.at_ hlt
      have hkl : k < rs.length := by omega
      have hsz := HSZ.out _ (List.getElem_mem hkl)
      have HST : Hid ((rs.take (k + 1)).map (fun r => blobO r.t) = (rs.take k).map (fun r => blobO r.t) ++ [blobO rs[k].t]) := Lib.hid (by rw [List.take_succ_eq_append_getElem hkl, List.map_append, List.map_cons, List.map_nil])
      have HSL : Hid (((rs.take (k + 1)).map leafO).flatMap Lf.cells = ((rs.take k).map leafO).flatMap Lf.cells ++ (leafO rs[k]).cells) := Lib.hid (by rw [List.take_succ_eq_append_getElem hkl, List.map_append, List.map_cons, List.map_nil, List.flatMap_append, List.flatMap_cons, List.flatMap_nil, List.append_nil])
      have HAL : Hid ((allO rs)[pre.length]? = some (blobO rs[k].t)) := Lib.hid (by unfold allO; rw [hpl, List.getElem?_append_left (by simpa using hkl)]; simp [hkl])
      obtain ⟨r, hr⟩ : ∃ r, rs[k] = r := ⟨_, rfl⟩
      rw [hr] at hrg hsz HST HSL HAL
      obtain ⟨hsp, hst⟩ := hsz
      have HLF : Hid ((leafO r).cells = (⟨r.p, idW (blobO r.t)⟩ : Lf).cells) := Lib.hid rfl
      have r0 : wr.cell? ⟨b, o + k * 2, none⟩ = some (.string r.p) := by have := hrg 0 _ rfl; simpa using this
      have r1 : wr.cell? ⟨b, o + k * 2 + 1, none⟩ = some (.string r.t) := hrg 1 _ rfl
      clear hr hrg
      -- the row's box
      obtain ⟨w2, hw2⟩ : ∃ w2, wr.alloc (.cells r.cells.toArray 48) = w2 := ⟨_, rfl⟩
      have C2 : Hid (Below wr.heap.size wr w2) := Lib.hid (by rw [← hw2]; exact (Below.refl _ _).alloc (Nat.le_refl _) _)
      have Z2 : Hid (w2.heap.size = wr.heap.size + 1) := Lib.hid (by rw [← hw2]; simp)
      have R2 : Hid (Lies w2 wr.heap.size 2 r.cells) := Lib.hid (by rw [← hw2]; exact Lies.new wr r.cells _)
      have HW2 : Hid (wr.alloc (.cells #[.string r.p, .string r.t] 48) = w2) := Lib.hid hw2
      clear hw2
      go_upto_region 4 with fail
      rw [HW2.out]
      have y1 : w2.cell? ⟨wr.heap.size, 1, none⟩ = some (.string r.t) := R2.out.cell rfl
      clear r0 r1
      obtain ⟨bo, hbo⟩ : ∃ o, (blobO r.t).at_ nSl nSl nSl = o := ⟨_, rfl⟩
      obtain ⟨bi, hbi⟩ : ∃ i, idW (blobO r.t) = i := ⟨_, rfl⟩
      have BB : Hid (Tryz.prog.built 34 [(0, .int .i64 1), (1, .string r.t)] = some bo.cells.toArray) := Lib.hid (by rw [← hbo]; exact blob_built r.t)
      have BO1 : Hid (bo.lv.oneCell' = true ∧ bo.pv.oneCell' = true ∧ bo.ev.oneCell' = true) := Lib.hid (by rw [← hbo]; exact ⟨rfl, rfl, rfl⟩)
      have B2n : Hid (Below n₀ W w2) := Lib.hid (HBW.out.trans (C2.out.mono (Nat.le_trans HZW HZR)))
      have HC : Hid (Calls Tryz.prog 54 #[ofV bo] w2 fun e w' => e = .returned (.agg (hdC bi bo).toArray) ∧ Below w2.heap.size w2 w') := Lib.hid (by
        rw [← hbo, ← hbi]
        exact held_any (blob_ok r.t) (.inl ⟨rfl, hst⟩) (HBX.out w2 B2n.out).2.2)
      have HEV : Hid (elV (blobO r.t, nSl) = .agg (hdC bi bo).toArray) := Lib.hid (by rw [← hbo, ← hbi]; rfl)
      have HBI := Lib.hid hbi
      clear hbo hbi
      go_wp2_with (first
        | ((with_reducible refine bdt 34 [(0, .const (.int .i64 1)), (1, .tmp 16)] ?_ ?_ bo.cells.toArray ?_ ?_); rfl; rfl; exact BB.out)
        | fail)
      refine HC.out.mono ?_
      rintro e w3 ⟨rfl, hb3⟩
      dsimp only
      obtain ⟨wB, hwB⟩ : ∃ wB, w3.alloc (.cells (hdC Idv.zero zOf).toArray 54) = wB := ⟨_, rfl⟩
      have YB : Lies wB w3.heap.size 105 (hdC Idv.zero zOf) := by
        rw [← hwB]
        have := Lies.new w3 (hdC Idv.zero zOf) 54
        rwa [hd_sz] at this
      obtain ⟨w4, hw4⟩ : ∃ w4, wB.setCells w3.heap.size 0 (hdC bi bo) = w4 := ⟨_, rfl⟩
      have Y4 : Hid (Lt w4 w3.heap.size 54 105 (hdC bi bo)) := Lib.hid (by rw [← hw4, ← hwB]; exact Lt.made w3 _ (hd_sz _ _) (hd_sz _ _))
      have C34 : Below w3.heap.size w3 w4 := by rw [← hw4, ← hwB]; exact below_setCells ((Below.refl _ _).alloc (Nat.le_refl _) _) (Nat.le_refl _) _ _
      have C24 : Hid (Below w2.heap.size w2 w4) := Lib.hid (hb3.trans (C34.mono hb3.size))
      have Cr4 : Hid (Below wr.heap.size wr w4) := Lib.hid (C2.out.trans (C24.out.mono C2.out.size))
      have B4n : Hid (Below n₀ W w4) := Lib.hid (HBW.out.trans (Cr4.out.mono (Nat.le_trans HZW HZR)))
      have HWB := Lib.hid hwB
      have HW4 := Lib.hid hw4
      have TB := Lib.hid YB.th
      have HZ3 := hb3.size
      clear hwB hw4 YB C34 hb3
      go_upto_region 5 with (first
        | ((with_reducible refine alt 54 ?_ ?_ (hdC Idv.zero zOf) zero_hd ?_); rfl; rfl; rw [HWB.out]; (try simp only [Act.put, List.setIfInBounds_toArray, List.set_cons_succ, List.set_cons_zero]))
        | ((with_reducible refine sth (.tmp 6) (.tmp 18) ?_ ?_ w3.heap.size 0 bi bo ?_ ?_ TB.out BO1.out.1 BO1.out.2.1 BO1.out.2.2 ?_); rfl; rfl; rfl; rfl; rw [HW4.out])
        | fail)
      clear y1
      have J4 : J pre w4 := HJ.out pre wr w4 (by omega) HJP.out (Tr.below Cr4.out (Nat.le_trans HZW HZR))
      have F4 := Lib.hid (HF.out pre w4 J4)
      obtain ⟨fn, tmps, assign, body, hy, hR⟩ := HY.out pre (blobO r.t, nSl) w4 J4 ⟨HAL.out, blob_ok r.t, Nat.zero_le _, (HBX.out w4 B4n.out).2.2, fun _ => rfl, fun ad e => (by cases e)⟩ (by omega)
      rw [HEV.out] at hy
      refine (wpIn_wide (n := n)).1 ?_
      gi_wp2_with (first
        | ((with_reducible refine valIn ?_ (run_ldh (.tmp 6) ?_ w3.heap.size 0 bi bo ?_ Y4.out.ls.rg) ?_); rfl; rfl; rfl)
        | fail)
      refine hR.mono ?_
      rintro e w5 (⟨rfl, hJ5, hk5⟩ | ⟨rfl, hJx5⟩)
      · have J5 := Lib.hid hJ5
        have K5 := Lib.hid hk5
        clear hJ5 hk5 hR hy J4
        gi_wp2
        have hz5 := K5.out.bel.size
        have hz4 := Cr4.out.size
        have hz24 := C24.out.size
        -- what stands of the iterator's own
        have nfr : ∀ k', wr.heap.size ≤ k' → Np M w4 k' := fun k' hk' => np_same ((HF.out pre wr HJP.out).new hk') (Cr4.out.block M (by omega))
        have L4 : Lt w4 W.heap.size 34 73 ((kOv 2).at_ ⟨B, k, cc⟩ nSl nSl).cells := by
          obtain ⟨cs, f, hb⟩ := HLT.out.ty
          have e := Cr4.out.block W.heap.size HLT.out.ls.lt
          exact ⟨HLT.out.ls.kp e Cr4.out.size, cs, f, e.trans hb⟩
        have L5 : Hid (Lt w5 W.heap.size 34 73 ((kOv 2).at_ ⟨B, k, cc⟩ nSl nSl).cells) := Lib.hid (by
          obtain ⟨cs, f, hb⟩ := L4.ty
          exact K5.out.lt L4 (by omega) (F4.out.ty hb (by decide)))
        have R4 : Lt w4 wr.heap.size 48 2 r.cells := by
          have hb := heap_alloc_new wr (.cells r.cells.toArray 48)
          have e : w2.heap[wr.heap.size]? = some (.cells r.cells.toArray 48) := by rw [← HW2.out]; exact hb
          have e4 := C24.out.block wr.heap.size (by rw [Z2.out]; omega)
          exact ⟨R2.out.kp e4 C24.out.size, _, _, e4.trans e⟩
        have R5 : Hid (Lt w5 wr.heap.size 48 2 r.cells) := Lib.hid (K5.out.lt R4 (by omega) (nfr _ (Nat.le_refl _)))
        have H5 : Hid (Lt w5 w3.heap.size 54 105 (hdC bi bo)) := Lib.hid (K5.out.lt Y4.out (by have := Z2.out; omega) (nfr _ (by have := Z2.out; omega)))
        have O4 := own_fresh HOWN.out Cr4.out
        have O5 : Hid (w5.ownsRow w1.heap.size 68 33 (.slice B k cc) k (((rs.take k).map leafO).flatMap Lf.cells)) := Lib.hid (own_keep O4 fun g e => by
          rcases O4.2 with ⟨e1, _⟩ | ⟨g', cap, cur, e1, hb', hg', _⟩
          · rw [e1] at e; simp [Value.ownBlock] at e
          · rw [e1] at e
            obtain rfl : g' = g := by simpa [Value.ownBlock] using e
            rw [hg']
            exact K5.out.kp _ _ _ _ (by have := C1.out.size; omega) (F4.out.ty hg' (by decide)) hg')
        clear L4 R4 O4
        have z0 : w5.cell? ⟨W.heap.size, 2, none⟩ = some (.slice B k cc) := (obj_lies L5.out.ls).2.2.1
        have z1 : w5.cell? ⟨wr.heap.size, 0, none⟩ = some (.string r.p) := R5.out.ls.cell rfl
        have Z3 := Lib.hid (hd_rg.1 H5.out.ls.rg).1
        obtain ⟨i0, hi, hz, hz1, hz2⟩ := info_parts info_lf
        obtain ⟨lf, hlf⟩ : ∃ x : Lf, (⟨r.p, bi⟩ : Lf) = x := ⟨_, rfl⟩
        have BL : Hid (Tryz.prog.built 68 [(0, .string r.p), (1, idV bi)] = some lf.cells.toArray) := Lib.hid (by rw [← hlf]; exact built_lf ⟨r.p, bi⟩)
        have HLC : Hid ((leafO r).cells = lf.cells) := Lib.hid (by rw [← hlf, ← HBI.out]; rfl)
        have hw1s := C1.out.size
        have hsz1 : w1.heap.size ≤ wr.heap.size := (by
          have e1 : w1.heap.size = W.heap.size + 1 := HZ1.out
          have := HLT.out.ls.lt
          omega)
        clear hlf
        go_wp2_with (first
          | ((with_reducible refine ldi (.tmp 27) ?_ ?_ w3.heap.size 0 bi ?_ Z3.out ?_); rfl; rfl; (first | rfl | go_simp))
          | ((with_reducible refine bdt 68 [(0, .tmp 26), (1, .tmp 28)] ?_ ?_ lf.cells.toArray ?_ ?_); rfl; rfl; exact BL.out)
          | ((with_reducible refine oneL Tryz.underlying25 hi hz (k := 33) (by omega) (by omega) hz1 lfz_sz (.tmp 29) ?_ ?_ lf.cells (lf_sz _) ?_ ?_); rfl; rfl; rfl; (try simp only [Act.put, List.setIfInBounds_toArray, List.set_cons_succ, List.set_cons_zero]))
          | (at_builtin; refine wpList_append_own (w5.alloc (.cells lf.cells.toArray 68)) ?_ (.tmp 24) (.tmp 30) 25 ?_ w1.heap.size 68 i0 (.agg zLf.cells.toArray) 33 48 Tryz.underlying25 hi hz hz1 hz2 lfz_sz (by omega) (.slice B k cc) k (((rs.take k).map leafO).flatMap Lf.cells) ?_ (O5.out.alloc _) ⟨w5.heap.size, 0, none⟩ 1 1 lf.cells ?_ (lf_sz _) (World.news_of_block (heap_alloc_new w5 _)) (fun u hu => lf_ones [lf] u (by simpa using hu)) (by unfold maxLen; omega) (by omega) (by simp; omega) ?_; rfl; rfl; rfl; rfl; intro v6 w6 own6 hg6 _; obtain ⟨A6, c6, hv6⟩ := own_shape own6; subst hv6; have O6 := Lib.hid own6; have G6 := Lib.hid hg6; have x2 := (lf_step L5.out O5.out hg6).ls.frozen (j := 2) (by omega); have x3 := (obj_lies (lf_step L5.out O5.out hg6).ls).2.2.1; clear own6 hg6)
          | fail)
        have L6 := lf_step L5.out O5.out G6.out
        obtain ⟨w7, hw7⟩ : ∃ w7, w6.setCell ⟨W.heap.size, 2, none⟩ (.slice A6 (k + 1) c6) = w7 := ⟨_, rfl⟩
        rw [hw7]
        have T56 : Tr tT n₀ w5 w6 := own_turn O5.out G6.out (n₀ := n₀) (by rw [HZ1.out]; omega) (by omega)
        have B56 := T56.bel
        obtain ⟨csL, fL, hbL⟩ := L6.ty
        have T67 : Tr tT n₀ w6 w7 := by rw [← hw7]; exact set_turn hbL HZW
        have B67 : Below n₀ w6 w7 := by rw [← hw7]; exact below_cell HZW (by have := B56.size; omega)
        have L7 : Lt w7 W.heap.size 34 73 ((kOv 2).at_ ⟨A6, k + 1, c6⟩ nSl nSl).cells := by
          obtain ⟨cs', h'⟩ := typ_setCell (o := 2) (v := .slice A6 (k + 1) c6) hbL
          rw [← hw7]
          refine ⟨?_, cs', fL, h'⟩
          exact L6.ls.set1 2 (.slice A6 (k + 1) c6)
        have own7 : w7.ownsRow w1.heap.size 68 33 (.slice A6 (k + 1) c6) (k + 1) (((rs.take (k + 1)).map leafO).flatMap Lf.cells) := by
          have O6' : w6.ownsRow w1.heap.size 68 33 (.slice A6 (k + 1) c6) (k + 1) (((rs.take (k + 1)).map leafO).flatMap Lf.cells) := by rw [HSL.out, HLC.out]; exact O6.out
          refine own_keep O6' fun g e => ?_
          obtain ⟨_, _, cs, f, hc⟩ := own_ty O6' g e
          have hne : g ≠ W.heap.size := fun e' => by
            rw [e', hbL] at hc
            injection hc with hc
            injection hc with _ h2
            exact absurd h2 (by decide)
          rw [← hw7]
          exact (only_set (only_refl w6 (some W.heap.size)) (p := ⟨W.heap.size, 2, none⟩) rfl _).block g (Array.getElem?_eq_some_iff.1 hc).1 (by simpa using hne)
        have J7 := HJ.out (pre ++ [(blobO r.t, nSl)]) w5 w7 (by simp; omega) J5.out (T56.trans T67)
        refine ⟨⟨k + 1, by omega, by go_num, Lib.hid ⟨pre ++ [(blobO r.t, nSl)], by simp [hpl], ?_, J7⟩, Lib.hid ⟨B4n.out.trans (K5.out.bel.trans (B56.trans B67)), ?_⟩, Lib.hid ⟨A6, c6, L7, own7⟩⟩, ?_⟩
        · rw [HST.out, List.map_append, HPM.out]; rfl
        · have := B56.size; have := B67.size; omega
        · show m - ((k : Int) + 1).toNat < m - ((k : Int)).toNat
          omega
      · have J5 := Lib.hid hJx5
        clear hJx5 hR hy J4
        gi_wp2
        go_wp2_with fail
        exact bodyPost_ret (results_none rfl _ _ _) rfl ⟨⟨_, rfl⟩, .inr ⟨_, trivial, J5.out⟩⟩
    · obtain rfl : k = m := by omega
      have hd : decide ((k : Int) < (k : Int)) = false := by simp
      have HTA : Hid ((rs.take k).map leafO = rs.map leafO) := Lib.hid (by rw [← hml, List.take_length])
      have HPA : Hid (pre.map (·.1) = rs.map (fun r => blobO r.t)) := Lib.hid (by rw [HPM.out, ← hml, List.take_length])
      obtain ⟨ot, hot⟩ : ∃ o, (treeO rs).at_ ⟨B, k, cc⟩ nSl nSl = o := ⟨_, rfl⟩
      obtain ⟨ti, hti⟩ : ∃ i, idW (treeO rs) = i := ⟨_, rfl⟩
      have LT : Lt wr W.heap.size 34 73 ot.cells := by rw [← hot]; exact HLT.out
      have G1 : Hid (wr.rangeAt W.heap.size 0 ot.cells) := Lib.hid LT.ls.rg
      have SQ : Hid (SqL wr wr.heap.size B k cc (rs.map leafO)) := Lib.hid (by
        have h := HOWN.out
        rw [HTA.out] at h
        exact own_sq h lf_sz (by omega))
      have HO3 : Hid (Obj3 wr wr.heap.size (treeO rs) ⟨B, k, cc⟩ nSl nSl) := Lib.hid (tree_ok SQ.out)
      have HGK := Lib.hid (HBX.out wr HBW.out).2.2
      have HC : Hid (Calls Tryz.prog 54 #[ofV ot] wr fun e w' => e = .returned (.agg (hdC ti ot).toArray) ∧ Below wr.heap.size wr w') := Lib.hid (by
        rw [← hot, ← hti]
        exact held_any HO3.out HLAY.out HGK.out)
      have HEV : Hid (elV (treeO rs, ⟨B, k, cc⟩) = .agg (hdC ti ot).toArray) := Lib.hid (by rw [← hot, ← hti]; rfl)
      have HAL : Hid ((allO rs)[pre.length]? = some (treeO rs)) := Lib.hid (by unfold allO; rw [hpl, ← hml, List.getElem?_append_right (by simp)]; simp)
      clear hot hti LT
      go_upto_region 8 with fail
      refine (wpIn_wide (n := n)).1 ?_
      gi_wp2_with (first
        | ((with_reducible refine valIn ?_ (run_ldo (.tmp 3) ?_ W.heap.size 0 ot ?_ G1.out) ?_); rfl; rfl; rfl)
        | fail)
      refine ⟨trivial, (callsIn_wide.2 HC.out).mono ?_⟩
      rintro e w3 ⟨rfl, hb3⟩
      dsimp only
      have B3n : Below n₀ W w3 := HBW.out.trans (hb3.mono (Nat.le_trans HZW HZR))
      have J3 : J pre w3 := HJ.out pre wr w3 (by omega) HJP.out (Tr.below hb3 (Nat.le_trans HZW HZR))
      have O3 : Obj3 w3 w3.heap.size (treeO rs) ⟨B, k, cc⟩ nSl nSl := (HO3.out.below hb3).more hb3.size
      obtain ⟨fn, tmps, assign, body, hy, hR⟩ := HY.out pre (treeO rs, ⟨B, k, cc⟩) w3 J3 ⟨HAL.out, O3, by show k ≤ 100; omega, (HBX.out w3 B3n).2.2, fun h => absurd h (by omega), fun ad e => (by
        have e' : B = some ad := e
        obtain ⟨_, hl, cs, f, hc⟩ := own_ty HOWN.out ad.block (by rw [e']; rfl)
        exact ⟨cs, f, (hb3.block _ hl).trans hc⟩)⟩ (by omega)
      rw [HEV.out] at hy
      gi_wp2
      refine hR.mono ?_
      rintro e w5 (⟨rfl, hJ5, hk5⟩ | ⟨rfl, hJx5⟩)
      · have J5 := Lib.hid hJ5
        clear hJ5 hk5 hR hy
        gi_wp2
        go_end0
        refine ⟨⟨_, rfl⟩, .inl ⟨_, ?_, J5.out⟩⟩
        rw [List.map_append, HPA.out]; rfl
      · have J5 := Lib.hid hJx5
        clear hJx5 hR hy
        gi_wp2
        go_end0
        exact ⟨⟨_, rfl⟩, .inr ⟨_, trivial, J5.out⟩⟩
end Go.Proofs.YtcofkhmgmemkmaaGreatDoor
