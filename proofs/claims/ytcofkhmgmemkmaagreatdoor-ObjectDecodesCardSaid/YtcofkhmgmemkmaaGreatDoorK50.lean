/-
  STAGE 6's REFERENCE: what is laid is read back by its parser; it decodes what the program decodes (pure).
  STAGE 6's REFERENCE: Decode, an object on its way in.
-/
import Derived.Test.YtcofkhmgmemkmaaGreatDoorK49
import Derived.Test.YtcofkhmgmemkmaaGreatDoorK34
import Derived.Test.YtcofkhmgmemkmaaGreatDoorK38
namespace Go.Proofs.YtcofkhmgmemkmaaGreatDoor
set_option linter.unusedVariables false
set_option linter.unusedSimpArgs false
open Go.RowKit Go.WideShapes Go.ChangeShapes Go.Deep Go.Shelf

theorem st_inj {s : Ts} {t : List UInt8} (h : s.st = (t, 0)) : s = (t, false) := by
  obtain ⟨l, b⟩ := s
  unfold Ts.st at h
  cases b
  · simpa using h
  · simp at h
theorem conv_s {l t : List UInt8} {n : Nat} (h : St.s (l, 0) n = (t, 0)) : Ts.s (l, false) n = (t, false) := st_inj (by rw [← st_s]; exact h)
theorem oneT (k : Nat) (hk : k < 256) (t : List UInt8) : Ts.num ([UInt8.ofNat k] ++ t, false) 1 = k ∧ Ts.s ([UInt8.ofNat k] ++ t, false) 1 = (t, false) :=
  ⟨by rw [← st_num]; exact (one_at k hk t).1, conv_s (one_at k hk t).2⟩
theorem beT (w k : Nat) (hk : k < 256 ^ w) (t : List UInt8) : Ts.num (S3.be w k ++ t, false) w = k ∧ Ts.s (S3.be w k ++ t, false) w = (t, false) :=
  ⟨by rw [← st_num]; exact (be_at w k hk t).1, conv_s (be_at w k hk t).2⟩
theorem wordT (s : ByteArray) (h : s.size < 256) (t : List UInt8) : Ts.txt ([UInt8.ofNat s.size] ++ (strB s ++ t), false) 1 = s ∧ Ts.ts ([UInt8.ofNat s.size] ++ (strB s ++ t), false) 1 = (t, false) :=
  ⟨by rw [← st_word]; exact (word_at s h t).1, st_inj (by rw [← st_words]; exact (word_at s h t).2)⟩
theorem textT (s : ByteArray) (h : s.size < 65536) (t : List UInt8) : Ts.txt (S3.be 2 s.size ++ (strB s ++ t), false) 2 = s ∧ Ts.ts (S3.be 2 s.size ++ (strB s ++ t), false) 2 = (t, false) :=
  ⟨by rw [← st_text]; exact (text_at s h t).1, st_inj (by rw [← st_texts]; exact (text_at s h t).2)⟩
theorem idT_at (i : Idv) (t : List UInt8) : Ts.idv (i.b ++ t, false) = i ∧ Ts.s (i.b ++ t, false) 32 = (t, false) :=
  ⟨by rw [← st_id]; exact (id_at i t).1, conv_s (id_at i t).2⟩
theorem tkT (a t : List UInt8) (n : Nat) (h : a.length = n) : Ts.t (a ++ t, false) n = a ∧ Ts.s (a ++ t, false) n = (t, false) :=
  ⟨by rw [← st_t]; exact (tk_at a t n h).1, conv_s (tk_at a t n h).2⟩
theorem leafT_at (l : Lf) (h : l.p.size < 256) (t : List UInt8) : leafT (leafB l ++ t, false) = (l, (t, false)) := by
  have e := leaf_at l h t
  have e2 := leafT_st (leafB l ++ t, false)
  rw [show Ts.st (leafB l ++ t, false) = (leafB l ++ t, 0) from rfl, e] at e2
  injection e2 with e3 e4
  exact Prod.ext e3.symm (st_inj e4.symm)
theorem iddT_at (i : Idv) (t : List UInt8) : iddT (i.b ++ t, false) = (i, (t, false)) := by
  unfold iddT
  obtain ⟨h3, h4⟩ := idT_at i t
  rw [h3, h4]
theorem chgT_at (c : Ch) (h : c.p.size < 256) (h' : c.t.size < 65536) (t : List UInt8) : chgT (chB c ++ t, false) = (c, (t, false)) := by
  unfold chgT chB
  simp only [List.append_assoc]
  obtain ⟨h1, h2⟩ := wordT c.p h ([if c.is then 1 else 0] ++ (S3.be 2 c.t.size ++ (strB c.t ++ t)))
  rw [h1, h2]
  obtain ⟨h3, h4⟩ := tkT [if c.is then (1 : UInt8) else 0] (S3.be 2 c.t.size ++ (strB c.t ++ t)) 1 rfl
  obtain ⟨h5, h6⟩ := textT c.t h' t
  rw [h4, h5, h6]
  unfold Ts.num
  rw [h3]
  obtain ⟨p, is, tx⟩ := c
  cases is <;> rfl
/-- Rows, one behind the other. -/
theorem rowsT_at {α : Type} (f : Ts → α × Ts) (g : α → List UInt8) (l : List α) (hf : ∀ x ∈ l, ∀ t, f (g x ++ t, false) = (x, (t, false))) (t : List UInt8) : ∀ k, k ≤ l.length → whL f k (l.flatMap g ++ t, false) = l.take k ∧ whS f k (l.flatMap g ++ t, false) = ((l.drop k).flatMap g ++ t, false)
  | 0, _ => ⟨rfl, rfl⟩
  | k + 1, hk => by
    obtain ⟨h1, h2⟩ := rowsT_at f g l hf t k (by omega)
    have hk' : k < l.length := by omega
    have e := hf l[k] (List.getElem_mem hk') ((l.drop (k + 1)).flatMap g ++ t)
    have e2 : (l.drop k).flatMap g ++ t = g l[k] ++ ((l.drop (k + 1)).flatMap g ++ t) := by
      rw [List.drop_eq_getElem_cons hk', List.flatMap_cons, List.append_assoc]
    refine ⟨?_, ?_⟩
    · show (if (whS f k _).2 then whL f k _ else whL f k _ ++ [(f (whS f k _)).1]) = _
      rw [h1, h2, if_neg (fun h9 : (false : Bool) = true => by cases h9), e2, e]
      exact (List.take_succ_eq_append_getElem hk').symm
    · show (if (whS f k _).2 then whS f k _ else (f (whS f k _)).2) = _
      rw [h2, if_neg (fun h9 : (false : Bool) = true => by cases h9), e2, e]
theorem rowsT_all {α : Type} (f : Ts → α × Ts) (g : α → List UInt8) (l : List α) (hf : ∀ x ∈ l, ∀ t, f (g x ++ t, false) = (x, (t, false))) (t : List UInt8) : whL f l.length (l.flatMap g ++ t, false) = l ∧ whS f l.length (l.flatMap g ++ t, false) = (t, false) := by
  obtain ⟨h1, h2⟩ := rowsT_at f g l hf t l.length (Nat.le_refl _)
  rw [h1, h2]
  simp
theorem backT_blob {x : Ov} (hk : x.kind = 1) (hs : x.text.size ≤ 256) (t : List UInt8) : objT (bytesW x ++ t, false) = (cntO x, (t, false)) := by
  have e : bytesW x ++ t = [UInt8.ofNat 1] ++ (S3.be 2 x.text.size ++ (strB x.text ++ t)) := by
    unfold bytesW
    rw [if_pos hk, hk]
    simp
  obtain ⟨h1, h2⟩ := oneT 1 (by omega) (S3.be 2 x.text.size ++ (strB x.text ++ t))
  obtain ⟨h3, h4⟩ := textT x.text (by omega) t
  rw [e]
  unfold objT cntO
  rw [h1, h2, if_pos rfl, if_pos hk, h3, h4, hk]
theorem backT_tree {x : Ov} (hk : x.kind = 2) (hn : x.lv.length ≤ 32) (hl : ∀ l ∈ x.lv, l.p.size ≤ 48) (t : List UInt8) : objT (bytesW x ++ t, false) = (cntO x, (t, false)) := by
  have hk1 : ¬ x.kind = 1 := by omega
  have e : bytesW x ++ t = [UInt8.ofNat 2] ++ ([UInt8.ofNat x.lv.length] ++ (x.lv.flatMap leafB ++ t)) := by
    unfold bytesW
    rw [if_neg hk1, if_pos hk, hk]
    simp
  obtain ⟨h1, h2⟩ := oneT 2 (by omega) ([UInt8.ofNat x.lv.length] ++ (x.lv.flatMap leafB ++ t))
  obtain ⟨h3, h4⟩ := oneT x.lv.length (by omega) (x.lv.flatMap leafB ++ t)
  obtain ⟨h5, h6⟩ := rowsT_all leafT leafB x.lv (fun l hm t => leafT_at l (by have := hl l hm; omega) t) t
  rw [e]
  unfold objT cntO
  rw [h1, h2, if_neg (by omega), if_pos rfl, if_neg hk1, if_pos hk, h3, h4, h5, h6, hk]
theorem backT_com {x : Ov} (hk : x.kind = 3) (hc : comW x = true) (hn : x.num < 4294967296) (ha : x.auth < 4294967296) (t : List UInt8) : objT (bytesW x ++ t, false) = (cntO x, (t, false)) := by
  obtain ⟨hst, hno, hes, hsw⟩ := com_facts hc
  obtain ⟨he1, he2⟩ := chg_sizes hes
  have hps := style_ps hsw
  have hk1 : ¬ x.kind = 1 := by omega
  have hk2 : ¬ x.kind = 2 := by omega
  obtain ⟨sn, hsn, hsn2⟩ : ∃ n : Nat, x.style = (n : Int) ∧ n < 256 := by
    rcases hst with h | h | h
    · exact ⟨1, h, by omega⟩
    · exact ⟨2, h, by omega⟩
    · exact ⟨3, h, by omega⟩
  have e : bytesW x ++ t = [UInt8.ofNat 3] ++ ([UInt8.ofNat sn] ++ (x.tree.b ++ ([UInt8.ofNat x.ps.length] ++ (x.ps.flatMap Idv.b ++ (x.base.b ++ ([UInt8.ofNat x.es.length] ++ (x.es.flatMap chB ++ (S3.be 4 x.num ++ (S3.be 4 x.auth ++ ([UInt8.ofNat x.note.size] ++ (strB x.note ++ t))))))))))) := by
    unfold bytesW comB
    rw [if_neg hk1, if_neg hk2, hk, hsn]
    simp
  rw [e]
  obtain ⟨a1, a2⟩ := oneT 3 (by omega) ([UInt8.ofNat sn] ++ (x.tree.b ++ ([UInt8.ofNat x.ps.length] ++ (x.ps.flatMap Idv.b ++ (x.base.b ++ ([UInt8.ofNat x.es.length] ++ (x.es.flatMap chB ++ (S3.be 4 x.num ++ (S3.be 4 x.auth ++ ([UInt8.ofNat x.note.size] ++ (strB x.note ++ t)))))))))))
  obtain ⟨b1, b2⟩ := oneT sn hsn2 (x.tree.b ++ ([UInt8.ofNat x.ps.length] ++ (x.ps.flatMap Idv.b ++ (x.base.b ++ ([UInt8.ofNat x.es.length] ++ (x.es.flatMap chB ++ (S3.be 4 x.num ++ (S3.be 4 x.auth ++ ([UInt8.ofNat x.note.size] ++ (strB x.note ++ t))))))))))
  obtain ⟨c1, c2⟩ := idT_at x.tree ([UInt8.ofNat x.ps.length] ++ (x.ps.flatMap Idv.b ++ (x.base.b ++ ([UInt8.ofNat x.es.length] ++ (x.es.flatMap chB ++ (S3.be 4 x.num ++ (S3.be 4 x.auth ++ ([UInt8.ofNat x.note.size] ++ (strB x.note ++ t)))))))))
  obtain ⟨d1, d2⟩ := oneT x.ps.length (by omega) (x.ps.flatMap Idv.b ++ (x.base.b ++ ([UInt8.ofNat x.es.length] ++ (x.es.flatMap chB ++ (S3.be 4 x.num ++ (S3.be 4 x.auth ++ ([UInt8.ofNat x.note.size] ++ (strB x.note ++ t))))))))
  obtain ⟨e1, e2⟩ := rowsT_all iddT Idv.b x.ps (fun i _ t => iddT_at i t) (x.base.b ++ ([UInt8.ofNat x.es.length] ++ (x.es.flatMap chB ++ (S3.be 4 x.num ++ (S3.be 4 x.auth ++ ([UInt8.ofNat x.note.size] ++ (strB x.note ++ t)))))))
  obtain ⟨f1, f2⟩ := idT_at x.base ([UInt8.ofNat x.es.length] ++ (x.es.flatMap chB ++ (S3.be 4 x.num ++ (S3.be 4 x.auth ++ ([UInt8.ofNat x.note.size] ++ (strB x.note ++ t))))))
  obtain ⟨g1, g2⟩ := oneT x.es.length (by omega) (x.es.flatMap chB ++ (S3.be 4 x.num ++ (S3.be 4 x.auth ++ ([UInt8.ofNat x.note.size] ++ (strB x.note ++ t)))))
  obtain ⟨h1, h2⟩ := rowsT_all chgT chB x.es (fun c hm t => chgT_at c (by have := he2 c hm; omega) (by have := he2 c hm; omega) t) (S3.be 4 x.num ++ (S3.be 4 x.auth ++ ([UInt8.ofNat x.note.size] ++ (strB x.note ++ t))))
  obtain ⟨i1, i2⟩ := beT 4 x.num hn (S3.be 4 x.auth ++ ([UInt8.ofNat x.note.size] ++ (strB x.note ++ t)))
  obtain ⟨j1, j2⟩ := beT 4 x.auth ha ([UInt8.ofNat x.note.size] ++ (strB x.note ++ t))
  obtain ⟨k1, k2⟩ := wordT x.note (by omega) t
  unfold objT cntO comT
  dsimp only
  rw [a1, a2, if_neg (by omega), if_neg (by omega), if_pos rfl, if_neg hk1, if_neg hk2, if_pos hk]
  rw [b1, b2, c1, c2, d1, d2, e1, e2, f1, f2, g1, g2, h1, h2, i1, i2, j1, j2, k1, k2, ← hsn, ← hk]
theorem bytesT_back {x : Ov} (hs : soundW x = true) (hn : x.num < 4294967296) (ha : x.auth < 4294967296) (t : List UInt8) : objT (bytesW x ++ t, false) = (cntO x, (t, false)) := by
  rcases layW_of hs with ⟨h1, h2⟩ | ⟨h1, h2, h3⟩ | ⟨h1, h2⟩
  · exact backT_blob h1 h2 t
  · exact backT_tree h1 h2 h3 t
  · exact backT_com h1 h2 hn ha t

noncomputable def decT (b : List UInt8) : Ov × Int :=
  if (objT (b, false)).2.2 then (zOv, 7)
  else if okW (objT (b, false)).1 && (bytesW (objT (b, false)).1 == b) then ((objT (b, false)).1, 0)
  else (zOv, 160)
theorem objT_num (s : Ts) : (objT s).1.num < 4294967296 ∧ (objT s).1.auth < 4294967296 := by
  unfold objT
  split
  · exact ⟨(by decide : 0 < 4294967296), (by decide : 0 < 4294967296)⟩
  · split
    · exact ⟨(by decide : 0 < 4294967296), (by decide : 0 < 4294967296)⟩
    · split
      · unfold comT
        exact ⟨ts_num4 _ (by omega), ts_num4 _ (by omega)⟩
      · exact ⟨(by decide : 0 < 4294967296), (by decide : 0 < 4294967296)⟩
theorem st_num4 (s : St) : s.num 4 < 4294967296 := num_le s 4
theorem objR_num (s : St) : (objR s).1.num < 4294967296 ∧ (objR s).1.auth < 4294967296 := by
  unfold objR
  split
  · exact ⟨(by decide : 0 < 4294967296), (by decide : 0 < 4294967296)⟩
  · split
    · exact ⟨(by decide : 0 < 4294967296), (by decide : 0 < 4294967296)⟩
    · split
      · unfold comR
        exact ⟨st_num4 _, st_num4 _⟩
      · exact ⟨(by decide : 0 < 4294967296), (by decide : 0 < 4294967296)⟩
/-- The reference decodes what the program decodes. -/
theorem decT_is (b : List UInt8) : decT b = decW b := by
  have hst := objT_st (b, false)
  rw [show Ts.st (b, false) = (b, 0) from rfl] at hst
  unfold decT decW
  by_cases hb : (objT (b, false)).2.2 = true
  · have h7 : (objR (b, 0)).2.2 = 7 := by rw [hst]; unfold Ts.st; rw [hb]; rfl
    rw [if_pos hb, if_pos (show (objR (b, 0)).2.2 ≠ 0 by rw [h7]; decide), h7]
  · have h0 : (objR (b, 0)).2.2 = 0 := by rw [hst]; unfold Ts.st; rw [if_neg hb]
    rw [if_neg hb, if_neg (show ¬ ((objR (b, 0)).2.2 ≠ 0) by rw [h0]; decide)]
    by_cases hR : (okW (objR (b, 0)).1 && (bytesW (objR (b, 0)).1 == b)) = true
    · have hR2 := hR
      rw [Bool.and_eq_true, beq_iff_eq] at hR2
      have e := bytesT_back (okW_sound hR2.1) (objR_num _).1 (objR_num _).2 []
      rw [okW_bare hR2.1, List.append_nil, hR2.2] at e
      have e1 : (objT (b, false)).1 = (objR (b, 0)).1 := by rw [e]
      rw [e1]
    · by_cases hT : (okW (objT (b, false)).1 && (bytesW (objT (b, false)).1 == b)) = true
      · have hT2 := hT
        rw [Bool.and_eq_true, beq_iff_eq] at hT2
        have e := bytes_back (okW_sound hT2.1) (objT_num _).1 (objT_num _).2 []
        rw [okW_bare hT2.1, List.append_nil, hT2.2] at e
        have e1 : (objR (b, 0)).1 = (objT (b, false)).1 := by rw [e]
        rw [e1] at hR
        exact absurd hT hR
      · rw [if_neg hT, if_neg hR]
end Go.Proofs.YtcofkhmgmemkmaaGreatDoor
namespace Go.Proofs.YtcofkhmgmemkmaaGreatDoor
set_option linter.unusedVariables false
set_option linter.unusedSimpArgs false
open Go.RowKit Go.WideShapes Go.ChangeShapes Go.Deep Go.Shelf

section
variable {α : Type} {f : Ts → α × Ts}
/-- Where the bytes ended, nothing comes any more. -/
theorem wh_more {s : Ts} {k : Nat} (h : (whS f k s).2 = true) : ∀ m, whS f (k + m) s = whS f k s ∧ whL f (k + m) s = whL f k s
  | 0 => ⟨rfl, rfl⟩
  | m + 1 => by
    obtain ⟨h1, h2⟩ := wh_more h m
    have hb : (whS f (k + m) s).2 = true := by rw [h1]; exact h
    refine ⟨?_, ?_⟩
    · show (if (whS f (k + m) s).2 then whS f (k + m) s else _) = _
      rw [if_pos hb, h1]
    · show (if (whS f (k + m) s).2 then whL f (k + m) s else _) = _
      rw [if_pos hb, h2]
theorem wh_stop {s : Ts} {k n : Nat} (h : (whS f k s).2 = true) (hk : k ≤ n) : whS f n s = whS f k s ∧ whL f n s = whL f k s := by
  obtain ⟨m, rfl⟩ := Nat.exists_eq_add_of_le hk
  exact wh_more h m
theorem wh_next {s : Ts} {k : Nat} (h : (whS f k s).2 = false) : whS f (k + 1) s = (f (whS f k s)).2 ∧ whL f (k + 1) s = whL f k s ++ [(f (whS f k s)).1] := by
  refine ⟨?_, ?_⟩
  · show (if (whS f k s).2 then _ else _) = _
    rw [h]
    rfl
  · show (if (whS f k s).2 then _ else _) = _
    rw [h]
    rfl
theorem whL_len (s : Ts) : ∀ k, (whL f k s).length ≤ k
  | 0 => by simp [whL]
  | k + 1 => by
    have := whL_len s k
    show (if (whS f k s).2 then whL f k s else whL f k s ++ [(f (whS f k s)).1]).length ≤ k + 1
    split
    · omega
    · simp; omega
end
theorem whL_of {α : Type} {f : Ts → α × Ts} {P : α → Prop} (hf : ∀ s, P (f s).1) : ∀ (k : Nat) (s : Ts), ∀ q ∈ whL f k s, P q
  | 0, _ => fun q hq => by cases hq
  | k + 1, s => fun q hq => by
    have hq' : q ∈ (if (whS f k s).2 then whL f k s else whL f k s ++ [(f (whS f k s)).1]) := hq
    split at hq'
    · exact whL_of hf k s q hq'
    · rcases List.mem_append.1 hq' with h | h
      · exact whL_of hf k s q h
      · obtain rfl := List.mem_singleton.1 h
        exact hf _
theorem txt_small (s : Ts) : (s.txt 1).size ≤ 1000000 := by
  have h1 := ts_len (s.s 1) (s.num 1)
  have h2 := ts_num s 1
  show (List.toArray _).size ≤ _
  rw [List.size_toArray]
  omega
/-- An object on its way in: the result's box at w.heap.size, the taker at g, the object's box at X. -/
structure Oz (w : World) (g X : Nat) (s : Ts) (x : Ov) (L P E : Sl) (W : World) : Prop where
  b : Below w.heap.size w W
  y : Lies W w.heap.size 73 zOf.cells
  t : Tk W g s
  ob : Lies W X 73 (x.at_ L P E).cells
  o : OwnO W (X + 1) x L P E
  hg : w.heap.size < g
  hx : g < X
section
variable {w W W' : World} {g X : Nat} {s s' : Ts} {x x' : Ov} {L P E L' P' E' : Sl}
theorem Oz.lt (h : Oz w g X s x L P E W) : X + 1 ≤ W.heap.size := h.ob.lt
theorem Oz.up (h : Oz w g X s x L P E W) (hb : Below W.heap.size W W') : Oz w g X s x L P E W' :=
  ⟨h.b.trans (hb.mono h.b.size), h.y.below hb h.y.lt, h.t.below hb, h.ob.below hb h.ob.lt, h.o.below hb, h.hg, h.hx⟩
theorem own_far {W W' : World} {base k n : Nat} {e : TypeId} {v : Value} {xs : List Value} {b : Nat} (h : W.ownsRow base e k v n xs) (hb : b < base) (hg : W.grownBy W' (some b)) : W'.ownsRow base e k v n xs :=
  own_keep h fun j hj => hg.block j (h.lt j hj).2 (by have := (h.lt j hj).1; simp <;> omega)
theorem OwnO.far {base b : Nat} (h : OwnO W base x L P E) (hb : b < base) (hg : W.grownBy W' (some b)) : OwnO W' base x L P E := ⟨own_far h.l hb hg, own_far h.p hb hg, own_far h.e hb hg⟩
theorem Oz.call (h : Oz w g X s x L P E W) (hg : W.grownBy W' (some g)) (ht : Tk W' g s') : Oz w g X s' x L P E W' :=
  ⟨h.b.trans (S3.below_of_only hg (by have := h.hg; omega) h.b.size), h.y.kp (hg.block _ h.y.lt (by have := h.hg; simp <;> omega)) hg.size, ht, h.ob.kp (hg.block _ h.ob.lt (by have := h.hx; simp <;> omega)) hg.size, h.o.far (by have := h.hx; omega) hg, h.hg, h.hx⟩
/-- The object's box is written, the rows stay. -/
theorem Oz.put (h : Oz w g X s x L P E W) (hg : W.grownBy W' (some X)) (hl : Lies W' X 73 (x'.at_ L' P' E').cells) (ho : OwnO W (X + 1) x' L' P' E') : Oz w g X s x' L' P' E' W' :=
  ⟨h.b.trans (S3.below_of_only hg (by have := h.hg; have := h.hx; omega) h.b.size), h.y.kp (hg.block _ h.y.lt (by have := h.hg; have := h.hx; simp <;> omega)) hg.size, h.t.kept hg.size (fun k hk => hg.block k (by have := h.t.lt; omega) (by have := h.hx; simp <;> omega)), hl, ho.far (Nat.lt_succ_self _) hg, h.hg, h.hx⟩
theorem grown_cells (W : World) (b o : Nat) (vs : List Value) : W.grownBy (W.setCells b o vs) (some b) :=
  ⟨(setCells_os b vs o W).1, (setCells_os b vs o W).2.1, (setCells_os b vs o W).2.2.1, Nat.le_of_eq (setCells_os b vs o W).2.2.2.1.symm, fun k _ hn => (setCells_os b vs o W).2.2.2.2 k (by simpa using hn)⟩
/-- A row of one's own has grown, and its slice is stored. -/
theorem Oz.app {W1 : World} {r : Option Nat} (h : Oz w g X s x L P E W) (hg : W.grownBy W1 r) (hr : ∀ k, r = some k → X + 1 ≤ k) (ho : OwnO W1 (X + 1) x' L' P' E') (j : Nat) (v : Value) (hl : (x'.at_ L' P' E').cells = (x.at_ L P E).cells.set j v) : Oz w g X s x' L' P' E' (W1.setCell ⟨X, j, none⟩ v) := by
  have hg0 := h.hg
  have hx0 := h.hx
  have g2 : W1.grownBy (W1.setCell ⟨X, j, none⟩ v) (some X) := grown_cells W1 X j [v]
  have b1 : Below w.heap.size w W1 := h.b.grown hg h.b.size (fun k hk => by have := hr k hk; omega)
  have y1 := h.y.kp (hg.block _ h.y.lt (fun e => by have := hr _ e.symm; omega)) hg.size
  have t1 := h.t.kept hg.size (fun k hk => hg.block k (by have := h.t.lt; omega) (fun e => by have := hr _ e.symm; omega))
  have x1 := h.ob.kp (hg.block _ h.ob.lt (fun e => by have := hr _ e.symm; omega)) hg.size
  exact ⟨b1.trans (S3.below_of_only g2 (by omega) b1.size), y1.kp (g2.block _ y1.lt (by simp <;> omega)) g2.size, t1.kept g2.size (fun k hk => g2.block k (by have := t1.lt; omega) (by simp <;> omega)), by rw [hl]; exact x1.set1 j v, ho.far (Nat.lt_succ_self _) g2, h.hg, h.hx⟩
/-- One cell of the object's box is written. -/
theorem Oz.one (h : Oz w g X s x L P E W) (j : Nat) (v : Value) (hl : (x'.at_ L P E).cells = (x.at_ L P E).cells.set j v) (h1 : x'.lv = x.lv) (h2 : x'.ps = x.ps) (h3 : x'.es = x.es) : Oz w g X s x' L P E (W.setCell ⟨X, j, none⟩ v) :=
  h.put (grown_cells W X j [v]) (by rw [hl]; exact h.ob.set1 j v) ⟨by rw [h1]; exact h.o.l, by rw [h2]; exact h.o.p, by rw [h3]; exact h.o.e⟩
/-- An Id of the object's box is written. -/
theorem Oz.tree_ (h : Oz w g X s x L P E W) (i : Idv) : Oz w g X s { x with tree := i } L P E (W.setCells X 4 i.cells) :=
  h.put (grown_cells W X 4 i.cells) (by have := h.ob.mid 4 i.cells (by rw [id_sz]; omega); rw [← of_tree] at this; exact this) ⟨h.o.l, h.o.p, h.o.e⟩
theorem Oz.base_ (h : Oz w g X s x L P E W) (i : Idv) : Oz w g X s { x with base := i } L P E (W.setCells X 36 i.cells) :=
  h.put (grown_cells W X 36 i.cells) (by have := h.ob.mid 36 i.cells (by rw [id_sz]; omega); rw [← of_base] at this; exact this) ⟨h.o.l, h.o.p, h.o.e⟩
theorem Oz.c68 (h : Oz w g X s x L P E W) : W.cell? ⟨X, 68, none⟩ = some (.slice P.a P.n P.c) := (obj_lies h.ob).2.2.2.2.2.2.1
theorem Oz.c69 (h : Oz w g X s x L P E W) : W.cell? ⟨X, 69, none⟩ = some (.slice E.a E.n E.c) := (obj_lies h.ob).2.2.2.2.2.2.2.1
theorem Oz.c70 (h : Oz w g X s x L P E W) : W.cell? ⟨X, 70, none⟩ = some (.int .u32 (x.num : Int)) := (obj_lies h.ob).2.2.2.2.2.2.2.2.1
theorem Oz.c71 (h : Oz w g X s x L P E W) : W.cell? ⟨X, 71, none⟩ = some (.int .u32 (x.auth : Int)) := (obj_lies h.ob).2.2.2.2.2.2.2.2.2.1
theorem Oz.c72 (h : Oz w g X s x L P E W) : W.cell? ⟨X, 72, none⟩ = some (.string x.note) := (obj_lies h.ob).2.2.2.2.2.2.2.2.2.2
theorem Oz.there (h : Oz w g X s x L P E W) (o k : Nat) (hk : o + k ≤ 73) : W.there X o k := fun i hi => by have := h.ob.th (o + i) (by omega); rwa [Nat.zero_add] at this
end
end Go.Proofs.YtcofkhmgmemkmaaGreatDoor
