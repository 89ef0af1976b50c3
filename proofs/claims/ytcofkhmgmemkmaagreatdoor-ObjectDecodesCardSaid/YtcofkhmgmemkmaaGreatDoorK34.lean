/-
  OBJECTS: the numbers of the laws' first calls.
  OBJECTS: the reader's way back over the bytes (pure).
  OBJECTS: less of the bytes is too short (pure).
  OBJECTS: what an object is cut down to by the laws.
-/
import Derived.Test.YtcofkhmgmemkmaaGreatDoorK33
namespace Go.Proofs.YtcofkhmgmemkmaaGreatDoor
set_option linter.unusedVariables false
set_option linter.unusedSimpArgs false
set_option maxRecDepth 100000

theorem sameI_refl (l : List Idv) : sameI l l = true := by unfold sameI; simp
theorem sameLs_refl (l : List Lf) : sameLs l l = true := by unfold sameLs; simp [sameLf]
theorem sameE_refl (l : List Ch) : sameE l l = true := by unfold sameE; simp [sameCh]
theorem sameO_refl (x : Ov) : sameO x x = true := by
  unfold sameO
  rw [sameI_refl, sameLs_refl, sameE_refl]
  simp
def hiO : Ov := { kOv 1 with text := ⟨#[104, 105]⟩ }
theorem hi_bytes : bytesW hiO = [1, 0, 2, 104, 105] := by decide +kernel
theorem hi_sound : soundW hiO = true := by decide +kernel
theorem hi_ok : okW hiO = true := by
  unfold okW bareO
  rw [hi_sound, hi_bytes]
  rw [show cntO hiO = hiO from rfl, sameO_refl]
  rfl
def abR : List Rw := [⟨⟨#[97]⟩, ⟨#[49]⟩⟩, ⟨⟨#[98]⟩, ⟨#[49]⟩⟩]
theorem ab_right : rightR abR = true := by decide +kernel
theorem ab_one : idW (blobO ⟨#[49]⟩) = idW (blobO ⟨#[49]⟩) := rfl
def oneI : List UInt8 := S3.sumW [1, 0, 1, 49]
theorem one_bytes : bytesW (blobO ⟨#[49]⟩) = [1, 0, 1, 49] := by decide +kernel
theorem ab_diff : ((idW (blobO ⟨#[49]⟩)).b == (idW (treeO abR)).b) = false := by decide +kernel
def oneO : Ov := blobO ⟨#[49]⟩
theorem one_sound : soundW oneO = true := by decide +kernel
theorem one_ok : okW oneO = true := by
  unfold okW bareO
  rw [one_sound, show bytesW oneO = [1, 0, 1, 49] from one_bytes, show cntO oneO = oneO from rfl, sameO_refl]
  rfl
theorem tr_sound : soundW (treeO abR) = true := by decide +kernel
theorem tr_len : (bytesW (treeO abR)).length = 70 := by decide +kernel
theorem tr_ok : okW (treeO abR) = true := by
  unfold okW bareO
  rw [tr_sound, tr_len, show cntO (treeO abR) = treeO abR from rfl, sameO_refl]
  rfl
theorem ab_all : allO abR = [oneO, oneO, treeO abR] := rfl
theorem ab_gO : gO (allO abR) = ([oneO, treeO abR], false) := by
  have h1 : gAddO ([], false) oneO = ([oneO], false) := rfl
  have h2 : gAddO ([oneO], false) oneO = ([oneO], false) := by
    unfold gAddO
    simp only [List.find?_cons, BEq.rfl, sameO_refl, if_true]
  have h3 : gAddO ([oneO], false) (treeO abR) = ([oneO, treeO abR], false) := by
    unfold gAddO
    simp only [List.find?_cons, show ((idW oneO).b == (idW (treeO abR)).b) = false from ab_diff, List.find?_nil, List.cons_append, List.nil_append]
  unfold gO
  rw [ab_all]
  simp only [List.foldl_cons, List.foldl_nil, h1, h2, h3]
theorem ab_err : gErr abR = 0 := by
  unfold gErr
  rw [ab_gO, ab_all]
  simp [one_ok, tr_ok]
theorem ab_partsE : partsE abR = 0 := by unfold partsE; rw [ab_right, if_pos rfl, ab_err]
theorem ab_partsW : partsW abR = [oneO, treeO abR] := by unfold partsW; rw [ab_right, if_pos rfl, gL_ok ab_err, ab_gO]
theorem ab_links : (linksW (treeO abR)).length = 2 := rfl
theorem e2_obj : objR ([2, 0], 0) = (kOv 2, ([], 0)) := by rfl
theorem e2_sound : soundW (kOv 2) = true := by decide +kernel
theorem e2_bytes : bytesW (kOv 2) = [2, 0] := by decide +kernel
theorem e2_ok : okW (kOv 2) = true := by
  unfold okW bareO
  rw [e2_sound, e2_bytes, show cntO (kOv 2) = kOv 2 from rfl, sameO_refl]
  rfl
theorem e2_dec : decW [2, 0] = (kOv 2, 0) := by
  unfold decW
  rw [e2_obj]
  simp [e2_ok, e2_bytes]
end Go.Proofs.YtcofkhmgmemkmaaGreatDoor
namespace Go.Proofs.YtcofkhmgmemkmaaGreatDoor
set_option linter.unusedVariables false
set_option linter.unusedSimpArgs false

theorem tk_at (a t : List UInt8) (n : Nat) (h : a.length = n) : St.t (a ++ t, 0) n = a ∧ St.s (a ++ t, 0) n = (t, 0) := by
  obtain ⟨h1, h2, h3⟩ := S3.offT_at a t n n rfl h
  exact ⟨h1, by unfold St.s; dsimp only; rw [h2, h3]⟩
theorem one_at (k : Nat) (hk : k < 256) (t : List UInt8) : St.num ([UInt8.ofNat k] ++ t, 0) 1 = k ∧ St.s ([UInt8.ofNat k] ++ t, 0) 1 = (t, 0) := by
  obtain ⟨h1, h2⟩ := tk_at [UInt8.ofNat k] t 1 rfl
  refine ⟨?_, h2⟩
  unfold St.num
  rw [h1]
  simp [S3.num]
  omega
theorem be_at (w k : Nat) (hk : k < 256 ^ w) (t : List UInt8) : St.num (S3.be w k ++ t, 0) w = k ∧ St.s (S3.be w k ++ t, 0) w = (t, 0) := by
  obtain ⟨h1, h2⟩ := tk_at (S3.be w k) t w (S3.be_len w k)
  refine ⟨?_, h2⟩
  unfold St.num
  rw [h1, S3.num_be]
  exact Nat.mod_eq_of_lt hk
theorem str_at (s : ByteArray) : (⟨(strB s).toArray⟩ : ByteArray) = s := by
  unfold strB
  cases s
  simp
theorem word_at (s : ByteArray) (h : s.size < 256) (t : List UInt8) : wordV ([UInt8.ofNat s.size] ++ (strB s ++ t), 0) = s ∧ wordS ([UInt8.ofNat s.size] ++ (strB s ++ t), 0) = (t, 0) := by
  obtain ⟨h1, h2⟩ := one_at s.size h (strB s ++ t)
  obtain ⟨h3, h4⟩ := tk_at (strB s) t s.size (strB_len s)
  unfold wordV wordS
  rw [h1, h2, h3, h4]
  exact ⟨str_at s, rfl⟩
theorem text_at (s : ByteArray) (h : s.size < 65536) (t : List UInt8) : textV (S3.be 2 s.size ++ (strB s ++ t), 0) = s ∧ textS (S3.be 2 s.size ++ (strB s ++ t), 0) = (t, 0) := by
  obtain ⟨h1, h2⟩ := be_at 2 s.size h (strB s ++ t)
  obtain ⟨h3, h4⟩ := tk_at (strB s) t s.size (strB_len s)
  unfold textV textS
  rw [h1, h2, h3, h4]
  exact ⟨str_at s, rfl⟩
theorem id_at (i : Idv) (t : List UInt8) : idT (i.b ++ t, 0) = i ∧ St.s (i.b ++ t, 0) 32 = (t, 0) := by
  obtain ⟨h1, h2⟩ := tk_at i.b t 32 i.h
  refine ⟨Idv.ext_ ?_, h2⟩
  unfold idT
  show St.t (i.b ++ t, 0) 32 ++ List.replicate (32 - (St.t (i.b ++ t, 0) 32).length) 0 = i.b
  rw [h1, i.h]
  simp
theorem leaf_at (l : Lf) (h : l.p.size < 256) (t : List UInt8) : leafR (leafB l ++ t, 0) = (l, (t, 0)) := by
  unfold leafR leafB
  rw [List.append_assoc, List.append_assoc]
  obtain ⟨h1, h2⟩ := word_at l.p h (l.id.b ++ t)
  obtain ⟨h3, h4⟩ := id_at l.id t
  rw [h1, h2, h3, h4]
theorem idr_at (i : Idv) (t : List UInt8) : idR (i.b ++ t, 0) = (i, (t, 0)) := by
  unfold idR
  obtain ⟨h3, h4⟩ := id_at i t
  rw [h3, h4]
theorem chg_at (c : Ch) (h : c.p.size < 256) (h' : c.t.size < 65536) (t : List UInt8) : chgR (chB c ++ t, 0) = (c, (t, 0)) := by
  unfold chgR chB
  simp only [List.append_assoc]
  obtain ⟨h1, h2⟩ := word_at c.p h ([if c.is then 1 else 0] ++ (S3.be 2 c.t.size ++ (strB c.t ++ t)))
  rw [h1, h2]
  obtain ⟨h3, h4⟩ := tk_at [if c.is then (1 : UInt8) else 0] (S3.be 2 c.t.size ++ (strB c.t ++ t)) 1 rfl
  obtain ⟨h5, h6⟩ := text_at c.t h' t
  rw [h4, h5, h6]
  unfold St.num
  rw [h3]
  obtain ⟨p, is, tx⟩ := c
  cases is <;> rfl
/-- Rows, one behind the other. -/
theorem rows_at {α : Type} (f : St → α × St) (g : α → List UInt8) (l : List α) (hf : ∀ x ∈ l, ∀ t, f (g x ++ t, 0) = (x, (t, 0))) (t : List UInt8) : ∀ k, k ≤ l.length → itL f k (l.flatMap g ++ t, 0) = l.take k ∧ itS f k (l.flatMap g ++ t, 0) = ((l.drop k).flatMap g ++ t, 0)
  | 0, _ => ⟨rfl, rfl⟩
  | k + 1, hk => by
    obtain ⟨h1, h2⟩ := rows_at f g l hf t k (by omega)
    have hk' : k < l.length := by omega
    have e := hf l[k] (List.getElem_mem hk') ((l.drop (k + 1)).flatMap g ++ t)
    have e2 : (l.drop k).flatMap g ++ t = g l[k] ++ ((l.drop (k + 1)).flatMap g ++ t) := by
      rw [List.drop_eq_getElem_cons hk', List.flatMap_cons, List.append_assoc]
    refine ⟨?_, ?_⟩
    · show itL f k _ ++ [(f (itS f k _)).1] = _
      rw [h1, h2, e2, e]
      exact (List.take_succ_eq_append_getElem hk').symm
    · show (f (itS f k _)).2 = _
      rw [h2, e2, e]
theorem rows_all {α : Type} (f : St → α × St) (g : α → List UInt8) (l : List α) (hf : ∀ x ∈ l, ∀ t, f (g x ++ t, 0) = (x, (t, 0))) (t : List UInt8) : itL f l.length (l.flatMap g ++ t, 0) = l ∧ itS f l.length (l.flatMap g ++ t, 0) = (t, 0) := by
  obtain ⟨h1, h2⟩ := rows_at f g l hf t l.length (Nat.le_refl _)
  rw [h1, h2]
  simp
theorem style_in {x : Ov} (h : styleW x = true) : x.style = 1 ∨ x.style = 2 ∨ x.style = 3 := by
  unfold styleW at h
  by_cases h1 : x.style = 1
  · exact .inl h1
  by_cases h2 : x.style = 2
  · exact .inr (.inl h2)
  by_cases h3 : x.style = 3
  · exact .inr (.inr h3)
  rw [if_neg h1, if_neg h2, if_neg h3] at h
  cases h
theorem com_facts {x : Ov} (h : comW x = true) : (x.style = 1 ∨ x.style = 2 ∨ x.style = 3) ∧ x.note.size ≤ 200 ∧ rightC x.es = true ∧ styleW x = true := by
  unfold comW at h
  simp only [Bool.and_eq_true, Bool.not_eq_true', decide_eq_false_iff_not] at h
  obtain ⟨⟨⟨⟨_, _⟩, h3⟩, h4⟩, h5⟩ := h
  exact ⟨style_in h5, by omega, h4, h5⟩
theorem back_blob {x : Ov} (hk : x.kind = 1) (hs : x.text.size ≤ 256) (t : List UInt8) : objR (bytesW x ++ t, 0) = (cntO x, (t, 0)) := by
  have e : bytesW x ++ t = [UInt8.ofNat 1] ++ (S3.be 2 x.text.size ++ (strB x.text ++ t)) := by
    unfold bytesW
    rw [if_pos hk, hk]
    simp
  obtain ⟨h1, h2⟩ := one_at 1 (by omega) (S3.be 2 x.text.size ++ (strB x.text ++ t))
  obtain ⟨h3, h4⟩ := text_at x.text (by omega) t
  rw [e]
  unfold objR cntO
  rw [h1, h2, if_pos rfl, if_pos hk, h3, h4, hk]
theorem back_tree {x : Ov} (hk : x.kind = 2) (hn : x.lv.length ≤ 32) (hl : ∀ l ∈ x.lv, l.p.size ≤ 48) (t : List UInt8) : objR (bytesW x ++ t, 0) = (cntO x, (t, 0)) := by
  have hk1 : ¬ x.kind = 1 := by omega
  have e : bytesW x ++ t = [UInt8.ofNat 2] ++ ([UInt8.ofNat x.lv.length] ++ (x.lv.flatMap leafB ++ t)) := by
    unfold bytesW
    rw [if_neg hk1, if_pos hk, hk]
    simp
  obtain ⟨h1, h2⟩ := one_at 2 (by omega) ([UInt8.ofNat x.lv.length] ++ (x.lv.flatMap leafB ++ t))
  obtain ⟨h3, h4⟩ := one_at x.lv.length (by omega) (x.lv.flatMap leafB ++ t)
  obtain ⟨h5, h6⟩ := rows_all leafR leafB x.lv (fun l hm t => leaf_at l (by have := hl l hm; omega) t) t
  rw [e]
  unfold objR cntO
  rw [h1, h2, if_neg (by omega), if_pos rfl, if_neg hk1, if_pos hk, h3, h4, h5, h6, hk]
theorem chg_sizes {l : List Ch} (h : rightC l = true) : l.length ≤ 32 ∧ ∀ c ∈ l, c.p.size ≤ 48 ∧ c.t.size ≤ 256 := by
  unfold rightC fitW at h
  simp only [Bool.and_eq_true, decide_eq_true_eq, List.all_eq_true] at h
  exact ⟨h.1.1.1, fun r hr => fitP_sizes (h.1.1.2 r hr)⟩
theorem style_ps {x : Ov} (h : styleW x = true) : x.ps.length ≤ 2 := by
  unfold styleW at h
  split at h
  · simp only [Bool.and_eq_true, beq_iff_eq] at h; omega
  split at h
  · simp only [Bool.and_eq_true, beq_iff_eq] at h; omega
  split at h
  · simp only [Bool.and_eq_true, beq_iff_eq] at h; omega
  · cases h
theorem back_com {x : Ov} (hk : x.kind = 3) (hc : comW x = true) (hn : x.num < 4294967296) (ha : x.auth < 4294967296) (t : List UInt8) : objR (bytesW x ++ t, 0) = (cntO x, (t, 0)) := by
  obtain ⟨hst, hno, hes, hsw⟩ := com_facts hc
  obtain ⟨he1, he2⟩ := chg_sizes hes
  have hps := style_ps hsw
  have hk1 : ¬ x.kind = 1 := by omega
  have hk2 : ¬ x.kind = 2 := by omega
  obtain ⟨sn, hsn, hsn2⟩ : ∃ n : Nat, x.style = (n : Int) ∧ n < 256 := by
    rcases hst with h | h | h
    · exact ⟨1, h, by omega⟩
    · exact ⟨2, h, by omega⟩
    · exact ⟨3, h, by omega⟩
  have e : bytesW x ++ t = [UInt8.ofNat 3] ++ ([UInt8.ofNat sn] ++ (x.tree.b ++ ([UInt8.ofNat x.ps.length] ++ (x.ps.flatMap Idv.b ++ (x.base.b ++ ([UInt8.ofNat x.es.length] ++ (x.es.flatMap chB ++ (S3.be 4 x.num ++ (S3.be 4 x.auth ++ ([UInt8.ofNat x.note.size] ++ (strB x.note ++ t))))))))))) := by
    unfold bytesW comB
    rw [if_neg hk1, if_neg hk2, hk, hsn]
    simp
  rw [e]
  obtain ⟨a1, a2⟩ := one_at 3 (by omega) ([UInt8.ofNat sn] ++ (x.tree.b ++ ([UInt8.ofNat x.ps.length] ++ (x.ps.flatMap Idv.b ++ (x.base.b ++ ([UInt8.ofNat x.es.length] ++ (x.es.flatMap chB ++ (S3.be 4 x.num ++ (S3.be 4 x.auth ++ ([UInt8.ofNat x.note.size] ++ (strB x.note ++ t)))))))))))
  obtain ⟨b1, b2⟩ := one_at sn hsn2 (x.tree.b ++ ([UInt8.ofNat x.ps.length] ++ (x.ps.flatMap Idv.b ++ (x.base.b ++ ([UInt8.ofNat x.es.length] ++ (x.es.flatMap chB ++ (S3.be 4 x.num ++ (S3.be 4 x.auth ++ ([UInt8.ofNat x.note.size] ++ (strB x.note ++ t))))))))))
  obtain ⟨c1, c2⟩ := id_at x.tree ([UInt8.ofNat x.ps.length] ++ (x.ps.flatMap Idv.b ++ (x.base.b ++ ([UInt8.ofNat x.es.length] ++ (x.es.flatMap chB ++ (S3.be 4 x.num ++ (S3.be 4 x.auth ++ ([UInt8.ofNat x.note.size] ++ (strB x.note ++ t)))))))))
  obtain ⟨d1, d2⟩ := one_at x.ps.length (by omega) (x.ps.flatMap Idv.b ++ (x.base.b ++ ([UInt8.ofNat x.es.length] ++ (x.es.flatMap chB ++ (S3.be 4 x.num ++ (S3.be 4 x.auth ++ ([UInt8.ofNat x.note.size] ++ (strB x.note ++ t))))))))
  obtain ⟨e1, e2⟩ := rows_all idR Idv.b x.ps (fun i _ t => idr_at i t) (x.base.b ++ ([UInt8.ofNat x.es.length] ++ (x.es.flatMap chB ++ (S3.be 4 x.num ++ (S3.be 4 x.auth ++ ([UInt8.ofNat x.note.size] ++ (strB x.note ++ t)))))))
  obtain ⟨f1, f2⟩ := id_at x.base ([UInt8.ofNat x.es.length] ++ (x.es.flatMap chB ++ (S3.be 4 x.num ++ (S3.be 4 x.auth ++ ([UInt8.ofNat x.note.size] ++ (strB x.note ++ t))))))
  obtain ⟨g1, g2⟩ := one_at x.es.length (by omega) (x.es.flatMap chB ++ (S3.be 4 x.num ++ (S3.be 4 x.auth ++ ([UInt8.ofNat x.note.size] ++ (strB x.note ++ t)))))
  obtain ⟨h1, h2⟩ := rows_all chgR chB x.es (fun c hm t => chg_at c (by have := he2 c hm; omega) (by have := he2 c hm; omega) t) (S3.be 4 x.num ++ (S3.be 4 x.auth ++ ([UInt8.ofNat x.note.size] ++ (strB x.note ++ t))))
  obtain ⟨i1, i2⟩ := be_at 4 x.num hn (S3.be 4 x.auth ++ ([UInt8.ofNat x.note.size] ++ (strB x.note ++ t)))
  obtain ⟨j1, j2⟩ := be_at 4 x.auth ha ([UInt8.ofNat x.note.size] ++ (strB x.note ++ t))
  obtain ⟨k1, k2⟩ := word_at x.note (by omega) t
  unfold objR cntO comR
  dsimp only
  rw [a1, a2, if_neg (by omega), if_neg (by omega), if_pos rfl, if_neg hk1, if_neg hk2, if_pos hk]
  rw [b1, b2, c1, c2, d1, d2, e1, e2, f1, f2, g1, g2, h1, h2, i1, i2, j1, j2, k1, k2, ← hsn, ← hk]
/-- What counts of an object comes back, and what stands behind it is left. -/
theorem bytes_back {x : Ov} (hs : soundW x = true) (hn : x.num < 4294967296) (ha : x.auth < 4294967296) (t : List UInt8) : objR (bytesW x ++ t, 0) = (cntO x, (t, 0)) := by
  rcases layW_of hs with ⟨h1, h2⟩ | ⟨h1, h2, h3⟩ | ⟨h1, h2⟩
  · exact back_blob h1 h2 t
  · exact back_tree h1 h2 h3 t
  · exact back_com h1 h2 hn ha t
theorem ba_eq {a b : ByteArray} (h : (a.toList == b.toList) = true) : a = b := by
  rw [beq_iff_eq, ByteArray.toList_eq, ByteArray.toList_eq] at h
  cases a; cases b
  simp at h
  rw [h]
theorem lf_eq {a b : Lf} (h : sameLf a b = true) : a = b := by
  unfold sameLf at h
  simp only [Bool.and_eq_true] at h
  obtain ⟨p, i⟩ := a
  obtain ⟨p', i'⟩ := b
  have h1 : p = p' := ba_eq h.1
  have h2 : i = i' := Idv.ext_ (by simpa using h.2)
  rw [h1, h2]
theorem ch_eq {a b : Ch} (h : sameCh a b = true) : a = b := by
  unfold sameCh at h
  simp only [Bool.and_eq_true] at h
  obtain ⟨p, i, t⟩ := a
  obtain ⟨p', i', t'⟩ := b
  have h1 : p = p' := ba_eq h.1.1
  have h2 : i = i' := by simpa using h.1.2
  have h3 : t = t' := ba_eq h.2
  rw [h1, h2, h3]
theorem ls_eq {l l' : List Lf} (h : sameLs l l' = true) : l = l' := by
  obtain ⟨h1, h2⟩ := of_decide_eq_true h
  exact List.ext_getElem h1 fun j hj hj' => lf_eq (h2 j hj hj')
theorem es_eq {l l' : List Ch} (h : sameE l l' = true) : l = l' := by
  obtain ⟨h1, h2⟩ := of_decide_eq_true h
  exact List.ext_getElem h1 fun j hj hj' => ch_eq (h2 j hj hj')
theorem is_eq {l l' : List Idv} (h : sameI l l' = true) : l = l' := by
  have h1 : l.map Idv.b = l'.map Idv.b := of_decide_eq_true h
  have hl : l.length = l'.length := by simpa using congrArg List.length h1
  refine List.ext_getElem hl fun j hj hj' => Idv.ext_ ?_
  have := congrArg (fun m => m[j]?) h1
  simpa [hj, hj'] using this
theorem sameO_to {x y : Ov} (h : sameO x y = true) : x = y := by
  unfold sameO at h
  simp only [Bool.and_eq_true] at h
  obtain ⟨⟨⟨⟨⟨⟨⟨⟨⟨⟨h0, h1⟩, h2⟩, h3⟩, h4⟩, h5⟩, h6⟩, h7⟩, h8⟩, h9⟩, h10⟩ := h
  obtain ⟨k, t, lv, st, tr, ba, ps, es, nu, au, no⟩ := x
  obtain ⟨k', t', lv', st', tr', ba', ps', es', nu', au', no'⟩ := y
  have e0 : k = k' := by simpa using h0
  have e1 : t = t' := ba_eq h1
  have e2 : lv = lv' := ls_eq h2
  have e3 : st = st' := by simpa using h3
  have e4 : tr = tr' := Idv.ext_ (by simpa using h4)
  have e5 : ba = ba' := Idv.ext_ (by simpa using h5)
  have e6 : ps = ps' := is_eq h6
  have e7 : es = es' := es_eq h7
  have e8 : nu = nu' := by simpa using h8
  have e9 : au = au' := by simpa using h9
  have e10 : no = no' := ba_eq h10
  rw [e0, e1, e2, e3, e4, e5, e6, e7, e8, e9, e10]
theorem okW_bare {x : Ov} (h : okW x = true) : cntO x = x := by
  unfold okW at h
  simp only [Bool.and_eq_true] at h
  exact (sameO_to h.1.1).symm
/-- THE WAY THERE AND BACK. -/
theorem dec_back {x : Ov} (h : okW x = true) (hn : x.num < 4294967296) (ha : x.auth < 4294967296) : decW (bytesW x) = (x, 0) := by
  have e := bytes_back (okW_sound h) hn ha []
  rw [List.append_nil, okW_bare h] at e
  unfold decW
  rw [e]
  simp [h]
/-- ... and from bytes to the object and back. -/
theorem dec_bytes {b : List UInt8} (h : (decW b).2 = 0) : okW (decW b).1 = true ∧ bytesW (decW b).1 = b := by
  unfold decW at h ⊢
  by_cases h1 : (objR (b, 0)).2.2 ≠ 0
  · rw [if_pos h1] at h; exact absurd h h1
  · rw [if_neg h1] at h ⊢
    by_cases h2 : (okW (objR (b, 0)).1 && (bytesW (objR (b, 0)).1 == b)) = true
    · rw [if_pos h2]
      simpa using h2
    · rw [if_neg h2] at h
      cases h
end Go.Proofs.YtcofkhmgmemkmaaGreatDoor
namespace Go.Proofs.YtcofkhmgmemkmaaGreatDoor
set_option linter.unusedVariables false
set_option linter.unusedSimpArgs false

/-- What is read of a row well is read of every longer one; and no error but that it is too short. -/
structure Ext {α : Type} (f : St → α × St) : Prop where
  ok : ∀ (l : List UInt8) (e : Int) (t : List UInt8), (f (l, e)).2.2 = 0 → e = 0 ∧ f (l ++ t, 0) = ((f (l, e)).1, ((f (l, e)).2.1 ++ t, 0))
  er : ∀ (l : List UInt8) (e : Int), e = 0 ∨ e = 7 → (f (l, e)).2.2 = 0 ∨ (f (l, e)).2.2 = 7
theorem Ext.ret {α : Type} (a : α) : Ext (fun s => (a, s)) :=
  ⟨fun l e t h => by simp only at h; subst h; exact ⟨rfl, rfl⟩, fun l e h => h⟩
theorem Ext.bind {α β : Type} {f : St → α × St} {g : α → St → β × St} (hf : Ext f) (hg : ∀ a, Ext (g a)) : Ext (fun s => g (f s).1 (f s).2) := by
  refine ⟨fun l e t h => ?_, fun l e h => ?_⟩
  · obtain ⟨h1, h2⟩ := (hg (f (l, e)).1).ok (f (l, e)).2.1 (f (l, e)).2.2 t h
    obtain ⟨h3, h4⟩ := hf.ok l e t h1
    refine ⟨h3, ?_⟩
    show g (f (l ++ t, 0)).1 (f (l ++ t, 0)).2 = _
    rw [h4]
    exact h2
  · exact (hg (f (l, e)).1).er (f (l, e)).2.1 (f (l, e)).2.2 (hf.er l e h)
theorem Ext.take {α : Type} (n : Nat) (v : List UInt8 → α) : Ext (fun s : St => (v (s.t n), s.s n)) := by
  refine ⟨fun l e t h => ?_, fun l e h => ?_⟩
  · have h' : S3.offE l e n = 0 := h
    unfold S3.offE at h'
    by_cases he : e = 0
    · subst he
      rw [if_pos rfl, if_neg (by omega)] at h'
      by_cases hn : (n : Int) ≤ l.length
      · have c1 : (0 : Int) = 0 ∧ (0 : Int) ≤ (n : Int) ∧ (n : Int) ≤ (l.length : Int) := ⟨rfl, by omega, hn⟩
        have c2 : (0 : Int) = 0 ∧ (0 : Int) ≤ (n : Int) ∧ (n : Int) ≤ ((l ++ t).length : Int) := ⟨rfl, by omega, by simp; omega⟩
        refine ⟨rfl, ?_⟩
        unfold St.t St.s S3.offT S3.offL S3.offE
        dsimp only
        rw [if_pos c1, if_pos c2, if_pos c1, if_pos c2, if_pos rfl, if_neg (by omega), if_pos c2.2.2, Int.toNat_natCast, List.take_append_of_le_length (by omega), List.drop_append_of_le_length (by omega)]
      · rw [if_neg hn] at h'; cases h'
    · rw [if_neg he] at h'; exact absurd h' he
  · show S3.offE l e n = 0 ∨ S3.offE l e n = 7
    unfold S3.offE
    rcases h with rfl | rfl
    · rw [if_pos rfl, if_neg (by omega)]
      by_cases hn : (n : Int) ≤ l.length
      · rw [if_pos hn]; exact .inl rfl
      · rw [if_neg hn]; exact .inr rfl
    · rw [if_neg (by omega)]; exact .inr rfl
theorem ext_num (n : Nat) : Ext (fun s : St => (s.num n, s.s n)) := Ext.take n S3.num
theorem ext_word : Ext (fun s : St => (wordV s, wordS s)) := (ext_num 1).bind fun n => Ext.take n fun l => (⟨l.toArray⟩ : ByteArray)
theorem ext_text : Ext (fun s : St => (textV s, textS s)) := (ext_num 2).bind fun n => Ext.take n fun l => (⟨l.toArray⟩ : ByteArray)
theorem ext_id : Ext idR := by
  have h := Ext.take 32 fun l => (⟨l.take 32 ++ List.replicate (32 - (l.take 32).length) 0, by simp; omega⟩ : Idv)
  have e : idR = fun s : St => ((⟨(s.t 32).take 32 ++ List.replicate (32 - ((s.t 32).take 32).length) 0, by simp; omega⟩ : Idv), s.s 32) := by
    funext s
    unfold idR
    have : idT s = (⟨(s.t 32).take 32 ++ List.replicate (32 - ((s.t 32).take 32).length) 0, by simp; omega⟩ : Idv) := Idv.ext_ (by
      show s.t 32 ++ List.replicate (32 - (s.t 32).length) 0 = (s.t 32).take 32 ++ List.replicate (32 - ((s.t 32).take 32).length) 0
      rw [List.take_of_length_le (t_len s 32)])
    rw [this]
  rw [e]
  exact h
theorem ext_leaf : Ext leafR := ext_word.bind fun p => ext_id.bind fun i => Ext.ret (⟨p, i⟩ : Lf)
theorem ext_chg : Ext chgR := ext_word.bind fun p => (ext_num 1).bind fun n => ext_text.bind fun t => Ext.ret (⟨p, n == 1, t⟩ : Ch)
theorem ext_rows {α : Type} {f : St → α × St} (hf : Ext f) : ∀ n, Ext (fun s => (itL f n s, itS f n s))
  | 0 => Ext.ret []
  | n + 1 => (ext_rows hf n).bind fun l => hf.bind fun a => Ext.ret (l ++ [a])
theorem ext_com : Ext comR := (ext_num 1).bind fun st => ext_id.bind fun tr => (ext_num 1).bind fun np => (ext_rows ext_id np).bind fun ps => ext_id.bind fun ba => (ext_num 1).bind fun ne => (ext_rows ext_chg ne).bind fun es => (ext_num 4).bind fun nu => (ext_num 4).bind fun au => ext_word.bind fun no => Ext.ret (⟨3, ⟨#[]⟩, [], st, tr, ba, ps, es, nu, au, no⟩ : Ov)
def objG (q : Nat) (s : St) : Ov × St :=
  if q = 1 then ({ kOv 1 with text := textV s }, textS s)
  else if q = 2 then ({ kOv 2 with lv := itL leafR (s.num 1) (s.s 1) }, itS leafR (s.num 1) (s.s 1))
  else if q = 3 then comR s
  else (kOv q, s)
theorem ext_objG (q : Nat) : Ext (objG q) := by
  by_cases h1 : q = 1
  · have e : objG q = fun s => ({ kOv 1 with text := textV s }, textS s) := by funext s; unfold objG; rw [if_pos h1]
    rw [e]
    exact ext_text.bind fun t => Ext.ret ({ kOv 1 with text := t } : Ov)
  by_cases h2 : q = 2
  · have e : objG q = fun s => ({ kOv 2 with lv := itL leafR (s.num 1) (s.s 1) }, itS leafR (s.num 1) (s.s 1)) := by funext s; unfold objG; rw [if_neg h1, if_pos h2]
    rw [e]
    exact (ext_num 1).bind fun n => (ext_rows ext_leaf n).bind fun l => Ext.ret ({ kOv 2 with lv := l } : Ov)
  by_cases h3 : q = 3
  · have e : objG q = comR := by funext s; unfold objG; rw [if_neg h1, if_neg h2, if_pos h3]
    rw [e]
    exact ext_com
  · have e : objG q = fun s => (kOv q, s) := by funext s; unfold objG; rw [if_neg h1, if_neg h2, if_neg h3]
    rw [e]
    exact Ext.ret _
theorem ext_obj : Ext objR := (ext_num 1).bind ext_objG
/-- LESS OF IT IS TOO SHORT. -/
theorem dec_short {x : Ov} (h : okW x = true) (hn : x.num < 4294967296) (ha : x.auth < 4294967296) {k : Nat} (hk : k < (bytesW x).length) : decW ((bytesW x).take k) = (zOv, 7) := by
  have e := bytes_back (okW_sound h) hn ha []
  rw [List.append_nil] at e
  have h7 : (objR ((bytesW x).take k, 0)).2.2 = 7 := by
    rcases ext_obj.er ((bytesW x).take k) 0 (.inl rfl) with h0 | h0
    · have h1 := (ext_obj.ok ((bytesW x).take k) 0 ((bytesW x).drop k) h0).2
      rw [List.take_append_drop, e] at h1
      have h2 : ([] : List UInt8) = (objR ((bytesW x).take k, 0)).2.1 ++ (bytesW x).drop k := congrArg (fun r : Ov × St => r.2.1) h1
      have h3 := congrArg List.length h2
      simp at h3
      omega
    · exact h0
  unfold decW
  rw [h7, if_pos (by decide)]
/-- The errors that bytes can have. -/
theorem dec_errs (b : List UInt8) : (decW b).2 = 0 ∨ ((decW b).1 = zOv ∧ ((decW b).2 = 7 ∨ (decW b).2 = 160)) := by
  unfold decW
  by_cases h1 : (objR (b, 0)).2.2 ≠ 0
  · rw [if_pos h1]
    rcases ext_obj.er b 0 (.inl rfl) with h0 | h0
    · exact absurd h0 h1
    · exact .inr ⟨rfl, .inl h0⟩
  · rw [if_neg h1]
    by_cases h2 : (okW (objR (b, 0)).1 && (bytesW (objR (b, 0)).1 == b)) = true
    · rw [if_pos h2]; exact .inl rfl
    · rw [if_neg h2]; exact .inr ⟨rfl, .inr rfl⟩
end Go.Proofs.YtcofkhmgmemkmaaGreatDoor
namespace Go.Proofs.YtcofkhmgmemkmaaGreatDoor
set_option linter.unusedVariables false
set_option linter.unusedSimpArgs false
open Go.RowKit Go.WideShapes Go.ChangeShapes Go.Deep

/-- The first m bytes of a text. -/
def cutB (m : Nat) (s : ByteArray) : ByteArray := s.extract 0 (min (s.size : Int) (m : Int)).toNat
theorem cut_size (m : Nat) (s : ByteArray) : (cutB m s).size = min s.size m := by
  unfold cutB
  rw [ByteArray.size_extract]
  omega
theorem cut_cut (m : Nat) (s : ByteArray) : cutB m (cutB m s) = cutB m s := by
  have h := cut_size m s
  obtain ⟨t, ht⟩ : ∃ t, cutB m s = t := ⟨_, rfl⟩
  rw [ht] at h ⊢
  unfold cutB
  have e : (min (t.size : Int) (m : Int)).toNat = t.size := by omega
  rw [e, ByteArray.extract_zero_size]
def cutL (l : Lf) : Lf := ⟨cutB 49 l.p, l.id⟩
def cutC (r : Ch) : Ch := ⟨cutB 49 r.p, r.is, cutB 257 r.t⟩
/-- The first rows and bytes of an object. -/
def preO (x : Ov) : Ov := { x with text := cutB 257 x.text, note := cutB 201 x.note, lv := x.lv.take 33, ps := x.ps.take 4, es := x.es.take 33 }
def shortO (x : Ov) : Ov := { preO x with lv := (x.lv.take 33).map cutL, es := (x.es.take 33).map cutC }
theorem cutL_cut (l : Lf) : cutL (cutL l) = cutL l := by unfold cutL; simp [cut_cut]
theorem cutC_cut (r : Ch) : cutC (cutC r) = cutC r := by unfold cutC; simp [cut_cut]
theorem take_map_take {α : Type} {f : α → α} (hf : ∀ a, f (f a) = f a) (k : Nat) (l : List α) : ((((l.take k).map f).take k).map f) = (l.take k).map f := by
  rw [List.take_of_length_le (by rw [List.length_map, List.length_take]; omega), List.map_map]
  congr 1
  funext a
  exact hf a
theorem short_short (x : Ov) : shortO (shortO x) = shortO x := by
  have h1 := take_map_take cutL_cut 33 x.lv
  have h2 := take_map_take cutC_cut 33 x.es
  have h3 : (x.ps.take 4).take 4 = x.ps.take 4 := by rw [List.take_take]; simp
  unfold shortO preO
  simp only [cut_cut, h1, h2, h3]
end Go.Proofs.YtcofkhmgmemkmaaGreatDoor
