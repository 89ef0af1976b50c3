/-
  COMMANDS, PURE: there and back.
-/
import Derived.Test.YthionkcnmkhopaaEk
namespace Go.Proofs.Ythionkcnmkhopaa
set_option linter.unusedVariables false
set_option linter.unusedSimpArgs false
open Go.RowKit Go.WideShapes Go.ChangeShapes Go.Deep

theorem be_num : ∀ (k : Nat) (l : List UInt8), l.length = k → be k (num l) = l
  | 0, l, h => by rw [List.eq_nil_of_length_eq_zero h]; rfl
  | k + 1, l, h => by
    obtain ⟨a, b, rfl⟩ : ∃ a b, l = a ++ [b] := ⟨l.dropLast, l.getLast (by intro e; rw [e] at h; simp at h), (List.dropLast_concat_getLast _).symm⟩
    have hb := b.toNat_lt
    rw [be, num_snoc, show (num a * 256 + b.toNat) / 256 = num a by omega, be_num k a (by simpa using h)]
    congr 1
    congr 1
    apply UInt8.toNat_inj.1
    simp
theorem st_app (a t : List UInt8) (n : Nat) (h : a.length = n) : St.t (a ++ t, 0) n = a ∧ St.s (a ++ t, 0) n = (t, 0) := by
  obtain ⟨h1, h2, h3⟩ := offT_at a t n (n : Int) rfl h
  unfold St.t St.s
  dsimp only
  exact ⟨h1, by rw [h2, h3]⟩
theorem st_inv (s : St) (n : Nat) (h : (s.s n).2 = 0) : s.2 = 0 ∧ s.1 = s.t n ++ (s.s n).1 ∧ (s.t n).length = n := by
  obtain ⟨l, e⟩ := s
  unfold St.s St.t at *
  dsimp only at *
  unfold offE at h
  by_cases he : e = 0
  · subst he
    rw [if_pos rfl, if_neg (by omega)] at h
    have hn : (n : Int) ≤ l.length := by
      by_cases hh : (n : Int) ≤ l.length
      · exact hh
      · rw [if_neg hh] at h; exact absurd h (by decide)
    have hc : (0 : Int) = 0 ∧ (0 : Int) ≤ (n : Int) ∧ (n : Int) ≤ l.length := ⟨rfl, by omega, hn⟩
    unfold offT offL
    rw [if_pos hc, if_pos hc, Int.toNat_natCast]
    exact ⟨rfl, (List.take_append_drop n l).symm, by rw [List.length_take]; omega⟩
  · rw [if_neg he] at h
    exact absurd h he
theorem st_err (s : St) (n : Nat) (h : s.2 = 0 ∨ s.2 = 7) : (s.s n).2 = 0 ∨ (s.s n).2 = 7 := by
  obtain ⟨l, e⟩ := s
  unfold St.s
  dsimp only at *
  unfold offE
  rcases h with rfl | rfl
  · rw [if_pos rfl, if_neg (by omega)]
    split
    · exact .inl rfl
    · exact .inr rfl
  · exact .inr rfl
theorem par_err (l : List UInt8) : (parC (l, 0)).2.2 = 0 ∨ (parC (l, 0)).2.2 = 7 := by
  unfold parC
  dsimp only
  exact st_err _ _ (st_err _ _ (st_err _ _ (st_err _ _ (st_err _ _ (st_err _ _ (st_err _ _ (st_err _ _ (st_err _ _ (.inl rfl)))))))))
/-- Bytes, part by part. -/
def prt (k c : UInt8) (Q : List UInt8) (nb : UInt8) (br io iw M dt rest : List UInt8) : List UInt8 := [k] ++ ([c] ++ (Q ++ ([nb] ++ (br ++ (io ++ (iw ++ (M ++ (dt ++ rest))))))))
theorem num_one (k : UInt8) : num [k] = k.toNat := by simp [num]
theorem par_app (k c : UInt8) (Q : List UInt8) (nb : UInt8) (br : List UInt8) (io iw : Idv) (M dt rest : List UInt8) (hQ : Q.length = 4) (hb : br.length = nb.toNat) (hM : M.length = 2) (hd : dt.length = num M) :
    parC (prt k c Q nb br io.b iw.b M dt rest, 0) = (⟨(k.toNat : Int), (c.toNat : Int), num Q, ⟨br.toArray⟩, io, iw, dt⟩, (rest, 0)) := by
  unfold prt
  have a1 := st_app [k] ([c] ++ (Q ++ ([nb] ++ (br ++ (io.b ++ (iw.b ++ (M ++ (dt ++ rest)))))))) 1 rfl
  have a2 := st_app [c] (Q ++ ([nb] ++ (br ++ (io.b ++ (iw.b ++ (M ++ (dt ++ rest))))))) 1 rfl
  have a3 := st_app Q ([nb] ++ (br ++ (io.b ++ (iw.b ++ (M ++ (dt ++ rest)))))) 4 hQ
  have a4 := st_app [nb] (br ++ (io.b ++ (iw.b ++ (M ++ (dt ++ rest))))) 1 rfl
  have a5 := st_app br (io.b ++ (iw.b ++ (M ++ (dt ++ rest)))) nb.toNat hb
  have a6 := st_app io.b (iw.b ++ (M ++ (dt ++ rest))) 32 io.h
  have a7 := st_app iw.b (M ++ (dt ++ rest)) 32 iw.h
  have a8 := st_app M (dt ++ rest) 2 hM
  have a9 := st_app dt rest (num M) hd
  have e6 : idT (io.b ++ (iw.b ++ (M ++ (dt ++ rest))), 0) = io := Idv.ext_ (by unfold idT; dsimp only; rw [a6.1, io.h]; simp)
  have e7 : idT (iw.b ++ (M ++ (dt ++ rest)), 0) = iw := Idv.ext_ (by unfold idT; dsimp only; rw [a7.1, iw.h]; simp)
  unfold parC
  dsimp only
  unfold St.nm
  simp only [a1.1, a1.2, a2.1, a2.2, a3.1, a3.2, a4.1, a4.2, num_one, a5.1, a5.2, e6, a6.2, e7, a7.2, a8.1, a8.2, a9.1, a9.2]
theorem par_inv (l : List UInt8) (h : (parC (l, 0)).2.2 = 0) : ∃ (k c : UInt8) (Q : List UInt8) (nb : UInt8) (br : List UInt8) (io iw : Idv) (M dt rest : List UInt8), l = prt k c Q nb br io.b iw.b M dt rest ∧ Q.length = 4 ∧ br.length = nb.toNat ∧ M.length = 2 ∧ dt.length = num M := by
  unfold parC at h
  dsimp only at h
  obtain ⟨h8, e8, l8⟩ := st_inv _ _ h
  obtain ⟨h7, e7, l7⟩ := st_inv _ _ h8
  obtain ⟨h6, e6, l6⟩ := st_inv _ _ h7
  obtain ⟨h5, e5, l5⟩ := st_inv _ _ h6
  obtain ⟨h4, e4, l4⟩ := st_inv _ _ h5
  obtain ⟨h3, e3, l3⟩ := st_inv _ _ h4
  obtain ⟨h2, e2, l2⟩ := st_inv _ _ h3
  obtain ⟨h1, e1, l1⟩ := st_inv _ _ h2
  obtain ⟨h0, e0, l0⟩ := st_inv _ _ h1
  obtain ⟨k, hk⟩ := List.length_eq_one_iff.1 l0
  obtain ⟨c, hc⟩ := List.length_eq_one_iff.1 l1
  obtain ⟨nb, hn⟩ := List.length_eq_one_iff.1 l3
  have n1 : St.nm (((St.s (l, 0) 1).s 1).s 4) 1 = nb.toNat := by unfold St.nm; rw [hn, num_one]
  refine ⟨k, c, _, nb, _, ⟨_, l5⟩, ⟨_, l6⟩, _, _, (parC (l, 0)).2.1, ?_, l2, l4.trans n1, l7, l8⟩
  unfold parC
  unfold prt
  dsimp only
  rw [← e8, ← e7, ← e6, ← e5, ← e4, ← hn, ← e3, ← e2, ← hc, ← e1, ← hk]
  exact e0
/-- A command's bytes. -/
def bytesC (x : Cv) : List UInt8 := layC (x.at_ ⟨none, 0, 0⟩) x.data
theorem ok_small {x : Cv} (h : okC x = true) : (0 ≤ x.kind ∧ x.kind < 256) ∧ (0 ≤ x.client ∧ x.client < 256) ∧ x.branch.size < 256 ∧ x.data.length < 65536 := by
  unfold okC at h
  unfold okF askedW nameW isFilledB at h
  simp only [Bool.and_eq_true, decide_eq_true_eq, Bool.not_eq_true', beq_eq_false_iff_ne] at h
  obtain ⟨⟨⟨⟨⟨h1, h2⟩, h3⟩, h4, h5⟩, h6, h7⟩, h8⟩ := h
  have h1' : 1 ≤ x.client := h1
  have h2' : x.client ≤ 3 := h2
  have h6' : x.branch.size ≤ 24 := h6
  have h4' : fieldsW x.kind ≠ 0 := h4
  have hk : 0 ≤ x.kind ∧ x.kind < 256 := by
    unfold fieldsW at h4'
    split at h4'
    · omega
    · split at h4'
      · omega
      · split at h4'
        · omega
        · split at h4'
          · omega
          · exact absurd rfl h4'
  exact ⟨hk, by omega, by omega, by omega⟩
theorem nat_byte {k : Nat} (h : k < 256) : (UInt8.ofNat k).toNat = k := by simp; omega
theorem bytes_prt {x : Cv} (h : okC x = true) : bytesC x = prt (UInt8.ofNat x.kind.toNat) (UInt8.ofNat x.client.toNat) (be 4 x.seq) (UInt8.ofNat x.branch.size) (strB x.branch) x.old.b x.new.b (be 2 x.data.length) x.data [] := by
  unfold bytesC layC prt Cv.at_
  simp
theorem par_bytes {x : Cv} (h : okC x = true) (hs : x.seq < 4294967296) (t : List UInt8) : parC (bytesC x ++ t, 0) = (x, (t, 0)) := by
  obtain ⟨h1, h2, h3, h4⟩ := ok_small h
  have e : bytesC x ++ t = prt (UInt8.ofNat x.kind.toNat) (UInt8.ofNat x.client.toNat) (be 4 x.seq) (UInt8.ofNat x.branch.size) (strB x.branch) x.old.b x.new.b (be 2 x.data.length) x.data t := by
    rw [bytes_prt h]
    unfold prt
    simp
  rw [e, par_app _ _ _ _ _ x.old x.new _ _ _ (be_len _ _) (by rw [strB_len, nat_byte h3]) (be_len _ _) (by rw [num_be, Nat.mod_eq_of_lt (by omega)])]
  rw [nat_byte (by omega), nat_byte (by omega), num_be, Nat.mod_eq_of_lt (by omega)]
  have e1 : ((x.kind.toNat : Nat) : Int) = x.kind := by omega
  have e2 : ((x.client.toNat : Nat) : Int) = x.client := by omega
  rw [e1, e2]
  rfl
theorem dec_bytes {x : Cv} (h : okC x = true) (hs : x.seq < 4294967296) : decW (bytesC x) = (x, 0) := by
  have e := par_bytes h hs []
  rw [List.append_nil] at e
  unfold decW
  rw [e, if_neg (by simp), if_neg (by simp), if_pos h]
theorem dec_more {x : Cv} (h : okC x = true) (hs : x.seq < 4294967296) {t : List UInt8} (ht : t ≠ []) : decW (bytesC x ++ t) = (zCv, 210) := by
  unfold decW
  rw [par_bytes h hs t, if_neg (by simp), if_pos (List.length_pos_iff.2 ht)]
theorem dec_less {x : Cv} (h : okC x = true) (hs : x.seq < 4294967296) {k : Nat} (hk : k < (bytesC x).length) : decW ((bytesC x).take k) = (zCv, 7) := by
  have hne : (parC ((bytesC x).take k, 0)).2.2 = 7 := by
    rcases par_err ((bytesC x).take k) with h0 | h7
    · exfalso
      obtain ⟨a, c, Q, nb, br, io, iw, M, dt, rest, e, hQ, hb, hM, hd⟩ := par_inv _ h0
      have e2 : bytesC x = prt a c Q nb br io.b iw.b M dt (rest ++ (bytesC x).drop k) := by
        have e3 := List.take_append_drop k (bytesC x)
        rw [e] at e3
        refine e3.symm.trans ?_
        unfold prt
        simp
      have p1 := par_app a c Q nb br io iw M dt (rest ++ (bytesC x).drop k) hQ hb hM hd
      rw [← e2] at p1
      have p2 := par_bytes h hs []
      rw [List.append_nil, p1] at p2
      have e4 : rest ++ (bytesC x).drop k = [] := congrArg (fun z : Cv × St => z.2.1) p2
      have e5 := (List.append_eq_nil_iff.1 e4).2
      rw [List.drop_eq_nil_iff] at e5
      omega
    · exact h7
  unfold decW
  rw [hne, if_pos (by decide)]
theorem dec_back {b : List UInt8} (h : (decW b).2 = 0) : okC (decW b).1 = true ∧ bytesC (decW b).1 = b ∧ (decW b).1.seq < 4294967296 := by
  unfold decW at h ⊢
  by_cases h0 : (parC (b, 0)).2.2 ≠ 0
  · rw [if_pos h0] at h
    exact absurd h h0
  · rw [if_neg h0] at h ⊢
    have h0' : (parC (b, 0)).2.2 = 0 := by
      rcases par_err b with e | e
      · exact e
      · exact absurd (show (parC (b, 0)).2.2 ≠ 0 by rw [e]; decide) h0
    by_cases hl : 0 < (parC (b, 0)).2.1.length
    · rw [if_pos hl] at h
      exact absurd h (by decide)
    · rw [if_neg hl] at h ⊢
      by_cases hok : okC (parC (b, 0)).1 = true
      · rw [if_pos hok]
        refine ⟨hok, ?_⟩
        dsimp only
        obtain ⟨k, c, Q, nb, br, io, iw, M, dt, rest, rfl, hQ, hb, hM, hd⟩ := par_inv _ h0'
        rw [par_app k c Q nb br io iw M dt rest hQ hb hM hd] at hok hl ⊢
        have hr : rest = [] := List.eq_nil_of_length_eq_zero (by dsimp only at hl; omega)
        subst hr
        refine ⟨?_, ?_⟩
        · rw [bytes_prt hok]
          dsimp only
          rw [Int.toNat_natCast, Int.toNat_natCast, be_num 4 Q hQ, hd, be_num 2 M hM]
          have e1 : UInt8.ofNat k.toNat = k := by simp
          have e2 : UInt8.ofNat c.toNat = c := by simp
          have e3 : UInt8.ofNat (⟨br.toArray⟩ : ByteArray).size = nb := by
            rw [show (⟨br.toArray⟩ : ByteArray).size = br.length from by simp [ByteArray.size], hb]
            simp
          have e4 : strB ⟨br.toArray⟩ = br := by simp [strB]
          rw [e1, e2, e3, e4]
        · have := num_lt Q
          rw [hQ] at this
          exact this
      · rw [if_neg hok] at h
        exact absurd h (by decide)
theorem bytes_inj {x y : Cv} (hx : okC x = true) (hy : okC y = true) (sx : x.seq < 4294967296) (sy : y.seq < 4294967296) (h : bytesC x = bytesC y) : x = y := by
  have e1 := dec_bytes hx sx
  have e2 := dec_bytes hy sy
  rw [h, e2] at e1
  exact (congrArg Prod.fst e1).symm
end Go.Proofs.Ythionkcnmkhopaa
