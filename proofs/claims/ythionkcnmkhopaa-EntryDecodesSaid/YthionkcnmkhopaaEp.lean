/-
  COMMANDS, PURE: bytes by their places.
-/
import Derived.Test.YthionkcnmkhopaaEm
namespace Go.Proofs.Ythionkcnmkhopaa
set_option linter.unusedVariables false
set_option linter.unusedSimpArgs false
open Go.RowKit Go.WideShapes Go.ChangeShapes Go.Deep

def sub (l : List UInt8) (a k : Nat) : List UInt8 := (l.drop a).take k
theorem sub_len {l : List UInt8} {a k : Nat} (h : a + k ≤ l.length) : (sub l a k).length = k := by
  unfold sub
  rw [List.length_take, List.length_drop]
  omega
theorem sub_drop (l : List UInt8) (a k b : Nat) (h : b = a + k) : l.drop a = sub l a k ++ l.drop b := by
  subst h
  unfold sub
  rw [← List.drop_drop, List.take_append_drop]
theorem one_drop {l : List UInt8} {a b : Nat} {k : UInt8} (h : l[a]? = some k) (hb : b = a + 1) : l.drop a = [k] ++ l.drop b := by
  subst hb
  obtain ⟨ha, rfl⟩ := List.getElem?_eq_some_iff.1 h
  rw [List.drop_eq_getElem_cons ha]
  rfl
theorem cut_prt {l : List UInt8} {k c nb : UInt8} {n m : Nat} (h0 : l[0]? = some k) (h1 : l[1]? = some c) (h6 : l[6]? = some nb) :
    l = prt k c (sub l 2 4) nb (sub l 7 n) (sub l (7 + n) 32) (sub l (39 + n) 32) (sub l (71 + n) 2) (sub l (73 + n) m) (l.drop (73 + n + m)) := by
  unfold prt
  rw [← sub_drop l (73 + n) m _ rfl, ← sub_drop l (71 + n) 2 (73 + n) (by omega), ← sub_drop l (39 + n) 32 (71 + n) (by omega), ← sub_drop l (7 + n) 32 (39 + n) (by omega), ← sub_drop l 7 n (7 + n) rfl,
    ← one_drop h6 rfl, ← sub_drop l 2 4 6 rfl, ← one_drop h1 rfl, ← one_drop h0 rfl]
  rfl
theorem par_long {l : List UInt8} {k c nb : UInt8} {n m : Nat} (h0 : l[0]? = some k) (h1 : l[1]? = some c) (h6 : l[6]? = some nb) (hn : nb.toNat = n) (hm : num (sub l (71 + n) 2) = m) (hl : 73 + n + m ≤ l.length) :
    parC (l, 0) = (⟨(k.toNat : Int), (c.toNat : Int), num (sub l 2 4), ⟨(sub l 7 n).toArray⟩, ⟨sub l (7 + n) 32, sub_len (by omega)⟩, ⟨sub l (39 + n) 32, sub_len (by omega)⟩, sub l (73 + n) m⟩, (l.drop (73 + n + m), 0)) := by
  have e := cut_prt (n := n) (m := m) h0 h1 h6
  have p := par_app k c (sub l 2 4) nb (sub l 7 n) ⟨sub l (7 + n) 32, sub_len (by omega)⟩ ⟨sub l (39 + n) 32, sub_len (by omega)⟩ (sub l (71 + n) 2) (sub l (73 + n) m) (l.drop (73 + n + m)) (sub_len (by omega)) (by rw [hn]; exact sub_len (by omega)) (sub_len (by omega)) (by rw [hm]; exact sub_len (by omega))
  dsimp only at p
  rw [← e] at p
  exact p
theorem prt_at6 (k c : UInt8) (Q : List UInt8) (nb : UInt8) (br io iw M dt rest : List UInt8) (hQ : Q.length = 4) : (prt k c Q nb br io iw M dt rest)[6]? = some nb := by
  unfold prt
  rw [List.getElem?_append_right (by simp), List.getElem?_append_right (by simp), List.getElem?_append_right (by simp [hQ]), List.getElem?_append_left (by simp [hQ])]
  simp [hQ]
theorem prt_len (k c : UInt8) (Q : List UInt8) (nb : UInt8) (br : List UInt8) (io iw : Idv) (M dt rest : List UInt8) (hQ : Q.length = 4) (hM : M.length = 2) : (prt k c Q nb br io.b iw.b M dt rest).length = 73 + br.length + dt.length + rest.length := by
  unfold prt
  simp only [List.length_append, List.length_cons, List.length_nil, hQ, hM, io.h, iw.h]
  omega
theorem prt_mid (k c : UInt8) (Q : List UInt8) (nb : UInt8) (br : List UInt8) (io iw : Idv) (M dt rest : List UInt8) (hQ : Q.length = 4) (hM : M.length = 2) {n : Nat} (hn : br.length = n) : sub (prt k c Q nb br io.b iw.b M dt rest) (71 + n) 2 = M := by
  unfold sub
  have e : prt k c Q nb br io.b iw.b M dt rest = ([k] ++ ([c] ++ (Q ++ ([nb] ++ (br ++ (io.b ++ iw.b)))))) ++ (M ++ (dt ++ rest)) := by
    unfold prt
    simp
  rw [e, List.drop_left' (by simp only [List.length_append, List.length_cons, List.length_nil, hQ, io.h, iw.h, hn]; omega), List.take_left' hM]
theorem par_short (l : List UInt8) (h : l.length < 7 ∨ ∃ nb : UInt8, l[6]? = some nb ∧ (l.length < 73 + nb.toNat ∨ l.length < 73 + nb.toNat + num (sub l (71 + nb.toNat) 2))) : (parC (l, 0)).2.2 = 7 := by
  rcases par_err l with h0 | h7
  · exfalso
    obtain ⟨k, c, Q, nb, br, io, iw, M, dt, rest, rfl, hQ, hb, hM, hd⟩ := par_inv _ h0
    have hlen := prt_len k c Q nb br io iw M dt rest hQ hM
    rcases h with h | ⟨nb', h6, h⟩
    · omega
    · rw [prt_at6 k c Q nb br io.b iw.b M dt rest hQ] at h6
      injection h6 with h6
      subst h6
      rw [prt_mid k c Q nb br io iw M dt rest hQ hM hb] at h
      omega
  · exact h7
theorem dec_short (l : List UInt8) (h : l.length < 7 ∨ ∃ nb : UInt8, l[6]? = some nb ∧ (l.length < 73 + nb.toNat ∨ l.length < 73 + nb.toNat + num (sub l (71 + nb.toNat) 2))) : decW l = (zCv, 7) := by
  unfold decW
  rw [par_short l h, if_pos (by decide)]
/-- An Id as far as it is read. -/
def mixL (O : List UInt8) (i : Nat) : List UInt8 := O.take i ++ List.replicate (32 - i) 0
theorem mixL_len {O : List UInt8} (hO : O.length = 32) {i : Nat} (hi : i ≤ 32) : (mixL O i).length = 32 := by
  unfold mixL
  rw [List.length_append, List.length_take, List.length_replicate]
  omega
def mixI (O : Idv) (i : Nat) : Idv := if h : i ≤ 32 then ⟨mixL O.b i, mixL_len O.h h⟩ else O
theorem mixI_b (O : Idv) {i : Nat} (h : i ≤ 32) : (mixI O i).b = mixL O.b i := by
  unfold mixI
  rw [dif_pos h]
theorem mixI_zero (O : Idv) : mixI O 0 = Idv.zero := Idv.ext_ (by rw [mixI_b O (by omega)]; rfl)
theorem mixI_all (O : Idv) : mixI O 32 = O := Idv.ext_ (by rw [mixI_b O (by omega)]; unfold mixL; rw [List.take_of_length_le (by rw [O.h]; omega)]; simp)
theorem mix_step (O : List UInt8) (hO : O.length = 32) (i : Nat) (hi : i < 32) : (bvs (mixL O i)).set i (bv (O[i]'(by omega))) = bvs (mixL O (i + 1)) := by
  unfold mixL
  rw [show 32 - i = (32 - (i + 1)) + 1 by omega, List.replicate_succ, List.take_succ_eq_append_getElem (by omega), bvs_app, bvs_app, bvs_app]
  rw [List.set_append_right _ _ (by rw [bvs_len, List.length_take]; omega)]
  rw [show i - (bvs (O.take i)).length = 0 by rw [bvs_len, List.length_take]; omega]
  simp [bvs]
theorem cf_set4 (o : Cf) (i : Nat) (hi : i < 32) (v : Value) : o.cells.set (4 + i) v = [.int .i64 o.kind, .int .i64 o.client, .int .u32 (o.seq : Int), .string o.branch] ++ ((bvs o.old.b).set i v ++ (bvs o.new.b ++ [o.dv])) := by
  unfold Cf.cells
  rw [List.set_append_right _ _ (by simp), List.set_append_left _ _ (by rw [bvs_len, o.old.h]; simp; omega)]
  congr 2
  congr 1
  simp
theorem cf_set36 (o : Cf) (i : Nat) (hi : i < 32) (v : Value) : o.cells.set (36 + i) v = [.int .i64 o.kind, .int .i64 o.client, .int .u32 (o.seq : Int), .string o.branch] ++ (bvs o.old.b ++ ((bvs o.new.b).set i v ++ [o.dv])) := by
  unfold Cf.cells
  have h1 : (bvs o.old.b).length = 32 := by rw [bvs_len, o.old.h]
  rw [List.set_append_right _ _ (by simp; omega), List.set_append_right _ _ (by rw [h1]; simp; omega), List.set_append_left _ _ (by rw [h1, bvs_len, o.new.h]; simp; omega)]
  rw [h1, show 36 + i - [Value.int .i64 o.kind, Value.int .i64 o.client, Value.int .u32 (o.seq : Int), Value.string o.branch].length - 32 = i by simp; omega]
theorem old_step (o : Cf) (O : Idv) (i : Nat) (hi : i < 32) : ({ o with old := mixI O i } : Cf).cells.set (4 + i) (bv (O.b[i]'(by rw [O.h]; exact hi))) = ({ o with old := mixI O (i + 1) } : Cf).cells := by
  rw [cf_set4 _ i hi]
  unfold Cf.cells
  dsimp only
  rw [mixI_b O (by omega), mixI_b O (by omega), mix_step O.b O.h i hi]
theorem new_step (o : Cf) (O : Idv) (i : Nat) (hi : i < 32) : ({ o with new := mixI O i } : Cf).cells.set (36 + i) (bv (O.b[i]'(by rw [O.h]; exact hi))) = ({ o with new := mixI O (i + 1) } : Cf).cells := by
  rw [cf_set36 _ i hi]
  unfold Cf.cells
  dsimp only
  rw [mixI_b O (by omega), mixI_b O (by omega), mix_step O.b O.h i hi]
end Go.Proofs.Ythionkcnmkhopaa
