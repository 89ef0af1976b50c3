/-
  TWO BLOCKS COMPARED.
-/
import Derived.Test.YtionbjocfepkaaaWb
import Derived.Laws.StructEq
namespace Go.Proofs.Ytionbjocfepkaaa
set_option linter.unusedVariables false
open Go.RowKit Go.WideShapes Go.ChangeShapes

theorem run_part_bvs (l : List UInt8) (i : Nat) (h : i < l.length) (w : World) : (part 5 (bvs l).toArray (i * 1)).run Try.prog w = .ok (bv l[i]) w := by
  have e : (bvs l)[i]? = some (bv l[i]) := by simp [bvs, h]
  simp only [part, isAgg, Sem.run_bind, run_underlying Try.underlying5, Result.andThen_ok, Sem.run_pure, Bool.false_eq_true, if_false, Nat.mul_one, List.getElem?_toArray, e]
theorem run_equalIn_rows (D : Nat) (a b : List UInt8) (n : Nat) (t : TypeId) (ht : Try.prog.underlying t = some (.array n 5)) (ha : a.length = n) (hb : b.length = n) (hel : ∀ (x y : Int) (w : World), (Op.equalIn D 5 (.int .u8 x) (.int .u8 y)).run Try.prog w = .ok (x == y) w) (w : World) :
    (Op.equalIn (D + 1) t (.agg (bvs a).toArray) (.agg (bvs b).toArray)).run Try.prog w = .ok (a == b) w := by
  have hsz : ∀ w : World, (sizeOf 5).run Try.prog w = .ok 1 w := fun w => by kernel_rfl
  simp only [Op.equalIn, Sem.run_bind, run_underlying ht, Result.andThen_ok, hsz]
  rw [Std.Legacy.Range.forIn_eq_forIn_range']
  simp only [Std.Legacy.Range.size, Nat.sub_zero, Nat.add_sub_cancel, Nat.div_one]
  have key : ∀ (m k : Nat) (w : World), k + m = n → ((forIn (List.range' k m 1) (none, ()) fun (i : Nat) (__s : Option Bool × Unit) => do
      let x ← part 5 (bvs a).toArray (i * 1)
      let y ← part 5 (bvs b).toArray (i * 1)
      let r ← Op.equalIn D 5 x y
      if (!r) = true then pure (ForInStep.done (some false, ())) else pure (ForInStep.yield (none, ()))) : Sem (Option Bool × Unit)).run Try.prog w = .ok (if a.drop k = b.drop k then (none, ()) else (some false, ())) w := by
    intro m
    induction m with
    | zero =>
      intro k w hk
      have e1 : a.drop k = [] := List.drop_eq_nil_of_le (by omega)
      have e2 : b.drop k = [] := List.drop_eq_nil_of_le (by omega)
      simp [e1, e2]
    | succ m ih =>
      intro k w hk
      have d1 : a.drop k = a[k]'(by omega) :: a.drop (k + 1) := List.drop_eq_getElem_cons (by omega)
      have d2 : b.drop k = b[k]'(by omega) :: b.drop (k + 1) := List.drop_eq_getElem_cons (by omega)
      rw [List.range'_succ, List.forIn_cons]
      simp only [Sem.run_bind, run_part_bvs a k (by omega), run_part_bvs b k (by omega), Result.andThen_ok, bv, hel]
      by_cases he : a[k]'(by omega) = b[k]'(by omega)
      · have hb : (((a[k]'(by omega)).toNat : Int) == ((b[k]'(by omega)).toNat : Int)) = true := by rw [he]; simp
        simp only [hb, Bool.not_true, Bool.false_eq_true, if_false, Sem.run_pure, Result.andThen_ok]
        rw [ih (k + 1) w (by omega)]
        have hiff : (a.drop k = b.drop k) = (a.drop (k + 1) = b.drop (k + 1)) := propext ⟨fun e => by rw [d1, d2] at e; injection e, fun e => by rw [d1, d2, he, e]⟩
        simp only [hiff]
      · have hb : (((a[k]'(by omega)).toNat : Int) == ((b[k]'(by omega)).toNat : Int)) = false := by
          rw [beq_eq_false_iff_ne]
          intro e
          exact he (UInt8.toNat_inj.1 (by omega))
        simp only [hb, Bool.not_false, if_true, Sem.run_pure, Result.andThen_ok]
        rw [if_neg (by rw [d1, d2]; intro e; injection e with e1 e2; exact he e1)]
  rw [key n 0 w (by omega)]
  simp only [List.drop_zero, Result.andThen_ok]
  by_cases he : a = b
  · simp [he]
  · have : (a == b) = false := by simpa using he
    simp [he]
theorem run_equal_blocks (a b : List UInt8) (ha : a.length = 64) (hb : b.length = 64) (w : World) : (Op.equal 37 (.agg (bvs a).toArray) (.agg (bvs b).toArray)).run Try.prog w = .ok (a == b) w :=
  run_equalIn_rows 9999 a b 64 _ Try.underlying37 ha hb (fun x y w => run_equalIn_int w 9998 _ _ _ x y Try.underlying5) w
theorem run_eql_blocks (a b : List UInt8) (ha : a.length = 64) (hb : b.length = 64) (w : World) : (binOp .eql 37 (.agg (bvs a).toArray) (.agg (bvs b).toArray)).run Try.prog w = .ok (.bool (a == b)) w := by
  simp only [binOp, Sem.run_bind, run_equal_blocks a b ha hb, Result.andThen_ok, Sem.run_pure]
theorem run_neq_blocks (a b : List UInt8) (ha : a.length = 64) (hb : b.length = 64) (w : World) : (binOp .neq 37 (.agg (bvs a).toArray) (.agg (bvs b).toArray)).run Try.prog w = .ok (.bool (!(a == b))) w := by
  simp only [binOp, Sem.run_bind, run_equal_blocks a b ha hb, Result.andThen_ok, Sem.run_pure]
end Go.Proofs.Ytionbjocfepkaaa
