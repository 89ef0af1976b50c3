/-
  A LITERAL SLICE OF MAPS; texts one by one.
-/
import Derived.Test.YtkdmlffnkomdhaaPp
import Derived.Test.YtkdmlffnkomdhaaBs
namespace Go.Proofs.Ytkdmlffnkomdhaa
set_option linter.unusedVariables false
set_option linter.unusedSimpArgs false
open Go.RowKit Go.WideShapes Go.ChangeShapes Go.Deep

theorem info_mp : (Try.prog.info? 24).map (fun i => (i.zero, i.size, i.bytes)) = some (some (.agg #[.slice none 0 0]), 1, 24) := by kernel_rfl
theorem mv_size (A : Option Addr) (n c : Nat) : (Value.agg #[.slice A n c]).cells.size = 1 := by simp [Value.cells]
theorem two_maps (A A' : Option Addr) (n c n' c' : Nat) (w : World) : (Instr.buildSlice 71 2 #[(0, .agg #[.slice A n c]), (1, .agg #[.slice A' n' c'])]).run Try.prog w = .ok (.slice (some ⟨w.heap.size, 0, none⟩) 2 2) (w.alloc (.cells #[.slice A n c, .slice A' n' c'] 24)) := by
  go_simp
theorem wp_two_maps {o : Oper} {a : Act} {w : World} {K : Act → World → Prop} {Q : Exit → Act → World → Prop} (x y : Operand) (ho : o.op = .buildSlice 71 2 #[(0, x), (1, y)]) (A A' : Option Addr) (n c n' c' : Nat) (hx : a.eval x = .agg #[.slice A n c]) (hy : a.eval y = .agg #[.slice A' n' c'])
    (h : K (a.put o.dst (.slice (some ⟨w.heap.size, 0, none⟩) 2 2)) (w.alloc (.cells #[.slice A n c, .slice A' n' c'] 24))) : o.wp Try.prog a w K Q := by
  unfold Oper.wp execOp
  simp only [ho, List.map_toArray, List.map_cons, List.map_nil, hx, hy, two_maps, Sem.run_bind, Result.andThen_ok]
  exact h
theorem two_sq (A A' : Option Addr) (n c n' c' : Nat) (l l' : List Rw) (w : World) : Sq Mp.cells 1 (w.alloc (.cells #[.slice A n c, .slice A' n' c'] 24)) (w.alloc (.cells #[.slice A n c, .slice A' n' c'] 24)).heap.size (some ⟨w.heap.size, 0, none⟩) 2 2 [⟨A, n, c, l⟩, ⟨A', n', c', l'⟩] :=
  ⟨rfl, Nat.le_refl _, by unfold maxLen; omega, (fun e => by cases e), mp_sz, fun _ => ⟨_, 0, rfl, by simp, (Lies.new w [.slice A n c, .slice A' n' c'] 24).rg⟩⟩
theorem mp_all2 {P : Mp → Prop} {a b : Mp} (h : P a) (k : P b) : ∀ m ∈ [a, b], P m := fun m hm => by
  rcases List.mem_cons.1 hm with rfl | hm
  · exact h
  · obtain rfl : m = b := by simpa using hm
    exact k
end Go.Proofs.Ytkdmlffnkomdhaa
