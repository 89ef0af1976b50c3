/-
  OBJECTS: forced steps in a drawn region; rows of one's own, kept.
-/
import Derived.Test.YtcofkhmgmemkmaaGreatDoorK36
import Derived.Test.YtcofkhmgmemkmaaGreatDoorK37
namespace Go.Proofs.YtcofkhmgmemkmaaGreatDoor
set_option linter.unusedVariables false
set_option linter.unusedSimpArgs false
open Go.RowKit Go.WideShapes Go.ChangeShapes Go.Deep

theorem wpBk_one {P : Program} {ops : Array Oper} {Q : Exit → Act → World → Prop} {md : Region.Mode} {S : World → Prop} {m i fuel : Nat} {o : Oper} {listed : Array Bool} {a : Act} {w : World} (ho : ops[i]? = some o) (hg : Region.wanted o (yielded ops a.tmps) = true) (hr : Region.ready md ops listed = [i])
    (h : ∀ K' : Act → World → Prop, (∀ a' w', (S w → i < m → S w') ∧ wpBk P md ops Q S m fuel (listed.setIfInBounds i true) a' w' → K' a' w') → o.wp P a w K' Q) : wpBk P md ops Q S m (fuel + 1) listed a w :=
  ⟨fun h1 => (by rw [hr] at h1; cases h1), fun j hj => by
    rw [hr] at hj
    obtain rfl : j = i := by simpa using hj
    exact wpOp_step ho fun K' hK => by
      rw [if_pos hg]
      exact h K' hK⟩
section
variable {w w' : World} {base : Nat} {x : Ov} {L P E : Sl}
theorem OwnO.below (h : OwnO w base x L P E) (hb : Below w.heap.size w w') : OwnO w' base x L P E := ⟨own_down h.l hb, own_down h.p hb, own_down h.e hb⟩
theorem OwnO.set_ (h : OwnO w base x L P E) {b : Nat} (hb : b < base) (o : Nat) (vs : List Value) : OwnO (w.setCells b o vs) base x L P E :=
  ⟨own_keep h.l fun g hg => (setCells_os _ _ _ w).2.2.2.2 g (by have := (h.l.lt g hg).1; omega), own_keep h.p fun g hg => (setCells_os _ _ _ w).2.2.2.2 g (by have := (h.p.lt g hg).1; omega), own_keep h.e fun g hg => (setCells_os _ _ _ w).2.2.2.2 g (by have := (h.e.lt g hg).1; omega)⟩
theorem OwnO.obj (h : OwnO w base x L P E) (hk : (-9223372036854775808 ≤ x.kind ∧ x.kind ≤ 9223372036854775807) ∧ (-9223372036854775808 ≤ x.style ∧ x.style ≤ 9223372036854775807) ∧ x.num < 4294967296 ∧ x.auth < 4294967296) : Obj3 w w.heap.size x L P E :=
  ⟨own_sq h.l lf_sz (by omega), own_sq h.p id_sz (by omega), own_sq h.e ch_sz (by omega), hk.1, hk.2.1, hk.2.2.1, hk.2.2.2⟩
end
theorem own_base_o {w : World} {base base2 : Nat} {x : Ov} {L P E : Sl} (h : OwnO w base x L P E) (hb : base2 ≤ base) : OwnO w base2 x L P E := ⟨own_base h.l hb, own_base h.p hb, own_base h.e hb⟩
theorem Obj3.num_ {w : World} {B : Nat} {x : Ov} {L P E : Sl} (h : Obj3 w B x L P E) : (-9223372036854775808 ≤ x.kind ∧ x.kind ≤ 9223372036854775807) ∧ (-9223372036854775808 ≤ x.style ∧ x.style ≤ 9223372036854775807) ∧ x.num < 4294967296 ∧ x.auth < 4294967296 := ⟨h.kb, h.sb, h.nb, h.ab⟩
theorem of_yield {ops : Array Oper} {S : World → Prop} {op : Oper} {a : Act} (x : Operand) (ho : op.op = .load 34 x) (hw : Region.wanted op (yielded ops a.tmps) = true) (b : Nat) (i : Of) (hx : a.eval x = .pointer (some ⟨b, 0, none⟩)) (hS : ∀ w, S w → w.rangeAt b 0 i.cells) : YieldsIf Tryz.prog ops S op (ofV i) a :=
  yieldsIf_load_mid hw 34 x ho b 0 hx i.cells _ hS Tryz.underlying34 rfl (by rw [of_sz]; exact size_of)
theorem at_one (x : Ov) (L P E : Sl) : (x.at_ L P E).lv.oneCell' = true ∧ (x.at_ L P E).pv.oneCell' = true ∧ (x.at_ L P E).ev.oneCell' = true := ⟨rfl, rfl, rfl⟩
end Go.Proofs.YtcofkhmgmemkmaaGreatDoor
