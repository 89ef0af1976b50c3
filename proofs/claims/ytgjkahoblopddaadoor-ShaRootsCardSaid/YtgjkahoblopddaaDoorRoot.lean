/-
  THE DOCUMENT'S ROOTS, BEGUN: prime.
-/
import Derived.Test.YtgjkahoblopddaaDoorHigh
namespace Go.Proofs.YtgjkahoblopddaaDoor
set_option linter.unusedVariables false
set_option linter.unusedSimpArgs false
open Go.RowKit Go.WideShapes Go.ChangeShapes

def primeF (n : Nat) : Nat → Nat → Bool
  | 0, _ => decide (1 < n)
  | f + 1, d => if d * d ≤ n then (if n % d = 0 then false else primeF n f (d + 1)) else decide (1 < n)
def primeM (n : Nat) : Bool := primeF n n 2

set_option maxRecDepth 100000 in
set_option maxHeartbeats 1600000 in
theorem prime_any (n : Nat) (hn : n ≤ 1000) (N : Int) (hN : N = (n : Int)) (w : World) :
    Calls Tryd.prog 44 #[.int .u64 N] w fun e w' => e = .returned (.bool (primeM n)) ∧ w = w' := by
  subst hN
  go_enter Tryd.func44, Tryd.ntmps44
  go_wp2_with fail
  go_loopw [3] (fun i wr => ∃ d f : Nat, i = .int .u64 (d : Int) ∧ Hid (primeF n f d = primeM n) ∧ f + d = n + 2 ∧ 2 ≤ d ∧ wr = w) (fun i _ => n + 2 - (intOf i).toNat)
  case atStart => exact ⟨2, n, rfl, Lib.hid rfl, rfl, by omega, rfl⟩
  case round =>
    obtain ⟨d, f, rfl, hp, hf, hd2, rfl⟩ := hrel
    have hd : d ≤ 1002 := by omega
    obtain ⟨s, hs⟩ : ∃ s, d * d = s := ⟨_, rfl⟩
    have hs2 : s ≤ 1004004 := by rw [← hs]; exact Nat.mul_le_mul hd hd
    have hsI : (d : Int) * (d : Int) = (s : Int) := by rw [← hs]; exact (Int.natCast_mul d d).symm
    have hw : IntKind.u64.wrap ((d : Int) * (d : Int)) = (s : Int) := by rw [hsI, IntKind.wrap_u64]; omega
    have hd0 : (2 : Int) ≤ (d : Int) := by omega
    have hd1 : (d : Int) ≤ 1002 := by omega
    have hdz : ¬ ((d : Int) = 0) := by omega
    have hds : 2 * d ≤ s := by rw [← hs]; exact Nat.mul_le_mul hd2 (Nat.le_refl d)
    have hn0 : (0 : Int) ≤ (n : Int) := Int.natCast_nonneg _
    obtain ⟨r, hr⟩ : ∃ r, n % d = r := ⟨_, rfl⟩
    have hrI : (n : Int).tmod (d : Int) = (r : Int) := by rw [Int.tmod_eq_emod_of_nonneg hn0, ← hr]; rfl
    have HS := Lib.hid hs
    have HR := Lib.hid hr
    by_cases hle : s ≤ n
    · have hleI : decide ((s : Int) ≤ (n : Int)) = true := by simp; omega
      obtain ⟨f', rfl⟩ : ∃ f', f = f' + 1 := ⟨f - 1, by omega⟩
      have HF := Lib.hid hf
      have HE : Hid ((if r = 0 then false else primeF n f' (d + 1)) = primeM n) := Lib.hid (by
        have := hp.out
        unfold primeF at this
        rw [hs, if_pos hle, hr] at this
        exact this)
      have hd3 : d + 1 ≤ n + 2 := by omega
      clear hs hr hf hp
      by_cases h0 : r = 0
      · subst h0
        have hrI0 : (n : Int).tmod (d : Int) = 0 := hrI
        go_wp2_with fail
        go_ret
        exact ⟨by rw [← HE.out]; rfl, rfl⟩
      · have hr0 : ¬ ((r : Int) = 0) := by omega
        go_wp2_with fail
        go_roundw
        case rel => exact ⟨d + 1, f', by go_num, Lib.hid (by have := HE.out; rwa [if_neg h0] at this), by have := HF.out; omega, by omega, trivial⟩
        case measure => simp [intOf]; omega
    · have hleI : decide ((s : Int) ≤ (n : Int)) = false := by simp; omega
      have HE : Hid (primeM n = decide (1 < n)) := Lib.hid (by
        rw [← hp.out]
        cases f with
        | zero => rfl
        | succ f' => unfold primeF; rw [hs, if_neg hle])
      clear hs hr hf hp
      go_wp2_with fail
      go_ret
      exact ⟨by rw [HE.out]; simp; omega, rfl⟩

/-- Numbers, as cells. -/
def uvs (l : List Nat) : List Value := l.map fun (x : Nat) => Value.int .u64 (x : Int)
theorem uvs_len (l : List Nat) : (uvs l).length = l.length := by simp [uvs]
theorem uvs_one (l : List Nat) : ∀ u ∈ uvs l, u.oneCell' = true := fun u hu => by
  simp only [uvs, List.mem_map] at hu
  obtain ⟨x, _, rfl⟩ := hu
  rfl
theorem info_u64 : (Tryd.prog.info? 53).map (fun i => (i.zero, i.size, i.bytes)) = some (some (.int .u64 0), 1, 8) := by kernel_rfl
/-- THE SLICE READS AS THESE NUMBERS. -/
structure SlN (w : World) (v : Value) (l : List Nat) : Prop where
  ex : ∃ g c, v = .slice (some ⟨g, 0, none⟩) l.length c ∧ g < w.heap.size ∧ l.length ≤ c ∧ ∀ i, i < l.length → w.cell? ⟨g, i, none⟩ = some (.int .u64 ((l.getD i 0 : Nat) : Int))
theorem SlN.below {w w' : World} {v : Value} {l : List Nat} (h : SlN w v l) (hb : Below w.heap.size w w') : SlN w' v l := by
  obtain ⟨g, c, h1, h2, h3, h4⟩ := h.ex
  exact ⟨g, c, h1, Nat.lt_of_lt_of_le h2 hb.size, h3, fun i hi => (hb.cell (p := ⟨g, i, none⟩) h2).trans (h4 i hi)⟩
theorem SlN.of_own {w : World} {base : Nat} {v : Value} {l : List Nat} (h : w.ownsRow base 53 1 v l.length (uvs l)) (h0 : 0 < l.length) : SlN w v l := by
  have hl : ∀ g, v.ownBlock = some g → _ := fun g hg => h.lt g hg
  obtain ⟨g, cap, rfl, _⟩ := h.form h0
  have hc : l.length ≤ cap := by
    rcases h.2 with ⟨h1, _⟩ | ⟨q, cap', cur, h1, _, _, h2, _⟩
    · cases h1
    · cases h1; exact h2
  refine ⟨g, cap, rfl, (hl g rfl).2, hc, fun i hi => ?_⟩
  rw [h.cellAt i (by omega), List.getD_eq_getElem?_getD]
  simp [uvs, List.getElem?_eq_getElem hi]
/-- A row of numbers that the call owns, with one number more. -/
theorem wpList_num {w : World} {ops : Array Oper} {rest : List Oper} {o : Oper} {a : Act} {Q : Exit → Act → World → Prop} (hgd : o.guard = none) (s x : Operand)
    (ho : o.op = .call { callee := .builtin .append, args := #[s, x], argTypes := #[94, 94] })
    (base : Nat) (v : Value) (n : Nat) (l0 : List Nat) (hs : a.eval s = v) (hown : w.ownsRow base 53 1 v n (uvs l0))
    (ad : Addr) (y : Nat) (hx : a.eval x = .slice (some ad) 1 1) (hnew : w.cell? ad = some (.int .u64 (y : Int)))
    (h63 : n + 1 ≤ 1000) (hbase : base ≤ w.heap.size)
    (h : ∀ v' w', w'.ownsRow base 53 1 v' (n + 1) (uvs (l0 ++ [y])) → w.grownBy w' v.ownBlock → wpList Tryd.prog ops Q rest (a.put o.dst v') w') : wpList Tryd.prog ops Q (o :: rest) a w := by
  obtain ⟨i0, hi0, hz0, hz1, hz2⟩ := info_parts info_u64
  have hw0 : Region.wanted o (yielded ops a.tmps) = true := by unfold Region.wanted; rw [hgd]
  refine wpList_want hw0 ?_
  have h1 := step_append_lies (P := Tryd.prog) (ops := ops) (o := o) (a := a) (K := wpList Tryd.prog ops Q rest) (Q := Q) (E := True) w hgd s x 94 ho base 53 i0 (.int .u64 0) 1 8 Tryd.underlying94 hi0 hz0 hz1 hz2 rfl (by omega) v n (uvs l0) hs hown ad 1 1 (uvs [y]) hx rfl
    (fun j u hu => by
      have : j = 0 := by have := (List.getElem?_eq_some_iff.1 hu).1; simp [uvs] at this; exact this
      subst this
      simp [uvs] at hu
      subst hu
      rw [show ad.add 0 = ad from by cases ad; simp [Addr.add]]
      exact hnew) (uvs_one _) (by omega) (by unfold maxLen; omega) (by omega) hbase w.heap.size rfl
    (fun g cap w' h1 h2 _ _ => h _ w' (by unfold uvs; rw [List.map_append]; exact h1) h2)
  rw [if_pos hw0] at h1
  exact h1
/-- A number in digits to the base 65536, times x: its loop. -/
def timesF (l : List Nat) (x : Nat) : Nat → Nat → Nat → List Nat → List Nat
  | 0, _, _, out => out
  | f + 1, i, c, out => if i < l.length then timesF l x f (i + 1) ((c + l.getD i 0 * x) / 65536) (out ++ [(c + l.getD i 0 * x) % 65536])
    else if 0 < c then timesF l x f (i + 1) (c / 65536) (out ++ [c % 65536]) else out
def timesM (l : List Nat) (x : Nat) : List Nat := timesF l x (l.length + 3) 0 0 []
def primesM (n : Nat) : List Nat := (List.range 400).filter fun p => decide (2 ≤ p) && primeM p

set_option maxRecDepth 100000 in
set_option maxHeartbeats 2400000 in
theorem times_any (l : List Nat) (hd : ∀ i, l.getD i 0 < 65536) (hl : 0 < l.length) (hl2 : l.length ≤ 20) (x : Nat) (hx : x < 1099511627776) (X : Int) (hX : X = (x : Int)) {w : World} {v : Value} (hv : SlN w v l) :
    Calls Tryd.prog 61 #[v, .int .u64 X] w fun e w' => ∃ v', e = .returned v' ∧ SlN w' v' (timesM l x) ∧ 0 < (timesM l x).length ∧ Below w.heap.size w w' := by
  subst hX
  have HV := Lib.hid hv
  have HD := Lib.hid hd
  obtain ⟨g, c0, rfl, hg, hc0, _⟩ := hv.ex
  obtain ⟨n, hn⟩ : ∃ n, l.length = n := ⟨_, rfl⟩
  have HN := Lib.hid hn
  rw [hn] at hl hl2 hc0
  have HX := Lib.hid hx
  clear hd hv hx
  go_enter Tryd.func61, Tryd.ntmps61
  rw [hn]
  clear hn
  go_wp2_with fail
  go_loopw [5, 6, 7] (fun row cv i wr => ∃ (k c f : Nat) (out : List Nat), i = .int .i64 (k : Int) ∧ cv = .int .u64 (c : Int) ∧ Hid (wr.ownsRow w.heap.size 53 1 row k (uvs out)) ∧ Hid (timesF l x f k c out = timesM l x ∧ k + f = n + 3 ∧ out.length = k) ∧ Hid (c < 2199023255552 ∧ (k = n + 1 → c < 4294967296) ∧ (k = n + 2 → c < 65536) ∧ (k = n + 3 → c = 0)) ∧ Hid (Below w.heap.size w wr)) (fun _ _ i _ => 24 - (intOf i).toNat)
  case atStart => exact ⟨0, 0, n + 3, [], rfl, rfl, Lib.hid (World.ownsRow_nil _ _ _ _), Lib.hid ⟨by unfold timesM; rw [HN.out], by omega, rfl⟩, Lib.hid ⟨by omega, by omega, by omega, by omega⟩, Lib.hid (Below.refl _ _)⟩
  case round =>
    obtain ⟨k, c, f, out, rfl, rfl, ho, hT, hC, hB⟩ := hrel
    have hkf := hT.out.2.1
    have hkn : k ≤ n + 3 := by omega
    have hk0 : (0 : Int) ≤ (k : Int) := Int.natCast_nonneg _
    have hk23 : (k : Int) ≤ 23 := by omega
    have hcI0 : (0 : Int) ≤ (c : Int) := Int.natCast_nonneg _
    have hcI : (c : Int) < 2199023255552 := by have := hC.out.1; omega
    clear hkf
    by_cases hlt : k < n
    · have hlI : decide ((k : Int) < (n : Int)) = true := by simp; omega
      have hkI : (k : Int) < (n : Int) := by omega
      obtain ⟨d, hdd⟩ : ∃ d, l.getD k 0 = d := ⟨_, rfl⟩
      have hd6 : d < 65536 := by rw [← hdd]; exact HD.out k
      have hcell : wr.cell? ⟨g, k, none⟩ = some (.int .u64 (d : Int)) := by
        obtain ⟨g', c', e1, e2, e3, e4⟩ := (HV.out.below hB.out).ex
        cases e1
        rw [← hdd]
        exact e4 k (by rw [HN.out]; exact hlt)
      obtain ⟨p, hp⟩ : ∃ p, d * x = p := ⟨_, rfl⟩
      have hpb : p ≤ 65535 * 1099511627775 := by rw [← hp]; exact Nat.mul_le_mul (by omega) (by have := HX.out; omega)
      have hpI : IntKind.u64.wrap ((d : Int) * (x : Int)) = (p : Int) := by rw [← Int.natCast_mul, hp, IntKind.wrap_u64]; omega
      obtain ⟨s, hs⟩ : ∃ s, c + p = s := ⟨_, rfl⟩
      have hsI : IntKind.u64.wrap ((c : Int) + (p : Int)) = (s : Int) := by rw [IntKind.wrap_u64]; omega
      obtain ⟨r, hr⟩ : ∃ r, s % 65536 = r := ⟨_, rfl⟩
      obtain ⟨q, hq⟩ : ∃ q, s / 65536 = q := ⟨_, rfl⟩
      have hrI : (s : Int).tmod 65536 = (r : Int) := by rw [Int.tmod_eq_emod_of_nonneg (by omega)]; omega
      have hqI : (s : Int) / 65536 = (q : Int) := by omega
      have hs0 : (0 : Int) ≤ (s : Int) := Int.natCast_nonneg _
      have hsB : (s : Int) < 18446744073709551616 := by have := hC.out.1; omega
      have hqb : q < 2199023255552 := by have := hC.out.1; omega
      have HOW := Lib.hid (ho.out.alloc (.cells #[.int .u64 (r : Int)] 53))
      have HBB := Lib.hid (hB.out.alloc hB.out.size (.cells #[.int .u64 (r : Int)] 53))
      have HNC : Hid ((wr.alloc (.cells #[.int .u64 (r : Int)] 53)).cell? ⟨wr.heap.size, 0, none⟩ = some (.int .u64 (r : Int))) := Lib.hid (Bl.cell (Bl.new wr 53 [.int .u64 (r : Int)]) 0)
      obtain ⟨f', rfl⟩ : ∃ f', f = f' + 1 := ⟨f - 1, by have := hT.out.2.1; omega⟩
      have HT : Hid (timesF l x f' (k + 1) q (out ++ [r]) = timesM l x ∧ k + 1 + f' = n + 3 ∧ (out ++ [r]).length = k + 1) := Lib.hid ⟨by
        have h := hT.out.1
        unfold timesF at h
        rw [HN.out, if_pos hlt, hdd, hp, hs, hr, hq] at h
        exact h, by have := hT.out.2.1; omega, by rw [List.length_append, hT.out.2.2]; rfl⟩
      have HC : Hid (q < 2199023255552 ∧ (k + 1 = n + 1 → q < 4294967296) ∧ (k + 1 = n + 2 → q < 65536) ∧ (k + 1 = n + 3 → q = 0)) := Lib.hid ⟨hqb, by omega, by omega, by omega⟩
      clear hdd hp hs hr hq hT hC ho hB hpb hqb hd6
      go_wp2_with (first
        | (at_builtin; with_reducible refine wpList_num rfl (.tmp 32) (.tmp 35) rfl w.heap.size u5 k out rfl HOW.out ⟨wr.heap.size, 0, none⟩ r rfl HNC.out (by omega) HBB.out.size ?_; intro v5 w5 ho5 hg5))
      go_roundw
      case rel => exact ⟨k + 1, q, f', out ++ [r], by go_num, rfl, Lib.hid ho5, HT, HC, Lib.hid (HBB.out.grown hg5 HBB.out.size (fun q hq => (HOW.out.lt q hq).1))⟩
      case measure => simp [intOf]; omega
    · have hlI : decide ((k : Int) < (n : Int)) = false := by simp; omega
      by_cases h0 : c = 0
      · subst h0
        have e : timesM l x = out := by
          rw [← hT.out.1]
          cases f with
          | zero => rfl
          | succ f' => unfold timesF; rw [HN.out, if_neg hlt, if_neg (by omega)]
        have HE := Lib.hid e
        have HO := ho
        have HBE := hB
        have HLE := Lib.hid hT.out.2.2
        clear e ho hB hT hC
        go_wp2_with fail
        go_ret
        refine ⟨_, rfl, ?_, ?_, HBE.out⟩
        · rw [HE.out]
          exact SlN.of_own (by rw [HLE.out]; exact HO.out) (by rw [HLE.out]; omega)
        · rw [HE.out, HLE.out]; omega
      · have hc1 : decide ((0 : Int) < (c : Int)) = true := by simp; omega
        have hcp : (0 : Int) < (c : Int) := by omega
        obtain ⟨r, hr⟩ : ∃ r, c % 65536 = r := ⟨_, rfl⟩
        obtain ⟨q, hq⟩ : ∃ q, c / 65536 = q := ⟨_, rfl⟩
        have hrI : (c : Int).tmod 65536 = (r : Int) := by rw [Int.tmod_eq_emod_of_nonneg (by omega)]; omega
        have hqI : (c : Int) / 65536 = (q : Int) := by omega
        have HOW := Lib.hid (ho.out.alloc (.cells #[.int .u64 (r : Int)] 53))
        have HBB := Lib.hid (hB.out.alloc hB.out.size (.cells #[.int .u64 (r : Int)] 53))
        have HNC : Hid ((wr.alloc (.cells #[.int .u64 (r : Int)] 53)).cell? ⟨wr.heap.size, 0, none⟩ = some (.int .u64 (r : Int))) := Lib.hid (Bl.cell (Bl.new wr 53 [.int .u64 (r : Int)]) 0)
        obtain ⟨f', rfl⟩ : ∃ f', f = f' + 1 := ⟨f - 1, by have := hT.out.2.1; have := hC.out.2.2.2; omega⟩
        have HT : Hid (timesF l x f' (k + 1) q (out ++ [r]) = timesM l x ∧ k + 1 + f' = n + 3 ∧ (out ++ [r]).length = k + 1) := Lib.hid ⟨by
          have h := hT.out.1
          unfold timesF at h
          rw [HN.out, if_neg hlt, if_pos (by omega), hr, hq] at h
          exact h, by have := hT.out.2.1; omega, by rw [List.length_append, hT.out.2.2]; rfl⟩
        have hk2 : k ≤ n + 2 := by have := hT.out.2.1; omega
        have HC : Hid (q < 2199023255552 ∧ (k + 1 = n + 1 → q < 4294967296) ∧ (k + 1 = n + 2 → q < 65536) ∧ (k + 1 = n + 3 → q = 0)) := Lib.hid ⟨by have := hC.out.1; omega, by have := hC.out.1; omega, by have := hC.out.2.1; omega, by have := hC.out.2.2.1; omega⟩
        have hq32 : (q : Int) ≤ 33554432 := by have := hC.out.1; omega
        have hq0 : (0 : Int) ≤ (q : Int) := Int.natCast_nonneg _
        have hcn : 0 < c := by omega
        clear hr hq hT hC ho hB hcI
        go_wp2_with (first
          | (at_builtin; with_reducible refine wpList_num rfl (.tmp 32) (.tmp 35) rfl w.heap.size u5 k out rfl HOW.out ⟨wr.heap.size, 0, none⟩ r rfl HNC.out (by omega) HBB.out.size ?_; intro v5 w5 ho5 hg5))
        go_roundw
        case rel => exact ⟨k + 1, q, f', out ++ [r], by go_num, rfl, Lib.hid ho5, HT, HC, Lib.hid (HBB.out.grown hg5 HBB.out.size (fun q hq => (HOW.out.lt q hq).1))⟩
        case measure => simp [intOf]; omega

def aboveF (a b : List Nat) : Nat → Bool
  | 0 => false
  | i + 1 => if a.getD i 0 = b.getD i 0 then aboveF a b i else decide (b.getD i 0 < a.getD i 0)
def aboveM (a b : List Nat) : Bool := aboveF a b (a.length + b.length)
theorem getD_big (a : List Nat) {i : Nat} (h : a.length ≤ i) : a.getD i 0 = 0 := by
  rw [List.getD_eq_getElem?_getD, List.getElem?_eq_none h]
  rfl

set_option maxRecDepth 100000 in
set_option maxHeartbeats 2400000 in
theorem above_any (a b : List Nat) (ha : a.length ≤ 40) (hb : b.length ≤ 40) {w : World} {va vb : Value} (hva : SlN w va a) (hvb : SlN w vb b) :
    Calls Tryd.prog 62 #[va, vb] w fun e w' => e = .returned (.bool (aboveM a b)) ∧ w = w' := by
  obtain ⟨g, ca, rfl, _, _, hca⟩ := hva.ex
  obtain ⟨g', cb, rfl, _, _, hcb⟩ := hvb.ex
  obtain ⟨na, hna⟩ : ∃ n, a.length = n := ⟨_, rfl⟩
  obtain ⟨nb, hnb⟩ : ∃ n, b.length = n := ⟨_, rfl⟩
  have HA := Lib.hid (And.intro hna hnb)
  have HCA := Lib.hid hca
  have HCB := Lib.hid hcb
  have hM : aboveM a b = aboveF a b (na + nb) := by unfold aboveM; rw [hna, hnb]
  have HM := Lib.hid hM
  clear hva hvb hca hcb hM
  go_enter Tryd.func62, Tryd.ntmps62
  rw [hna, hnb]
  rw [hna] at ha
  rw [hnb] at hb
  clear hna hnb
  have ha0 : (0 : Int) ≤ (na : Int) := Int.natCast_nonneg _
  have hb0 : (0 : Int) ≤ (nb : Int) := Int.natCast_nonneg _
  have haI : (na : Int) ≤ 40 := by omega
  have hbI : (nb : Int) ≤ 40 := by omega
  go_wp2_with fail
  go_loopw [5] (fun i wr => ∃ k : Nat, k ≤ na + nb ∧ i = .int .i64 (k : Int) ∧ Hid (aboveF a b k = aboveM a b) ∧ wr = w) (fun i _ => (intOf i).toNat)
  case atStart => exact ⟨na + nb, Nat.le_refl _, by go_num, Lib.hid HM.out.symm, rfl⟩
  case round =>
    obtain ⟨k, hk, rfl, hE, rfl⟩ := hrel
    by_cases h0 : k = 0
    · subst h0
      go_wp2_with fail
      go_ret
      exact ⟨by rw [← hE.out]; rfl, rfl⟩
    · obtain ⟨j, rfl⟩ : ∃ j, k = j + 1 := ⟨k - 1, by omega⟩
      obtain ⟨x, hx⟩ : ∃ x, a.getD j 0 = x := ⟨_, rfl⟩
      obtain ⟨y, hy⟩ : ∃ y, b.getD j 0 = y := ⟨_, rfl⟩
      have HE : Hid ((if x = y then aboveF a b j else decide (y < x)) = aboveM a b) := Lib.hid (by
        have := hE.out
        unfold aboveF at this
        rw [hx, hy] at this
        exact this)
      have hj0 : (0 : Int) ≤ (j : Int) := Int.natCast_nonneg _
      have hjI : (j : Int) ≤ 80 := by omega
      have hkp : (0 : Int) < ((j + 1 : Nat) : Int) := by omega
      have hkj : ((j + 1 : Nat) : Int) - 1 = (j : Int) := by omega
      have HX := Lib.hid hx
      have HY := Lib.hid hy
      have hxa : ¬ (j + 1 ≤ na) → x = 0 := fun h => by rw [← hx]; exact getD_big a (by rw [HA.out.1]; omega)
      have hyb : ¬ (j + 1 ≤ nb) → y = 0 := fun h => by rw [← hy]; exact getD_big b (by rw [HA.out.2]; omega)
      have hcx : j + 1 ≤ na → wr.cell? ⟨g, j, none⟩ = some (.int .u64 (x : Int)) := fun h => by rw [← hx]; exact HCA.out j (by rw [HA.out.1]; omega)
      have hcy : j + 1 ≤ nb → wr.cell? ⟨g', j, none⟩ = some (.int .u64 (y : Int)) := fun h => by rw [← hy]; exact HCB.out j (by rw [HA.out.2]; omega)
      have HXA := Lib.hid hxa
      have HYB := Lib.hid hyb
      have HCX := Lib.hid hcx
      have HCY := Lib.hid hcy
      clear hx hy hxa hyb hcx hcy hE h0
      by_cases h1 : j + 1 ≤ na <;> by_cases h2 : j + 1 ≤ nb
      · have c1 := HCX.out h1
        have c2 := HCY.out h2
        have i1 : (j : Int) < (na : Int) := by omega
        have i2 : (j : Int) < (nb : Int) := by omega
        have i3 : (j : Int) + 1 ≤ (na : Int) := by omega
        have i4 : (j : Int) + 1 ≤ (nb : Int) := by omega
        by_cases hxy : x = y
        · subst hxy
          go_wp2_with fail
          go_roundw
          case rel => exact ⟨j, by omega, by go_num, Lib.hid (by have := HE.out; rwa [if_pos rfl] at this), trivial⟩
          case measure => (simp [intOf]; try omega)
        · have hne : ¬ ((x : Int) = (y : Int)) := by omega
          go_wp2_with fail
          go_ret
          exact ⟨by rw [← HE.out, if_neg hxy]; simp, rfl⟩
      · obtain rfl : y = 0 := HYB.out h2
        have c1 := HCX.out h1
        have i1 : (j : Int) < (na : Int) := by omega
        have i3 : (j : Int) + 1 ≤ (na : Int) := by omega
        have i4 : ¬ ((j : Int) + 1 ≤ (nb : Int)) := by omega
        by_cases hz : x = 0
        · subst hz
          go_wp2_with fail
          go_roundw
          case rel => exact ⟨j, by omega, by go_num, Lib.hid (by have := HE.out; rwa [if_pos rfl] at this), trivial⟩
          case measure => (simp [intOf]; try omega)
        · have hne : ¬ ((x : Int) = 0) := by omega
          have hne2 : ¬ ((0 : Int) = (x : Int)) := by omega
          go_wp2_with fail
          go_ret
          exact ⟨by rw [← HE.out, if_neg (by omega)]; simp, rfl⟩
      · obtain rfl : x = 0 := HXA.out h1
        have c2 := HCY.out h2
        have i2 : (j : Int) < (nb : Int) := by omega
        have i4 : (j : Int) + 1 ≤ (nb : Int) := by omega
        have i3 : ¬ ((j : Int) + 1 ≤ (na : Int)) := by omega
        by_cases hz : y = 0
        · subst hz
          go_wp2_with fail
          go_roundw
          case rel => exact ⟨j, by omega, by go_num, Lib.hid (by have := HE.out; rwa [if_pos rfl] at this), trivial⟩
          case measure => (simp [intOf]; try omega)
        · have hne : ¬ ((y : Int) = 0) := by omega
          have hne2 : ¬ ((0 : Int) = (y : Int)) := by omega
          go_wp2_with fail
          go_ret
          exact ⟨by rw [← HE.out, if_neg (by omega)]; simp, rfl⟩
      · obtain rfl : x = 0 := HXA.out h1
        obtain rfl : y = 0 := HYB.out h2
        have i3 : ¬ ((j : Int) + 1 ≤ (na : Int)) := by omega
        have i4 : ¬ ((j : Int) + 1 ≤ (nb : Int)) := by omega
        go_wp2_with fail
        go_roundw
        case rel => exact ⟨j, by omega, by go_num, Lib.hid (by have := HE.out; rwa [if_pos rfl] at this), trivial⟩
        case measure => (simp [intOf]; try omega)
end Go.Proofs.YtgjkahoblopddaaDoor
