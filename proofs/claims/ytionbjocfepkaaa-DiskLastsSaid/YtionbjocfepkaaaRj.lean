/-
  THE DOCUMENT'S OWN DISK AND THE DISK: they go the same way, as plain Lean.
-/
import Derived.Test.YtionbjocfepkaaaRi
namespace Go.Proofs.Ytionbjocfepkaaa
set_option linter.unusedVariables false
set_option linter.unusedSimpArgs false

def cdR (f : Bool × Int) : Int := if f.1 = true then f.2 else -1
def unE (wt : List (Nat × List UInt8)) : List En := wt.map fun p => ⟨p.1, p.2, false⟩
/-- What counts, as the document has it, is what is safe and what waits. -/
def Exs (safe : List (List UInt8)) (wt : List (Nat × List UInt8)) (es : List En) : Prop := ∃ sf, es = sf ++ unE wt ∧ (∀ e ∈ sf, e.safe = true) ∧ ∀ i, i < safe.length → holdE sf i = safe.getD i []
structure Rl (M : Mo) (s : Rs) (es : List En) : Prop where
  dead : s.dead = M.dead
  done : s.done = M.ops
  fu : M.dead = false → s.fu = cdR M.fu
  fa : M.dead = false → s.fa = cdR M.fa
  ok : s.Ok
  ex : Exs M.safe M.wt es

theorem waitS_app (a b : List En) : waitS (a ++ b) = waitS a ++ waitS b := by simp [waitS]
theorem waitS_safe {l : List En} (h : ∀ e ∈ l, e.safe = true) : waitS l = [] := by
  unfold waitS
  rw [List.filter_eq_nil_iff.2 (fun e he => by simp [h e he])]
  rfl
theorem waitS_unE (wt : List (Nat × List UInt8)) : waitS (unE wt) = wt.map (·.1) := by
  unfold waitS unE
  rw [List.filter_map, List.filter_eq_self.2 (fun e _ => by rfl), List.map_map]
  rfl
theorem Exs.waits {safe : List (List UInt8)} {wt : List (Nat × List UInt8)} {es : List En} (h : Exs safe wt es) : waitS es = wt.map (·.1) := by
  obtain ⟨sf, rfl, h1, _⟩ := h
  rw [waitS_app, waitS_safe h1, waitS_unE, List.nil_append]
theorem getD_set_at {l : List (List UInt8)} {n i : Nat} {x : List UInt8} (hn : n < l.length) : (l.set n x).getD i [] = if i = n then x else l.getD i [] := by
  rw [List.getD_eq_getElem?_getD, List.getD_eq_getElem?_getD]
  by_cases h : i = n
  · subst h
    rw [List.getElem?_set_self hn, if_pos rfl]
    rfl
  · rw [List.getElem?_set_ne (Ne.symm h), if_neg h]
theorem hold_unE : ∀ (wt : List (Nat × List UInt8)) (sf : List En) (safe : List (List UInt8)), (∀ p ∈ wt, p.1 < safe.length) → (∀ i, i < safe.length → holdE sf i = safe.getD i []) → ∀ i, i < safe.length → holdE (sf ++ unE wt) i = holdsOf safe wt i
  | [], sf, safe, _, h, i, hi => by rw [show sf ++ unE [] = sf by simp [unE], h i hi]; rfl
  | p :: r, sf, safe, hp, h, i, hi => by
    have h0 : p.1 < safe.length := hp p (by simp)
    rw [hold_cons safe p r i h0, show sf ++ unE (p :: r) = (sf ++ [⟨p.1, p.2, false⟩]) ++ unE r by simp [unE]]
    refine hold_unE r _ (safe.set p.1 p.2) (fun q hq => by rw [List.length_set]; exact hp q (by simp [hq])) (fun j hj => ?_) i (by rw [List.length_set]; exact hi)
    rw [List.length_set] at hj
    rw [holdE_snoc, getD_set_at h0]
    by_cases e : j = p.1
    · rw [if_pos e.symm, if_pos e]
    · rw [if_neg (Ne.symm e), if_neg e, h j hj]
theorem Exs.holds {safe : List (List UInt8)} {wt : List (Nat × List UInt8)} {es : List En} (h : Exs safe wt es) (hp : ∀ p ∈ wt, p.1 < safe.length) {i : Nat} (hi : i < safe.length) : holdE es i = holdsOf safe wt i := by
  obtain ⟨sf, rfl, _, h2⟩ := h
  exact hold_unE wt sf safe hp h2 i hi
theorem liveE_safe {lv : Nat → Bool} : ∀ (l : List En) (k : Nat), ∀ e ∈ liveE lv l k, e.safe = true
  | [], _, e, he => by cases he
  | x :: r, k, e, he => by
    rw [liveE] at he
    split at he
    · rcases List.mem_cons.1 he with rfl | he
      · rfl
      · exact liveE_safe r k e he
    · split at he
      · rcases List.mem_cons.1 he with rfl | he
        · rfl
        · exact liveE_safe r (k + 1) e he
      · exact liveE_safe r (k + 1) e he
theorem liveE_sf {lv : Nat → Bool} (r : List En) (k : Nat) : ∀ {sf : List En}, (∀ e ∈ sf, e.safe = true) → liveE lv (sf ++ r) k = sf ++ liveE lv r k
  | [], _ => rfl
  | x :: sf, h => by
    have hx := h x (by simp)
    rw [List.cons_append, liveE, if_pos hx, liveE_sf r k fun e he => h e (by simp [he])]
    obtain ⟨s, b, sa⟩ := x
    simp only at hx
    subst hx
    rfl
theorem hold_live {lv : Nat → Bool} : ∀ (wt : List (Nat × List UInt8)) (k : Nat) (sf : List En) (safe : List (List UInt8)), (∀ p ∈ wt, p.1 < safe.length) → (∀ i, i < safe.length → holdE sf i = safe.getD i []) → ∀ i, i < safe.length → holdE (sf ++ liveE lv (unE wt) k) i = (settleL lv wt k safe).getD i []
  | [], k, sf, safe, _, h, i, hi => by rw [show sf ++ liveE lv (unE []) k = sf by simp [unE, liveE], h i hi]; rfl
  | p :: r, k, sf, safe, hp, h, i, hi => by
    have h0 : p.1 < safe.length := hp p (by simp)
    rw [settleL, show unE (p :: r) = ⟨p.1, p.2, false⟩ :: unE r from rfl, liveE, if_neg (Bool.false_ne_true)]
    by_cases hl : lv k = true
    · rw [if_pos hl, if_pos hl, show sf ++ (⟨p.1, p.2, true⟩ :: liveE lv (unE r) (k + 1)) = (sf ++ [⟨p.1, p.2, true⟩]) ++ liveE lv (unE r) (k + 1) by simp]
      refine hold_live r (k + 1) _ (safe.set p.1 p.2) (fun q hq => by rw [List.length_set]; exact hp q (by simp [hq])) (fun j hj => ?_) i (by rw [List.length_set]; exact hi)
      rw [List.length_set] at hj
      rw [holdE_snoc, getD_set_at h0]
      by_cases e : j = p.1
      · rw [if_pos e.symm, if_pos e]
      · rw [if_neg (Ne.symm e), if_neg e, h j hj]
    · rw [if_neg hl, if_neg hl]
      exact hold_live r (k + 1) sf safe (fun q hq => hp q (by simp [hq])) h i hi
theorem Exs.live {safe : List (List UInt8)} {wt : List (Nat × List UInt8)} {es : List En} (h : Exs safe wt es) (hp : ∀ p ∈ wt, p.1 < safe.length) (lv : Nat → Bool) : Exs (settleL lv wt 0 safe) [] (liveE lv es 0) := by
  obtain ⟨sf, rfl, h1, h2⟩ := h
  refine ⟨liveE lv (sf ++ unE wt) 0, by simp [unE], liveE_safe _ _, fun i hi => ?_⟩
  rw [settle_len] at hi
  rw [liveE_sf _ _ h1]
  exact hold_live wt 0 sf safe hp h2 i hi
theorem Exs.snoc {safe : List (List UInt8)} {wt : List (Nat × List UInt8)} {es : List En} (h : Exs safe wt es) (n : Nat) (x : List UInt8) : Exs safe (wt ++ [(n, x)]) (es ++ [⟨n, x, false⟩]) := by
  obtain ⟨sf, rfl, h1, h2⟩ := h
  exact ⟨sf, by simp [unE], h1, h2⟩
theorem lvA_all : lvA true [] = fun _ => true := rfl
theorem lvA_not (ks : List Bool) : lvA false ks = lvB ks := rfl

theorem cd_due {f : Bool × Int} (h : FitC f) : dueB f = decide (cdR f = 0) := by
  obtain ⟨on, l⟩ := f
  cases on
  · simp [dueB, cdR]
  · by_cases e : l = 0 <;> simp [dueB, cdR, e]
theorem cd_pass {f : Bool × Int} (h : FitC f) (hd : dueB f = false) : cdR (passed f) = if 0 < cdR f then cdR f - 1 else cdR f := by
  obtain ⟨on, l⟩ := f
  cases on
  · simp [cdR, passed]
  · have h3 := h.2.2 rfl
    simp only [dueB, Bool.true_and, beq_eq_false_iff_ne, ne_eq] at hd
    simp only at h3
    have : 0 < l := by omega
    simp [cdR, passed, this]
theorem read_sim {M : Mo} {s : Rs} {es : List En} (h : Rl M s es) (ho : M.Ok) (i : Int) :
    (M.read i).2.2 = (s.begin M.safe.length i false).2 ∧ Rl (M.read i).1 (s.begin M.safe.length i false).1 es ∧ (M.read i).2.1 = if (s.begin M.safe.length i false).2 = 0 then holdE es i.toNat else Zb := by
  have hb := h.ok.begin M.safe.length i false
  revert hb
  unfold Mo.read Rs.begin
  by_cases hd : M.dead = true
  · rw [if_pos (show s.dead = true by rw [h.dead]; exact hd), if_pos hd]
    intro _
    exact ⟨rfl, h, by simp⟩
  · have hd' : M.dead = false := by simpa using hd
    rw [if_neg (show ¬ s.dead = true by rw [h.dead]; exact hd), if_neg hd]
    by_cases hi : i < 0 ∨ (M.safe.length : Int) ≤ i
    · rw [if_pos hi, if_pos (show hasB M.safe.length i = false by simp [hasB]; omega)]
      intro _
      exact ⟨rfl, h, by simp⟩
    · rw [if_neg hi, if_neg (show ¬ hasB M.safe.length i = false by simp [hasB]; omega)]
      by_cases hf : s.fa = 0
      · rw [if_pos hf, if_pos (show dueB M.fa = true by rw [cd_due ho.fa, ← h.fa hd']; simpa using hf)]
        intro hb
        exact ⟨rfl, ⟨h.dead, h.done, h.fu, fun _ => rfl, hb, h.ex⟩, by simp⟩
      · have hf' : dueB M.fa = false := by rw [cd_due ho.fa, ← h.fa hd']; simpa using hf
        rw [if_neg hf, if_neg (show ¬ dueB M.fa = true by rw [hf']; decide), if_neg (show ¬ (false = true ∧ s.fu = 0) from fun e => by cases e.1)]
        intro hb
        refine ⟨rfl, ⟨h.dead, by show s.done + 1 = M.ops + 1; rw [h.done], fun _ => ?_, fun _ => ?_, hb, h.ex⟩, ?_⟩
        · show (if false = true ∧ 0 < s.fu then s.fu - 1 else s.fu) = cdR M.fu
          rw [if_neg (by simp), h.fu hd']
        · show (if 0 < s.fa then s.fa - 1 else s.fa) = cdR (passed M.fa)
          rw [cd_pass ho.fa hf', h.fa hd']
        · show holdsOf M.safe M.wt i.toNat = _
          rw [if_pos rfl, h.ex.holds (fun p hp => (ho.wt p hp).1) (by omega)]
theorem alter_sim {M : Mo} {s : Rs} {es es' : List En} (h : Rl M s es) (ho : M.Ok) (i : Int) (safe' : List (List UInt8)) (wt' : List (Nat × List UInt8)) (hx : 0 ≤ i → i < M.safe.length → Exs safe' wt' es') :
    (M.alter (hasB M.safe.length i) safe' wt').2 = (s.begin M.safe.length i true).2 ∧ Rl (M.alter (hasB M.safe.length i) safe' wt').1 (s.begin M.safe.length i true).1 (if (s.begin M.safe.length i true).2 = 0 then es' else es) := by
  have hb := h.ok.begin M.safe.length i true
  revert hb
  unfold Mo.alter Rs.begin
  by_cases hd : M.dead = true
  · rw [if_pos (show s.dead = true by rw [h.dead]; exact hd), if_pos hd]
    intro _
    exact ⟨rfl, by simpa using h⟩
  · have hd' : M.dead = false := by simpa using hd
    rw [if_neg (show ¬ s.dead = true by rw [h.dead]; exact hd), if_neg hd]
    by_cases hi : i < 0 ∨ (M.safe.length : Int) ≤ i
    · rw [if_pos hi, if_pos (show hasB M.safe.length i = false by simp [hasB]; omega)]
      intro _
      exact ⟨rfl, by simpa using h⟩
    · rw [if_neg hi, if_neg (show ¬ hasB M.safe.length i = false by simp [hasB]; omega)]
      by_cases hf : s.fa = 0
      · rw [if_pos hf, if_pos (show dueB M.fa = true by rw [cd_due ho.fa, ← h.fa hd']; simpa using hf)]
        intro hb
        exact ⟨rfl, ⟨h.dead, h.done, h.fu, fun _ => rfl, hb, by simpa using h.ex⟩⟩
      · have hf' : dueB M.fa = false := by rw [cd_due ho.fa, ← h.fa hd']; simpa using hf
        rw [if_neg hf, if_neg (show ¬ dueB M.fa = true by rw [hf']; decide)]
        by_cases hu : s.fu = 0
        · rw [if_pos (show true = true ∧ s.fu = 0 from ⟨rfl, hu⟩), if_pos (show dueB M.fu = true by rw [cd_due ho.fu, ← h.fu hd']; simpa using hu)]
          intro hb
          exact ⟨rfl, ⟨rfl, h.done, (fun e => by cases e), (fun e => by cases e), hb, by simpa using h.ex⟩⟩
        · have hu' : dueB M.fu = false := by rw [cd_due ho.fu, ← h.fu hd']; simpa using hu
          rw [if_neg (show ¬ (true = true ∧ s.fu = 0) from fun e => hu e.2), if_neg (show ¬ dueB M.fu = true by rw [hu']; decide)]
          intro hb
          refine ⟨rfl, ⟨by rw [h.dead, hd'], by show s.done + 1 = M.ops + 1; rw [h.done], fun _ => ?_, fun _ => ?_, hb, by simpa using hx (by omega) (by omega)⟩⟩
          · show (if true = true ∧ 0 < s.fu then s.fu - 1 else s.fu) = cdR (passed M.fu)
            rw [cd_pass ho.fu hu', h.fu hd']
            simp
          · show (if 0 < s.fa then s.fa - 1 else s.fa) = cdR (passed M.fa)
            rw [cd_pass ho.fa hf', h.fa hd']

/-- What the document says of an act. -/
def shouldR (N : Int) (s : Rs) (es : List En) (kind n : Int) (b : UInt8) (ks : List Bool) : (Rs × List En) × List UInt8 × Int :=
  if whichI kind = 0 then (((s.begin N n false).1, es), (if (s.begin N n false).2 = 0 then holdE es n.toNat else Zb), (s.begin N n false).2)
  else if whichI kind = 1 ∨ whichI kind = 2 then (((s.begin N n true).1, if (s.begin N n true).2 = 0 then es ++ [⟨n.toNat, actB b, false⟩] else es), Zb, (s.begin N n true).2)
  else if whichI kind = 3 then (((s.begin N 0 true).1, if (s.begin N 0 true).2 = 0 then liveE (lvA true []) es 0 else es), Zb, (s.begin N 0 true).2)
  else if whichI kind = 6 then ((⟨false, -1, -1, s.done⟩, liveE (lvA false (ks.take 200)) es 0), Zb, 0)
  else if s.dead = true then ((s, es), Zb, 9)
  else if whichI kind = 4 then (({ s with fu := setR n }, es), Zb, 0)
  else (({ s with fa := setR n }, es), Zb, 0)
theorem cd_after (n : Int) : setR n = cdR (decide (0 ≤ n), n) := by
  unfold setR cdR
  by_cases h : n < 0
  · rw [if_pos h, if_neg (by simp; omega)]
  · rw [if_neg h, if_pos (by simp; omega)]
theorem setR_fit {n : Int} (h : n ≤ 9223372036854775807) : -1 ≤ setR n ∧ setR n ≤ 9223372036854775807 := by
  unfold setR
  split <;> omega
theorem act_sim {M : Mo} {s : Rs} {es : List En} (h : Rl M s es) (ho : M.Ok) (kind n : Int) (b : UInt8) (ks : List Bool) (hn : n ≤ 9223372036854775807) :
    (M.act kind n b ks).2 = (shouldR M.safe.length s es kind n b ks).2 ∧ Rl (M.act kind n b ks).1 (shouldR M.safe.length s es kind n b ks).1.1 (shouldR M.safe.length s es kind n b ks).1.2 := by
  have hk := whichI_cases kind
  unfold Mo.act shouldR
  by_cases k0 : whichI kind = 0
  · rw [if_pos k0, if_pos k0]
    obtain ⟨h1, h2, h3⟩ := read_sim h ho n
    exact ⟨Prod.ext h3 h1, h2⟩
  rw [if_neg k0, if_neg k0]
  by_cases k1 : whichI kind = 1 ∨ whichI kind = 2
  · rw [if_pos k1, if_pos k1]
    obtain ⟨h1, h2⟩ := alter_sim (es' := es ++ [⟨n.toNat, actB b, false⟩]) h ho n M.safe (M.wt ++ [(n.toNat, actB b)]) (fun _ _ => h.ex.snoc _ _)
    exact ⟨Prod.ext rfl h1, h2⟩
  rw [if_neg k1, if_neg k1]
  by_cases k3 : whichI kind = 3
  · rw [if_pos k3, if_pos k3]
    have hp := ho.pos
    obtain ⟨h1, h2⟩ := alter_sim (es' := liveE (lvA true []) es 0) h ho 0 (settleL (fun _ => true) M.wt 0 M.safe) [] (fun _ _ => h.ex.live (fun p hp => (ho.wt p hp).1) _)
    rw [show hasB M.safe.length 0 = true by simp [hasB]; omega] at h1 h2
    exact ⟨Prod.ext rfl h1, h2⟩
  rw [if_neg k3, if_neg k3]
  by_cases k6 : whichI kind = 6
  · rw [if_neg (by omega), if_neg (by omega), if_pos k6]
    exact ⟨rfl, ⟨rfl, h.done, fun _ => rfl, fun _ => rfl, ⟨⟨show (-1 : Int) ≤ -1 by decide, show (-1 : Int) ≤ 9223372036854775807 by decide⟩, ⟨show (-1 : Int) ≤ -1 by decide, show (-1 : Int) ≤ 9223372036854775807 by decide⟩, h.ok.done⟩, h.ex.live (fun p hp => (ho.wt p hp).1) _⟩⟩
  rw [if_neg k6]
  by_cases hd : s.dead = true
  · have hd' : M.dead = true := by rw [← h.dead]; exact hd
    rw [if_pos hd]
    unfold Mo.arm Mo.fail
    rw [if_pos hd', if_pos hd']
    split
    · exact ⟨rfl, h⟩
    · rw [if_pos (by omega)]
      exact ⟨rfl, h⟩
  · have hd' : ¬ M.dead = true := by rw [← h.dead]; exact hd
    rw [if_neg hd]
    unfold Mo.arm Mo.fail
    rw [if_neg hd', if_neg hd']
    by_cases k4 : whichI kind = 4
    · rw [if_pos k4, if_pos k4]
      exact ⟨rfl, ⟨h.dead, h.done, fun _ => cd_after n, h.fa, ⟨setR_fit hn, h.ok.fa, h.ok.done⟩, h.ex⟩⟩
    · rw [if_neg k4, if_neg k4, if_pos (by omega)]
      exact ⟨rfl, ⟨h.dead, h.done, h.fu, fun _ => cd_after n, ⟨h.ok.fu, setR_fit hn, h.ok.done⟩, h.ex⟩⟩
theorem Rl.fresh (n : Nat) : Rl (Mo.new n) ⟨false, -1, -1, 0⟩ [] :=
  ⟨rfl, rfl, fun _ => rfl, fun _ => rfl, ⟨⟨by decide, by decide⟩, ⟨by decide, by decide⟩, by decide⟩, [], rfl, (fun e he => by cases he), fun i hi => by
    have hi' : i < n := by simpa [Mo.new] using hi
    rw [getD_of_lt hi]
    simp [holdE, Mo.new]⟩
theorem shouldR_fit {N : Int} {s : Rs} {es : List En} {kind n : Int} {b : UInt8} {ks : List Bool} (h : ∀ e ∈ es, e.b.length = 64) : ((shouldR N s es kind n b ks).2.1).length = 64 := by
  unfold shouldR
  split
  · show (if _ then _ else _ : List UInt8).length = 64
    split
    · exact holdE_len h _
    · exact Zb_len
  repeat' split
  all_goals exact Zb_len
theorem shouldR_len (N : Int) (s : Rs) (es : List En) (kind n : Int) (b : UInt8) (ks : List Bool) : (shouldR N s es kind n b ks).1.2.length ≤ es.length + 1 ∧ (shouldR N s es kind n b ks).1.1.done ≤ s.done + 1 := by
  have hb : ∀ i bu, (s.begin N i bu).1.done ≤ s.done + 1 := by
    intro i bu
    unfold Rs.begin
    repeat' split
    all_goals simp
    all_goals omega
  unfold shouldR
  split
  · exact ⟨Nat.le_succ _, hb _ _⟩
  split
  · refine ⟨?_, hb _ _⟩
    show (if _ then _ else _ : List En).length ≤ _
    split <;> simp
  split
  · refine ⟨?_, hb _ _⟩
    show (if _ then _ else _ : List En).length ≤ _
    have := liveE_len (lv := lvA true []) es 0
    split <;> omega
  split
  · exact ⟨by have := liveE_len (lv := lvA false (ks.take 200)) es 0; show (liveE _ es 0).length ≤ _; omega, by show s.done ≤ _; omega⟩
  repeat' split
  all_goals exact ⟨Nat.le_succ _, by show s.done ≤ _; omega⟩
end Go.Proofs.Ytionbjocfepkaaa
