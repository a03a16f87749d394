/-
  Tame code that comes to an end on every tape when it runs alone: the tree of all that may come.
-/
import Derived.Test.YtadngncbbbbapaaTrees
import Derived.Calls
namespace Go.Proofs.Ytadngncbbbbapaa.Lift
open Go.Conc
set_option linter.unusedVariables false
set_option linter.unusedSectionVars false
set_option linter.unusedSimpArgs false
variable {P : Program} {T : FuncId → Prop}

/-- Whatever the tape gives at each step, the stop is reached. -/
inductive Tree (P : Program) (Stop : Goroutine → World → Prop) : Goroutine → World → Prop
  | stop {g : Goroutine} {v : World} : Stop g v → Tree P Stop g v
  | step {g : Goroutine} {v : World} (f : (Nat → Question → Nat) → Nat → Goroutine × World) : (∀ τ d, ∃ es, stepG P true g (re v τ d) = .go (f τ d).1 (f τ d).2 es) → (∀ τ d, Tree P Stop (f τ d).1 (f τ d).2) → Tree P Stop g v

/-! ### the lone machine -/
def loneOf (g : Goroutine) (w : World) : Machine := { world := w, gs := #[g], rest := { timers := #[], alone := none, slice := none } }
/-- Tame places, and those among them at which one stops. -/
structure Land (P : Program) where
  ts : Goroutine → Prop
  fin : Goroutine → Prop
  form : ∀ g, ts g → ∃ fr cs, g = G fr cs
  go : ∀ g v, ts g → ¬ fin g → (∃ m, ∀ τ d, (∀ i, i < m → τ (d + i) = v.tape (v.drawn + i)) → ∃ o u es, stepG P true g (re v τ d) = .ended o u es) ∨
    ∃ g' v' es m, stepG P true g v = .go g' v' es ∧ v'.tape = v.tape ∧ v'.drawn = v.drawn + m ∧ (ts g' ∨ Panics g') ∧ ∀ τ d, (∀ i, i < m → τ (d + i) = v.tape (v.drawn + i)) → stepG P true g (re v τ d) = .go g' (re v' τ (d + m)) es
  calm : ∀ g, fin g → ¬ Panics g
  never : ∀ g v n g' v', ts g → fin g → runN P (n + 1) (loneOf g v) = .next (loneOf g' v') → ¬ fin g'
variable {A : Land P}
def Base (A : Land P) (R : Goroutine → World → Prop) (g : Goroutine) (v : World) : Prop := A.fin g ∧ R g v

theorem panics_step {g : Goroutine} {v : World} (h : Panics g) : (∃ o u es, stepG P true g v = .ended o u es) ∨ ∃ g' es, stepG P true g v = .go g' v es ∧ Panics g' := by
  rcases h with ⟨fr, fs, chain, rfl, hm, hd, hf⟩ | ⟨chain, rfl⟩
  · cases hc : fr.catches P with
    | true => exact .inl ⟨_, _, _, by simp only [G, stepG, hm, unwind, hd, hc, if_true]; rfl⟩
    | false =>
      cases fs with
      | nil => exact .inr ⟨_, _, by simp only [G, stepG, hm, unwind, hd, hc, Bool.false_eq_true, if_false, List.nil_append]; rfl, .inr ⟨chain, rfl⟩⟩
      | cons c fs =>
        refine .inr ⟨G (c.raise chain) (fs ++ [c0]), _, by simp only [G, stepG, hm, unwind, hd, hc, Bool.false_eq_true, if_false, List.cons_append]; rfl, .inl ?_⟩
        have hcd := hf c List.mem_cons_self
        cases hcm : c.mode with
        | panicking ch => exact ⟨_, fs, chain ++ ch, rfl, by simp only [Frame.raise, hcm], by simp only [Frame.raise, hcm]; exact hcd, fun f hf' => hf f (List.mem_cons_of_mem _ hf')⟩
        | run => exact ⟨_, fs, chain, rfl, by simp only [Frame.raise, hcm], by simp only [Frame.raise, hcm]; exact hcd, fun f hf' => hf f (List.mem_cons_of_mem _ hf')⟩
        | returning => exact ⟨_, fs, chain, rfl, by simp only [Frame.raise, hcm], by simp only [Frame.raise, hcm]; exact hcd, fun f hf' => hf f (List.mem_cons_of_mem _ hf')⟩
  · exact .inl ⟨_, _, _, by simp only [G, stepG, c0, unwind, callDeferred]; rfl⟩
theorem panics_base {R : Goroutine → World → Prop} {g : Goroutine} {v : World} (h : Panics g) : ¬ Base A R g v := fun hb => A.calm g hb.1 h
theorem panics_tree {R : Goroutine → World → Prop} {g : Goroutine} {v : World} (h : Panics g) : ¬ Tree P (Base A R) g v := by
  intro ht
  induction ht with
  | stop hs => exact panics_base h hs
  | @step g v f h1 h2 ih =>
    obtain ⟨es, he⟩ := h1 v.tape v.drawn
    rw [re_self] at he
    rcases panics_step (P := P) (v := v) h with ⟨o, u, es', he'⟩ | ⟨g', es', he', hp⟩
    · rw [he] at he'; cases he'
    · rw [he] at he'
      have e1 : (f v.tape v.drawn).1 = g' := by injection he'
      exact ih v.tape v.drawn (by rw [e1]; exact hp)

theorem step_go {fr fr' : Frame} {cs cs' : List Frame} {w w' : World} {es : Array Event} (h : stepG P true (G fr cs) w = .go (G fr' cs') w' es) : step P (loneOf (G fr cs) w) = .next (loneOf (G fr' cs') w') :=
  step_lone_go (by
    show (stepG P true (G fr cs) w).bare = _
    rw [h]; rfl)
theorem step_end {fr : Frame} {cs : List Frame} {w w' : World} {es : Array Event} {o : Outcome} (h : stepG P true (G fr cs) w = .ended o w' es) : step P (loneOf (G fr cs) w) = .ended o w' :=
  step_lone_ended (by
    show (stepG P true (G fr cs) w).bare = _
    rw [h]; rfl)
theorem step_go' {g g' : Goroutine} {w w' : World} {es : Array Event} (h1 : A.ts g) (h2 : A.ts g') (h : stepG P true g w = .go g' w' es) : step P (loneOf g w) = .next (loneOf g' w') := by
  obtain ⟨fr, cs, rfl⟩ := A.form g h1
  obtain ⟨fr', cs', rfl⟩ := A.form g' h2
  exact step_go h
theorem panics_form {g : Goroutine} (h : Panics g) : ∃ fr cs, g = G fr cs := by
  rcases h with ⟨fr, fs, chain, rfl, _⟩ | ⟨chain, rfl⟩ <;> exact ⟨_, _, rfl⟩
/-- Who panics never comes to the stop. -/
theorem panics_never {R : Goroutine → World → Prop} : ∀ (n : Nat) {g : Goroutine} {v : World} {g' : Goroutine} {v' : World}, Panics g → runN P n (loneOf g v) = .next (loneOf g' v') → ¬ Base A R g' v'
  | 0, g, v, g', v', h, hr => by
    simp only [runN, Stepped.next.injEq] at hr
    have e : g = g' := by have := congrArg Machine.gs hr; simpa [loneOf] using this
    subst e
    exact panics_base h
  | n + 1, g, v, g', v', h, hr => by
    obtain ⟨fr, cs, rfl⟩ := panics_form h
    rcases panics_step (P := P) (v := v) h with ⟨o, u, es', he⟩ | ⟨g₁, es', he, hp⟩
    · simp only [runN, step_end he] at hr; cases hr
    · obtain ⟨fr₁, cs₁, rfl⟩ := panics_form hp
      simp only [runN, step_go he] at hr
      exact panics_never n hp hr
/-! ### all that may come -/
/-- A place from which the stop might be missed. -/
structure Nd (A : Land P) (R : Goroutine → World → Prop) where
  g : Goroutine
  v : World
  ts : A.ts g
  nt : ¬ Tree P (Base A R) g v
/-- What comes next, on a tape that gives these answers. -/
structure Nxt {R : Goroutine → World → Prop} (x : Nd A R) where
  τ : Nat → Question → Nat
  d : Nat
  m : Nat
  out : Option (Nd A R)
  here : ∀ τ' d', (∀ i, i < m → τ' (d' + i) = τ (d + i)) → match out with
    | none => (∃ o u es, stepG P true x.g (re x.v τ' d') = .ended o u es) ∨ (∃ g' u es, stepG P true x.g (re x.v τ' d') = .go g' u es ∧ Panics g')
    | some y => ∃ es, stepG P true x.g (re x.v τ' d') = .go y.g (re y.v τ' (d' + m)) es
theorem Nd.next {R : Goroutine → World → Prop} (x : Nd A R) (hb : ¬ A.fin x.g) : Nonempty (Nxt x) := by
  have : ∃ τ d, ¬ ∃ g1 v1, (∃ es, stepG P true x.g (re x.v τ d) = .go g1 v1 es) ∧ Tree P (Base A R) g1 v1 := by
    refine Classical.byContradiction fun hn => x.nt ?_
    have hn' : ∀ τ d, ∃ y : Goroutine × World, (∃ es, stepG P true x.g (re x.v τ d) = .go y.1 y.2 es) ∧ Tree P (Base A R) y.1 y.2 := fun τ d => by
      refine Classical.byContradiction fun h => hn ⟨τ, d, fun ⟨g1, v1, h1, h2⟩ => h ⟨(g1, v1), h1, h2⟩⟩
    exact .step (fun τ d => (hn' τ d).choose) (fun τ d => (hn' τ d).choose_spec.1) (fun τ d => (hn' τ d).choose_spec.2)
  obtain ⟨τ, d, hno⟩ := this
  rcases A.go x.g (re x.v τ d) x.ts hb with ⟨m, hm⟩ | ⟨g', v', es, m, hgo, h1, h2, h | h, h3⟩
  · exact ⟨⟨τ, d, m, none, fun τ' d' hw => .inl (hm τ' d' hw)⟩⟩
  · exact ⟨⟨τ, d, m, some ⟨g', v', h, fun ht => hno ⟨g', v', ⟨es, hgo⟩, ht⟩⟩, fun τ' d' hw => ⟨es, h3 τ' d' hw⟩⟩⟩
  · exact ⟨⟨τ, d, m, none, fun τ' d' hw => .inr ⟨g', _, es, h3 τ' d' hw, h⟩⟩⟩

section
variable {R : Goroutine → World → Prop}
open Classical in
/-- What comes, or nothing at a place where the stop is missed for good. -/
noncomputable def nx (x : Nd A R) : Option (Nxt x) := if hb : A.fin x.g then none else some (Classical.choice (x.next hb))
noncomputable def path (x0 : Nd A R) : Nat → Option (Nd A R)
  | 0 => some x0
  | k + 1 => (path x0 k).bind fun x => (nx x).bind (·.out)
noncomputable def used (x0 : Nd A R) (k : Nat) : Nat := match path x0 k with
  | none => 0
  | some x => match nx x with | none => 0 | some y => y.m
noncomputable def pos (x0 : Nd A R) : Nat → Nat
  | 0 => 0
  | k + 1 => pos x0 k + used x0 k
theorem pos_mono (x0 : Nd A R) {a b : Nat} (h : a ≤ b) : pos x0 a ≤ pos x0 b := by
  induction h with
  | refl => exact Nat.le_refl _
  | step _ ih => exact Nat.le_trans ih (Nat.le_add_right _ _)
open Classical in
/-- The tape that gives each step the answers that it is to have. -/
noncomputable def tape (x0 : Nd A R) (i : Nat) : Question → Nat :=
  if h : ∃ k, pos x0 k ≤ i ∧ i < pos x0 (k + 1) then
    match path x0 h.choose with
    | none => fun _ => 0
    | some x => match nx x with | none => fun _ => 0 | some y => y.τ (y.d + (i - pos x0 h.choose))
  else fun _ => 0
theorem tape_at (x0 x : Nd A R) (y : Nxt x) {k i : Nat} (hp : path x0 k = some x) (hy : nx x = some y) (hi : i < y.m) : tape x0 (pos x0 k + i) = y.τ (y.d + i) := by
  have hu : used x0 k = y.m := by unfold used; rw [hp]; simp only [hy]
  have hex : ∃ k', pos x0 k' ≤ pos x0 k + i ∧ pos x0 k + i < pos x0 (k' + 1) := ⟨k, Nat.le_add_right _ _, by show _ < pos x0 k + used x0 k; omega⟩
  have hk : hex.choose = k := by
    obtain ⟨h1, h2⟩ := hex.choose_spec
    rcases Nat.lt_trichotomy hex.choose k with hlt | heq | hgt
    · have := pos_mono x0 (show hex.choose + 1 ≤ k by omega); omega
    · exact heq
    · have := pos_mono x0 (show k + 1 ≤ hex.choose by omega)
      have e : pos x0 (k + 1) = pos x0 k + used x0 k := rfl
      omega
  unfold tape
  rw [dif_pos hex]
  simp only [hk, hp, hy]
  congr 1
  omega
/-- On that tape the lone machine goes that way. -/
theorem path_run (x0 : Nd A R) : ∀ (k : Nat) (x : Nd A R), path x0 k = some x → runN P k (loneOf x0.g (re x0.v (tape x0) 0)) = .next (loneOf x.g (re x.v (tape x0) (pos x0 k)))
  | 0, x, h => by
    simp only [path, Option.some.injEq] at h
    subst h; rfl
  | k + 1, x, h => by
    simp only [path] at h
    obtain ⟨y, hy, hxy⟩ := Option.bind_eq_some_iff.1 h
    obtain ⟨z, hz, hzo⟩ := Option.bind_eq_some_iff.1 hxy
    have ih := path_run x0 k y hy
    have hh := z.here (tape x0) (pos x0 k) (fun i hi => tape_at x0 y z hy hz hi)
    rw [hzo] at hh
    obtain ⟨es, he⟩ := hh
    have hu : used x0 k = z.m := by unfold used; rw [hy]; simp only [hz]
    rw [runN_add, ih]
    simp only [runN]
    rw [show step P (loneOf y.g (re y.v (tape x0) (pos x0 k))) = .next (loneOf x.g (re x.v (tape x0) (pos x0 k + z.m))) from step_go' y.ts x.ts he]
    simp only [pos, hu]
end

/-- What ends well alone on every tape: the tree. -/
theorem bar {R : Goroutine → World → Prop} (hR : ∀ g v τ d, R g (re v τ d) → R g v) {g : Goroutine} {v : World} (hts : A.ts g)
    (hrun : ∀ τ, ∃ n g' v', runN P n (loneOf g (re v τ 0)) = .next (loneOf g' v') ∧ A.fin g' ∧ R g' v') : Tree P (Base A R) g v := by
  refine Classical.byContradiction fun hnt => ?_
  let x0 : Nd A R := ⟨g, v, hts, hnt⟩
  obtain ⟨n, g', v', hr, hm, hR'⟩ := hrun (tape x0)
  have stop : Base A R g' v' := ⟨hm, hR'⟩
  cases hp : path x0 n with
  | some x =>
    have := path_run x0 n x hp
    have e : loneOf x.g (re x.v (tape x0) (pos x0 n)) = loneOf g' v' := by
      have h2 : runN P n (loneOf x0.g (re x0.v (tape x0) 0)) = .next (loneOf g' v') := hr
      rw [this] at h2; exact Stepped.next.inj h2
    have eg : x.g = g' := by have := congrArg Machine.gs e; simpa [loneOf] using this
    have ev : re x.v (tape x0) (pos x0 n) = v' := congrArg Machine.world e
    exact x.nt (.stop ⟨by rw [eg]; exact hm, hR x.g x.v (tape x0) (pos x0 n) (by rw [ev, eg]; exact hR')⟩)
  | none =>
    obtain ⟨k, x, hk, hx, hnone⟩ : ∃ k x, k < n ∧ path x0 k = some x ∧ path x0 (k + 1) = none := by
      have key : ∀ n, path x0 n = none → ∃ k x, k < n ∧ path x0 k = some x ∧ path x0 (k + 1) = none := by
        intro n
        induction n with
        | zero => intro h; simp [path] at h
        | succ n ih =>
          intro h
          cases hq : path x0 n with
          | none => obtain ⟨k, x, h1, h2⟩ := ih hq; exact ⟨k, x, by omega, h2⟩
          | some x => exact ⟨n, x, by omega, hq, h⟩
      exact key n hp
    have hrk := path_run x0 k x hx
    obtain ⟨j, rfl⟩ : ∃ j, n = k + (j + 1) := ⟨n - k - 1, by omega⟩
    have hrest : runN P (j + 1) (loneOf x.g (re x.v (tape x0) (pos x0 k))) = .next (loneOf g' v') := by
      have h2 : runN P (k + (j + 1)) (loneOf x0.g (re x0.v (tape x0) 0)) = .next (loneOf g' v') := hr
      rw [runN_add, hrk] at h2; exact h2
    by_cases hb : A.fin x.g
    · exact A.never _ _ _ _ _ x.ts hb hrest hm
    · obtain ⟨z, hz⟩ : ∃ z, nx x = some z := ⟨_, by unfold nx; rw [dif_neg hb]⟩
      have hout : z.out = none := by simp only [path, hx, Option.bind_some, hz] at hnone; exact hnone
      have hh := z.here (tape x0) (pos x0 k) (fun i hi => tape_at x0 x z hx hz hi)
      rw [hout] at hh
      obtain ⟨fr, cs, hg⟩ := A.form x.g x.ts
      rcases hh with ⟨o, u, es, he⟩ | ⟨g₁, u, es, he, hpn⟩
      · rw [hg] at he hrest
        simp only [runN, step_end he] at hrest
        cases hrest
      · obtain ⟨fr₁, cs₁, rfl⟩ := panics_form hpn
        rw [hg] at he hrest
        simp only [runN, step_go he] at hrest
        exact panics_never (A := A) (R := R) j hpn hrest stop
end Go.Proofs.Ytadngncbbbbapaa.Lift
