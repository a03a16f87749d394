/-
  Workers that one goroutine starts and waits for, beside others that only leave: what each of them is asked, and what holds of the machine at every moment. What the workers do to memory is left open: each has what it suffers, what it may do, and what holds once it has done.
  Workers beside others that only leave: how what holds of the machine is kept: by a worker's step, by the starter's, by a go statement.
  Workers beside others that only leave: every step of the machine keeps what holds and comes nearer to the end, or the starter stands behind its wait.
  Workers beside others that only leave: the starter's steps; the run from where the first worker is to be started to where the starter stands behind its wait, on whatever tape.
  Between two calls that start workers: what is held of the trace and of the others; from there to there over a start and a wait.
-/
import Derived.Conc.CrowdStepC
import Derived.Conc.Beside
namespace Go.Proofs.Ytlpfogkfjjbklac.Crew
open Go.Conc Go.ConcN
open Go.ConcR (KK wgBlock WgAt stA smA rd wr mk Bk g_of_ofEvents bk_of_mute ofEvent_loc_mark ofEvent_mk again_blocked)
set_option linter.unusedVariables false
set_option linter.unusedSectionVars false

/-- What is fixed: the program, the group's type and block, three families of places, and of worker k: what it suffers, what it may do while it works, what holds once it has done; of the starter: what it suffers, what it may do while j others are there. -/
structure Crew where
  P : Program
  ty : TypeId
  Wg : Nat
  many : Nat
  old : Nat
  last : Nat
  B : Nat
  Sh : Loc → Prop
  Own : Nat → Loc → Prop
  Rd : Nat → Loc → Prop
  RW : Nat → World → World → Prop
  DW : Nat → World → World → Array Event → Prop
  Fin : Nat → World → Prop
  RC : World → World → Prop
  DC : Nat → World → World → Array Event → Prop

variable (C : Crew)
def Live (w : World) : Prop := ∃ st sm, WgAt C.ty C.Wg w st sm
def EvW (k : Nat) (e : Event) : Prop := (∀ fn pos, OkW C.Sh C.Own C.Rd k { g := k, fn, pos, act := .ofEvent e }) ∧ e.loc ≠ .mark .disable ∧ e.loc ≠ .mark .enable ∧ e.loc ≠ .mark (.release (stA C.Wg)) ∧ (MemAct.ofEvent e).low C.B
def Ev0 (j : Nat) (e : Event) : Prop := (∀ fn pos, Ok0 C.Sh C.Own C.Rd j { g := 0, fn, pos, act := .ofEvent e }) ∧ e.loc ≠ .mark .disable ∧ e.loc ≠ .mark .enable ∧ e.loc ≠ .mark (.release (stA C.Wg)) ∧ (MemAct.ofEvent e).low C.B

structure Ok : Prop where
  oldLast : C.old ≤ C.last
  enough : C.last ≤ C.old + C.many
  apart : Apart C.Sh C.Own C.Rd
  wgB : C.Wg < C.B
  wgSh : ∀ a : Addr, a.block = C.Wg → C.Sh (.cell a)
  rwRefl : ∀ k w, C.RW k w w
  rwTrans : ∀ k a b c, C.RW k a b → C.RW k b c → C.RW k a c
  rwAt : ∀ k w d, C.RW k w (w.at d)
  rcRefl : ∀ w, C.RC w w
  rcTrans : ∀ a b c, C.RC a b → C.RC b c → C.RC a c
  rcAt : ∀ w d, C.RC w (w.at d)
  finRely : ∀ k w w', C.RW k w w' → C.Fin k w → C.Fin k w'
  dwRW : ∀ k k' w w' es, C.DW k w w' es → k' ≠ k → C.RW k' w w'
  dwRC : ∀ k w w' es, C.DW k w w' es → C.RC w w'
  dwWg : ∀ k w w' es, C.DW k w w' es → w'.heap[C.Wg]? = w.heap[C.Wg]?
  dwEv : ∀ k w w' es, C.DW k w w' es → ∀ e ∈ es, EvW C k e
  dcRW : ∀ j k w w' es, C.DC j w w' es → k ≤ j → C.RW k w w'
  dcWg : ∀ j w w' es, C.DC j w w' es → w'.heap[C.Wg]? = w.heap[C.Wg]?
  dcEv : ∀ j w w' es, C.DC j w w' es → ∀ e ∈ es, Ev0 C j e
  wgRW : ∀ k w w', Aside C.Wg w w' → Live C w → Live C w' → C.RW k w w'
  wgRC : ∀ w w', Aside C.Wg w w' → Live C w → Live C w' → C.RC w w'

/-! ### A worker -/
/-- Steps that are the same in every world, to a stop. -/
def Still (P : Program) (Stop : Goroutine → Prop) : Nat → Goroutine → Prop
  | 0, g => Stop g
  | n + 1, g => Stop g ∨ (g.status = .running ∧ ∃ g', (∀ w, stepG P false g w = .go g' w #[]) ∧ Still P Stop n g')
def S2 (g : Goroutine) : Prop := g.status = .running ∧ mayWake C.P g = true ∧ ∀ w, WgAt C.ty C.Wg w 0 0 → ∃ g', stepG C.P false g w = .go g' (w.setCell (smA C.Wg) (.int .u32 1)) (semEvents (smA C.Wg)) ∧ ∃ q, QuitsD C.P q 1 g'
def S3 (g : Goroutine) : Prop := g.status = .running ∧ ∀ w, WgAt C.ty C.Wg w 1 0 → ∃ g', stepG C.P false g w = .go g' (w.setCell (stA C.Wg) (.int .u64 0)) #[wr (stA C.Wg)] ∧ ∃ m, Still C.P (S2 C) m g'
def S4 (g : Goroutine) : Prop := g.status = .running ∧ ∀ w, WgAt C.ty C.Wg w 1 0 → ∃ g', stepG C.P false g w = .go g' w #[rd (stA C.Wg)] ∧ ∃ m, Still C.P (S3 C) m g'
def S5 (g : Goroutine) : Prop := g.status = .running ∧ ∀ (w : World) (v wt : Nat), wt ≤ 1 → v < C.many → WgAt C.ty C.Wg w ((v + 1) * KK + wt) 0 →
  ∃ g', stepG C.P false g w = .go g' (w.setCell (stA C.Wg) (.int .u64 (v * KK + wt))) #[rd (stA C.Wg), wr (stA C.Wg)] ∧ ((v = 0 ∧ wt = 1) → ∃ m, Still C.P (S4 C) m g') ∧ (¬ (v = 0 ∧ wt = 1) → ∃ q, QuitsD C.P q 1 g')
def S6 (g : Goroutine) : Prop := g.status = .running ∧ ∃ g', (∀ w, stepG C.P false g w = .go g' w #[mk .disable]) ∧ ∃ m, Still C.P (S5 C) m g'
def S7 (k : Nat) (g : Goroutine) (w : World) : Prop := g.status = .running ∧ C.Fin k w ∧ ∃ g', (∀ w, stepG C.P false g w = .go g' w #[mk (.releaseMerge (stA C.Wg))]) ∧ ∃ m, Still C.P (S6 C) m g'

inductive WS (k : Nat) : Nat → Nat → Nat → Goroutine → World → Prop
  | s7 {m g w} : Goes C.P false (C.RW k) (C.DW k) (S7 C k) m g w → WS k 7 m 0 g w
  | s6 {m g w} : Still C.P (S6 C) m g → WS k 6 m 0 g w
  | s5 {m g w} : Still C.P (S5 C) m g → WS k 5 m 1 g w
  | s4 {m g w} : Still C.P (S4 C) m g → WS k 4 m 1 g w
  | s3 {m g w} : Still C.P (S3 C) m g → WS k 3 m 1 g w
  | s2 {m g w} : Still C.P (S2 C) m g → WS k 2 m 1 g w
  | quit {q d g w} : QuitsD C.P q d g → WS k 1 q d g w

/-! ### The starter -/
section
variable (Head Anch : Goroutine → World → Prop)
local notation "GN" => Goes C.P true C.RC (C.DC C.last)
def AtAcq (g : Goroutine) (w : World) : Prop := g.status = .running ∧ ∃ g', stepG C.P true g w = .go g' w #[mk (.acquire (stA C.Wg))] ∧ ∃ m, GN Anch m g' w
def AtKe (g : Goroutine) (w : World) : Prop := g.status = .running ∧ ∃ g', stepG C.P true g w = .go g' w #[mk .enable] ∧ ∃ m, GN (AtAcq C Anch) m g' w
def AtW4 (g : Goroutine) (w : World) : Prop := g.status = .running ∧ (WgAt C.ty C.Wg w 0 0 → ∃ g', stepG C.P true g w = .go g' w #[rd (stA C.Wg)] ∧ ∃ m, GN (AtKe C Anch) m g' w)
def AtW3 (g : Goroutine) (w : World) : Prop := g.status = .running ∧ g.offers = none ∧ ((∃ st, WgAt C.ty C.Wg w st 0) → stepG C.P true g w = .go { g with status := .blocked } w #[]) ∧
  (WgAt C.ty C.Wg w 0 1 → ∃ g', stepG C.P true g w = .go g' (w.setCell (smA C.Wg) (.int .u32 0)) (semEvents (smA C.Wg)) ∧ ∃ m, GN (AtW4 C Anch) m g' (w.setCell (smA C.Wg) (.int .u32 0)))
def AtW2 (vs : Nat) (g : Goroutine) (w : World) : Prop := g.status = .running ∧ ∀ v : Nat, v ≤ C.many → WgAt C.ty C.Wg w (v * KK) 0 →
  (v = vs → ∃ g', stepG C.P true g w = .go g' (w.setCell (stA C.Wg) (.int .u64 (v * KK + 1))) #[rd (stA C.Wg), wr (stA C.Wg)] ∧ ∃ m, GN (AtW3 C Anch) m g' (w.setCell (stA C.Wg) (.int .u64 (v * KK + 1)))) ∧
  (v ≠ vs → ∃ g', stepG C.P true g w = .go g' w #[rd (stA C.Wg)] ∧ ∃ m, GN Head m g' w)
def AtW1 (g : Goroutine) (w : World) : Prop := g.status = .running ∧ ∀ v : Nat, v ≤ C.many → WgAt C.ty C.Wg w (v * KK) 0 → ∃ g', stepG C.P true g w = .go g' w #[rd (stA C.Wg)] ∧
  (v = 0 → ∃ m, GN (AtKe C Anch) m g' w) ∧ (v ≠ 0 → ∃ m, GN (AtW2 C Head Anch v) m g' w)
def AtKd (g : Goroutine) (w : World) : Prop := g.status = .running ∧ ∃ g', stepG C.P true g w = .go g' w #[mk .disable] ∧ ∃ m, GN Head m g' w
end
section
variable (j : Nat) (Next : Goroutine → World → Prop)
local notation "GJ" => Goes C.P true C.RC (C.DC j)
def AtGo (g : Goroutine) (w : World) : Prop := g.status = .running ∧ ∃ g' child, stepG C.P true g w = .spawn g' child w #[] ∧ (∃ m, Goes C.P false (C.RW (j + 1)) (C.DW (j + 1)) (S7 C (j + 1)) m child w) ∧ Next g' w
def AtEn (g : Goroutine) (w : World) : Prop := g.status = .running ∧ ∃ g', stepG C.P true g w = .go g' w #[mk .enable] ∧ ∃ m, GJ (AtGo C j Next) m g' w
def AtAdd (g : Goroutine) (w : World) : Prop := g.status = .running ∧ ∀ v : Nat, v < C.many → WgAt C.ty C.Wg w (v * KK) 0 →
  ∃ g', stepG C.P true g w = .go g' (w.setCell (stA C.Wg) (.int .u64 ((v + 1) * KK))) #[rd (stA C.Wg), wr (stA C.Wg)] ∧ ∃ m, GJ (AtEn C j Next) m g' (w.setCell (stA C.Wg) (.int .u64 ((v + 1) * KK)))
def AtDi (g : Goroutine) (w : World) : Prop := g.status = .running ∧ ∃ g', stepG C.P true g w = .go g' w #[mk .disable] ∧ ∃ m, GJ (AtAdd C j Next) m g' w
end
/-- r are still to be started. -/
def Spawns (End : Goroutine → World → Prop) : Nat → Goroutine → World → Prop
  | 0, g, w => End g w
  | r + 1, g, w => ∃ m, Goes C.P true C.RC (C.DC (C.last - (r + 1))) (AtDi C (C.last - (r + 1)) (Spawns End r)) m g w
def Waits (Head : Goroutine → World → Prop) (g : Goroutine) (w : World) : Prop := ∃ m, Goes C.P true C.RC (C.DC C.last) (AtKd C Head) m g w

section
variable (Head Anch : Goroutine → World → Prop)
local notation "NX" r => Spawns C (Waits C Head) r
local notation "GS" r => Goes C.P true C.RC (C.DC (C.last - (r + 1)))
local notation "GN" => Goes C.P true C.RC (C.DC C.last)
inductive CS : CTag → Nat → Nat → Nat → Goroutine → World → Prop
  | sdi {r m g w} : r < C.last - C.old → (GS r) (AtDi C (C.last - (r + 1)) (NX r)) m g w → CS (.sp r 5) (C.last - (r + 1)) m 0 g w
  | sad {r m g w} : r < C.last - C.old → (GS r) (AtAdd C (C.last - (r + 1)) (NX r)) m g w → CS (.sp r 4) (C.last - (r + 1)) m 1 g w
  | sen {r m g w} : r < C.last - C.old → (GS r) (AtEn C (C.last - (r + 1)) (NX r)) m g w → CS (.sp r 3) (C.last - (r + 1)) m 1 g w
  | sgo {r m g w} : r < C.last - C.old → (GS r) (AtGo C (C.last - (r + 1)) (NX r)) m g w → CS (.sp r 2) (C.last - (r + 1)) m 0 g w
  | kd {m g w} : GN (AtKd C Head) m g w → CS .kd C.last m 0 g w
  | anch {m g w} : GN Head m g w → CS .anch C.last m 1 g w
  | w1 {m g w} : GN (AtW1 C Head Anch) m g w → CS .w1 C.last m 1 g w
  | w2 {vs m g w} : GN (AtW2 C Head Anch vs) m g w → CS (.w2 vs) C.last m 1 g w
  | w3 {m g w} : GN (AtW3 C Anch) m g w → CS .w3 C.last (m + 1) 1 g w
  | blk {g w} : (∀ w₁, C.RC w w₁ → AtW3 C Anch g w₁) → CS .blk C.last 0 1 { g with status := .blocked } w
  | w4 {m g w} : GN (AtW4 C Anch) m g w → CS .w4 C.last m 1 g w
  | ke {m g w} : GN (AtKe C Anch) m g w → CS .ke C.last m 1 g w
  | acq {m g w} : GN (AtAcq C Anch) m g w → CS .acq C.last m 0 g w
  | ret {m g w} : GN Anch m g w → CS .ret C.last m 0 g w
end

/-- Worker k has said its release, heard; what it touches behind that is the group's own. -/
structure Rel (t : Trace) (k r : Nat) : Prop where
  by_ : RelBy (stA C.Wg) t k r
  tail : ∀ i x, r < i → t.g? i = some k → touchAt t i = some x → ∃ a : Addr, x.loc = .cell a ∧ a.block = C.Wg

/-- Of what the elder goroutines touched the starter knows all but what lies at shared places. -/
def OldK (t : Trace) : Prop := ∀ i g, t.g? i = some g → g ≠ 0 → g ≤ C.old → (∀ a, touchAt t i = some a → Knows t 0 i ∨ C.Sh a.loc) ∧ (t.counts i → ∃ j, t.g? j = some 0 ∧ HappensBefore t i j)
structure Com (j : Nat) (gs : Array Goroutine) (w : World) (t : Trace) (D : Nat → WD) (d0 : Nat) : Prop where
  size : gs.size = j + 1
  le : C.old ≤ j
  wk : ∀ i, i < j → ∃ g, gs[i + 1]? = some g ∧ WS C (i + 1) (D i).stage (D i).fuel (D i).deaf g w
  gone : ∀ i, i < C.old → (D i).stage = 1
  ct : CT C.Sh C.Own C.Rd t j
  norel : NoRelease (stA C.Wg) t
  deaf0 : Deaf t 0 = d0
  deafW : ∀ i, i < j → Deaf t (i + 1) = (D i).deaf
  rel : ∀ i, C.old ≤ i → i < j → (D i).stage ≤ 6 → ∃ r, Rel C t (i + 1) r
  fin : ∀ i, C.old ≤ i → i < j → (D i).stage ≤ 6 → C.Fin (i + 1) w
  seen : ∀ op ∈ t, op.act.low C.B
  elder : OldK C t
end Go.Proofs.Ytlpfogkfjjbklac.Crew
namespace Go.Proofs.Ytlpfogkfjjbklac.Crew
open Go.Conc Go.ConcN
open Go.ConcR (KK wgBlock WgAt stA smA rd wr mk Bk g_of_ofEvents bk_of_mute ofEvent_loc_mark ofEvent_mk ofEvent_cell again_blocked)
set_option linter.unusedVariables false
set_option linter.unusedSectionVars false
variable {C : Crew}

theorem Still.running {P : Program} {Stop : Goroutine → Prop} (hst : ∀ g, Stop g → g.status = .running) : ∀ {n : Nat} {g : Goroutine}, Still P Stop n g → g.status = .running
  | 0, _, h => hst _ h
  | _ + 1, _, h => h.elim (hst _) (fun x => x.1)
theorem Still.cases {P : Program} {Stop : Goroutine → Prop} {n : Nat} {g : Goroutine} (h : Still P Stop n g) : Stop g ∨ ∃ n', n = n' + 1 ∧ ∃ g', (∀ w, stepG P false g w = .go g' w #[]) ∧ Still P Stop n' g' := by
  cases n with
  | zero => exact .inl h
  | succ n =>
    rcases h with h | ⟨_, g', h1, h2⟩
    · exact .inl h
    · exact .inr ⟨n, rfl, g', h1, h2⟩

section
variable {k s m d : Nat} {g : Goroutine} {w w' : World}
theorem WS.rely (hO : Ok C) (h : WS C k s m d g w) (hr : C.RW k w w') : WS C k s m d g w' := by
  cases h with
  | s7 h => exact .s7 (Goes.rely (hO.rwTrans k) h hr)
  | s6 h => exact .s6 h
  | s5 h => exact .s5 h
  | s4 h => exact .s4 h
  | s3 h => exact .s3 h
  | s2 h => exact .s2 h
  | quit h => exact .quit h
theorem WS.live (hO : Ok C) (h : WS C k s m d g w) : (s ≠ 1 ∧ g.status = .running) ∨ (s = 1 ∧ QuitsD C.P m d g) := by
  cases h with
  | s7 h => exact .inl ⟨by omega, Goes.running (fun _ _ x => x.1) w (hO.rwRefl k w) h⟩
  | s6 h => exact .inl ⟨by omega, h.running (fun _ x => x.1)⟩
  | s5 h => exact .inl ⟨by omega, h.running (fun _ x => x.1)⟩
  | s4 h => exact .inl ⟨by omega, h.running (fun _ x => x.1)⟩
  | s3 h => exact .inl ⟨by omega, h.running (fun _ x => x.1)⟩
  | s2 h => exact .inl ⟨by omega, h.running (fun _ x => x.1)⟩
  | quit h => exact .inr ⟨rfl, h⟩
theorem WS.status (hO : Ok C) (h : WS C k s m d g w) : g.status = .running ∨ g.status = .finished := (h.live hO).elim (fun x => .inl x.2) (fun x => x.2.status)
theorem WS.woken (hO : Ok C) (h : WS C k s m d g w) (a a' : Goroutine) (w' : World) : woken C.P a a' w' g = g := by
  unfold Go.Conc.woken
  split
  · exact again_running _ (h.status hO)
  · rfl
end

/-! ### releases -/
theorem Rel.appNot {t u : Trace} {k r : Nat} (h : Rel C t k r) (hu : ∀ op ∈ u, op.g ≠ k) : Rel C (t ++ u) k r := by
  refine ⟨h.by_.appNot hu, fun i x hi hg hx => ?_⟩
  obtain ⟨op, ho, hog⟩ := Option.map_eq_some_iff.1 hg
  rcases getElem?_append_cases ho with ⟨hlt, ho'⟩ | ⟨_, hou⟩
  · exact h.tail i x hi (by simp [Trace.g?, ho', hog]) (by rw [← touchAt_old (u := u) hlt]; exact hx)
  · exact absurd hog (hu op hou)
theorem Rel.appOther {t u : Trace} {k r g : Nat} (h : Rel C t k r) (hu : ∀ op ∈ u, op.g = g) (hg : g ≠ k) : Rel C (t ++ u) k r := h.appNot fun op hop e => hg ((hu op hop).symm.trans e)
theorem touch_bk {Wg : Nat} {e : Event} {x : Touch} (h : Bk Wg e) (hx : (MemAct.ofEvent e).touch? = some x) : ∃ a : Addr, x.loc = .cell a ∧ a.block = Wg := by
  rcases h with h1 | h1 | ⟨a, b, rfl, ha⟩
  · rw [ofEvent_loc_mark h1] at hx; cases hx
  · rw [ofEvent_loc_mark h1] at hx; cases hx
  · rw [ofEvent_cell] at hx
    simp only [MemAct.touch?, Option.some.injEq] at hx
    subst hx; exact ⟨a, rfl, ha⟩
theorem Rel.appTail {t : Trace} {k r : Nat} {fn : FuncId} {pos : String} {es : Array Event} (h : Rel C t k r) (hb : RelBy (stA C.Wg) (t ++ MemOp.ofEvents k fn pos es) k r) (hes : ∀ e ∈ es, Bk C.Wg e) : Rel C (t ++ MemOp.ofEvents k fn pos es) k r := by
  refine ⟨hb, fun i x hi hg hx => ?_⟩
  obtain ⟨op, ho, hox⟩ := touch_of hx
  rcases getElem?_append_cases ho with ⟨hlt, ho'⟩ | ⟨_, hou⟩
  · exact h.tail i x hi (by rw [← g?_old (u := MemOp.ofEvents k fn pos es) hlt]; exact hg) (by rw [touchAt_of ho']; exact hox)
  · rw [ofEvents_eq] at hou
    obtain ⟨e, he, rfl⟩ := Array.mem_map.1 hou
    exact touch_bk (hes e he) hox
theorem Rel.new {t : Trace} {k : Nat} (hd : Deaf t k = 0) (fn : FuncId) (pos : String) : Rel C (t ++ MemOp.ofEvents k fn pos #[Go.ConcR.mk (.releaseMerge (stA C.Wg))]) k t.size := by
  refine ⟨RelBy.new hd fn pos, fun i x hi hg hx => ?_⟩
  obtain ⟨op, ho, _⟩ := touch_of hx
  have := lt_size_of_getElem? ho
  rw [ofEvents_eq] at this
  simp at this
  omega

/-! ### which entries the trace's law admits -/
section
variable {fn : FuncId} {pos : String} {es : Array Event}
theorem okW_of {k : Nat} (h : ∀ e ∈ es, EvW C k e) : ∀ op ∈ MemOp.ofEvents k fn pos es, OkW C.Sh C.Own C.Rd k op := by
  intro op hop
  rw [ofEvents_eq] at hop
  obtain ⟨e, he, rfl⟩ := Array.mem_map.1 hop
  exact (h e he).1 fn pos
theorem ok0_of {j : Nat} (h : ∀ e ∈ es, Ev0 C j e) : ∀ op ∈ MemOp.ofEvents 0 fn pos es, Ok0 C.Sh C.Own C.Rd j op := by
  intro op hop
  rw [ofEvents_eq] at hop
  obtain ⟨e, he, rfl⟩ := Array.mem_map.1 hop
  exact (h e he).1 fn pos
theorem okW_bk (hO : Ok C) {k : Nat} (h : ∀ e ∈ es, Bk C.Wg e) : ∀ op ∈ MemOp.ofEvents k fn pos es, OkW C.Sh C.Own C.Rd k op := by
  intro op hop
  rw [ofEvents_eq] at hop
  obtain ⟨e, he, rfl⟩ := Array.mem_map.1 hop
  refine ⟨rfl, fun x hx => ?_⟩
  rcases h e he with h1 | h1 | ⟨a, b, rfl, ha⟩
  · simp only [ofEvent_loc_mark h1] at hx; cases hx
  · simp only [ofEvent_loc_mark h1] at hx; cases hx
  · simp only [ofEvent_cell, MemAct.touch?, Option.some.injEq] at hx
    subst hx
    exact .inl ⟨hO.wgSh a ha, by simp, by simp⟩
theorem ok0_bk (hO : Ok C) {j : Nat} (h : ∀ e ∈ es, Bk C.Wg e) : ∀ op ∈ MemOp.ofEvents 0 fn pos es, Ok0 C.Sh C.Own C.Rd j op := by
  intro op hop
  obtain ⟨h1, h2⟩ := okW_bk hO h op hop
  exact ⟨h1, fun x hx => by
    rw [ofEvents_eq] at hop
    obtain ⟨e, he, rfl⟩ := Array.mem_map.1 hop
    obtain ⟨a, hl, hb⟩ := touch_bk (h e he) hx
    have hs : C.Sh x.loc := by rw [hl]; exact hO.wgSh a hb
    rcases h2 x hx with ⟨_, hp, _⟩ | ho | ⟨hr, _⟩
    · exact .inl ⟨hs, hp⟩
    · exact absurd hs (hO.apart.ownSh _ _ ho)
    · exact absurd hs (hO.apart.rdSh _ _ hr)⟩
theorem okW_mute {k : Nat} (h : ∀ e ∈ es, (MemAct.ofEvent e).touch? = none) : ∀ op ∈ MemOp.ofEvents k fn pos es, OkW C.Sh C.Own C.Rd k op := by
  intro op hop
  rw [ofEvents_eq] at hop
  obtain ⟨e, he, rfl⟩ := Array.mem_map.1 hop
  exact ⟨rfl, fun x hx => by simp only [h e he] at hx; cases hx⟩
theorem ok0_mute {j : Nat} (h : ∀ e ∈ es, (MemAct.ofEvent e).touch? = none) : ∀ op ∈ MemOp.ofEvents 0 fn pos es, Ok0 C.Sh C.Own C.Rd j op := by
  intro op hop
  rw [ofEvents_eq] at hop
  obtain ⟨e, he, rfl⟩ := Array.mem_map.1 hop
  exact ⟨rfl, fun x hx => by simp only [h e he] at hx; cases hx⟩
end

theorem low_bk (hO : Ok C) {es : Array Event} (h : ∀ e ∈ es, Bk C.Wg e) : ∀ e ∈ es, (MemAct.ofEvent e).low C.B := by
  intro e he
  rcases h e he with h1 | h1 | ⟨a, b, rfl, ha⟩
  · rw [ofEvent_loc_mark h1]; trivial
  · rw [ofEvent_loc_mark h1]; trivial
  · rw [ofEvent_cell]
    have := hO.wgB
    show a.block < C.B
    omega
theorem low_ops {g : Nat} {fn : FuncId} {pos : String} {es : Array Event} (h : ∀ e ∈ es, (MemAct.ofEvent e).low C.B) : ∀ op ∈ MemOp.ofEvents g fn pos es, op.act.low C.B := by
  intro op hop
  obtain ⟨e, he, rfl⟩ := Go.Conc.mem_ofEvents hop
  exact h e he
theorem OldK.app {t u : Trace} (h : OldK C t) (hu : ∀ op ∈ u, op.g ≠ 0 → op.g ≤ C.old → op.act.touch? = none) : OldK C (t ++ u) := by
  intro i g hg h0 ho
  obtain ⟨op, hop, rfl⟩ := Option.map_eq_some_iff.1 hg
  rcases getElem?_append_cases hop with ⟨hlt, hop'⟩ | ⟨_, hou⟩
  · obtain ⟨h1, h2⟩ := h i op.g (by simp [Trace.g?, hop']) h0 ho
    refine ⟨fun a ha => (h1 a (by rw [← touchAt_old (u := u) hlt]; exact ha)).imp (·.app u) id, fun hc => ?_⟩
    obtain ⟨j, hj, hb⟩ := h2 ((counts_old hlt).1 hc)
    have hjl : j < t.size := by
      obtain ⟨z, hz, _⟩ := Option.map_eq_some_iff.1 hj
      exact lt_size_of_getElem? hz
    exact ⟨j, by rw [g?_old hjl]; exact hj, hb_app u hb⟩
  · have hn := hu op hou h0 ho
    refine ⟨fun a ha => ?_, fun hc => ?_⟩
    · rw [touchAt_of hop, hn] at ha; cases ha
    · obtain ⟨x, hx, _⟩ := hc
      obtain ⟨op', ho', hox⟩ := touch_of hx
      rw [hop] at ho'; cases ho'
      rw [hn] at hox; cases hox

/-! ### what holds of the machine -/
section
variable {j : Nat} {gs : Array Goroutine} {w w' : World} {t : Trace} {D : Nat → WD} {d0 : Nat}
theorem Com.at (hO : Ok C) (h : Com C j gs w t D d0) (d : Nat) : Com C j gs (w.at d) t D d0 :=
  ⟨h.size, h.le, fun i hi => let ⟨g, hg, hs⟩ := h.wk i hi; ⟨g, hg, hs.rely hO (hO.rwAt _ w d)⟩, h.gone, h.ct, h.norel, h.deaf0, h.deafW, h.rel, fun i ho hi hs => hO.finRely _ _ _ (hO.rwAt _ w d) (h.fin i ho hi hs), h.seen, h.elder⟩

theorem Com.stepW (hO : Ok C) (h : Com C j gs w t D d0) {i : Nat} (hi : i < j) {g g' : Goroutine} {fn : FuncId} {pos : String} {es : Array Event} {s' m' dd' : Nat}
    (hrw : ∀ k, k ≠ i + 1 → C.RW k w w') (hs' : WS C (i + 1) s' m' dd' g' w') (hok : ∀ op ∈ MemOp.ofEvents (i + 1) fn pos es, OkW C.Sh C.Own C.Rd (i + 1) op) (hnr : ∀ e ∈ es, e.loc ≠ .mark (.release (stA C.Wg)))
    (hdeaf : deafBehind (D i).deaf es = dd') (hold : i < C.old → s' = 1) (hrel : C.old ≤ i → s' ≤ 6 → ∃ r, Rel C (t ++ MemOp.ofEvents (i + 1) fn pos es) (i + 1) r) (hfin : C.old ≤ i → s' ≤ 6 → C.Fin (i + 1) w') (hlow : ∀ e ∈ es, (MemAct.ofEvent e).low C.B) (hmut : i < C.old → ∀ e ∈ es, (MemAct.ofEvent e).touch? = none) :
    Com C j ((gs.map (woken C.P g g' w')).setIfInBounds (i + 1) g') w' (t ++ MemOp.ofEvents (i + 1) fn pos es) (upd D i ⟨s', m', dd'⟩) d0 := by
  refine ⟨by simp [h.size], h.le, fun i' hi' => ?_, fun i' hi' => ?_, h.ct.appW hO.apart (by omega) (by omega) hok, h.norel.app (norel_of hnr), by rw [Deaf_other t (by omega) _ g_of_ofEvents, h.deaf0], fun i' hi' => ?_, fun i' ho' hi' hst => ?_, fun i' ho' hi' hst => ?_, seen_app h.seen (low_ops hlow), h.elder.app fun op hop h0 ho => ?_⟩
  · by_cases e : i' = i
    · subst e
      exact ⟨g', get_map_set_same _ _ _ (by rw [h.size]; omega), by rw [upd_same]; exact hs'⟩
    · obtain ⟨x, hx, hsx⟩ := h.wk i' hi'
      refine ⟨x, by rw [get_map_set _ _ _ _ (by omega), hx, Option.map_some, hsx.woken hO], ?_⟩
      rw [upd_ne D _ e]
      exact hsx.rely hO (hrw _ (by omega))
  · by_cases e : i' = i
    · subst e; rw [upd_same]; exact hold hi'
    · rw [upd_ne D _ e]; exact h.gone i' hi'
  · by_cases e : i' = i
    · subst e; rw [Deaf_own, h.deafW i' hi', upd_same]; exact hdeaf
    · rw [Deaf_other t (by omega) _ g_of_ofEvents, h.deafW i' hi', upd_ne D _ e]
  · by_cases e : i' = i
    · subst e; rw [upd_same] at hst; exact hrel ho' hst
    · rw [upd_ne D _ e] at hst
      obtain ⟨r, hr⟩ := h.rel i' ho' hi' hst
      exact ⟨r, hr.appOther g_of_ofEvents (by omega)⟩
  · by_cases e : i' = i
    · subst e; rw [upd_same] at hst; exact hfin ho' hst
    · rw [upd_ne D _ e] at hst
      exact hO.finRely _ _ _ (hrw _ (by omega)) (h.fin i' ho' hi' hst)
  · obtain ⟨e, he, rfl⟩ := Go.Conc.mem_ofEvents hop
    exact hmut (by simp at ho; omega) e he

theorem Com.step0 (hO : Ok C) (h : Com C j gs w t D d0) {a a' : Goroutine} {fn : FuncId} {pos : String} {es : Array Event}
    (hrw : ∀ k, k ≤ j → C.RW k w w') (hok : ∀ op ∈ MemOp.ofEvents 0 fn pos es, Ok0 C.Sh C.Own C.Rd j op) (hnr : ∀ e ∈ es, e.loc ≠ .mark (.release (stA C.Wg))) (hlow : ∀ e ∈ es, (MemAct.ofEvent e).low C.B) :
    Com C j ((gs.map (woken C.P a a' w')).setIfInBounds 0 a') w' (t ++ MemOp.ofEvents 0 fn pos es) D (deafBehind d0 es) := by
  refine ⟨by simp [h.size], h.le, fun i hi => ?_, h.gone, h.ct.app0 hO.apart hok, h.norel.app (norel_of hnr), by rw [Deaf_own, h.deaf0], fun i hi => by rw [Deaf_other t (by omega) _ g_of_ofEvents, h.deafW i hi], fun i ho hi hst => ?_, fun i ho hi hst => hO.finRely _ _ _ (hrw _ (by omega)) (h.fin i ho hi hst), seen_app h.seen (low_ops hlow), h.elder.app fun op hop h0 ho => absurd (g_of_ofEvents op hop) h0⟩
  · obtain ⟨x, hx, hsx⟩ := h.wk i hi
    exact ⟨x, by rw [get_map_set _ _ _ _ (by omega), hx, Option.map_some, hsx.woken hO], hsx.rely hO (hrw _ (by omega))⟩
  · obtain ⟨r, hr⟩ := h.rel i ho hi hst
    exact ⟨r, hr.appOther g_of_ofEvents (by omega)⟩

theorem Com.spawn (hO : Ok C) (h : Com C j gs w t D 0) {a' child : Goroutine} {x y : MemOp} {m : Nat} (hx : x.g = 0 ∧ x.act = .go (j + 1)) (hy : y.g = j + 1 ∧ y.act = .start)
    (hc : Goes C.P false (C.RW (j + 1)) (C.DW (j + 1)) (S7 C (j + 1)) m child w) : Com C (j + 1) ((gs.setIfInBounds 0 a').push child) w (t ++ #[x, y]) (upd D j ⟨7, m, 0⟩) 0 := by
  have hm : ∀ op ∈ #[x, y], op = x ∨ op = y := by intro op hop; simpa using hop
  have hst : ∀ op ∈ #[x, y], op.act ≠ .mark .disable ∧ op.act ≠ .mark .enable := by
    intro op hop
    rcases hm op hop with rfl | rfl
    · rw [hx.2]; exact ⟨by simp, by simp⟩
    · rw [hy.2]; exact ⟨by simp, by simp⟩
  refine ⟨by simp [h.size], by have := h.le; omega, fun i hi => ?_, fun i hi => ?_, h.ct.fork hO.apart hx hy h.deaf0, h.norel.app fun op hop => ?_, by rw [Deaf_still t 0 _ hst, h.deaf0], fun i hi => ?_, fun i ho hi hs => ?_, fun i ho hi hs => ?_, seen_app h.seen fun op hop => ?_, h.elder.app fun op hop h0 ho => ?_⟩
  · rcases Nat.lt_or_ge i j with hlt | hge
    · obtain ⟨g, hg, hsg⟩ := h.wk i hlt
      refine ⟨g, ?_, by rw [upd_ne D _ (by omega)]; exact hsg⟩
      rw [Array.getElem?_push_lt (by simp [h.size]; omega), ← Array.getElem?_eq_getElem, Array.getElem?_setIfInBounds_ne (by omega)]
      exact hg
    · obtain rfl : i = j := by omega
      refine ⟨child, ?_, by rw [upd_same]; exact .s7 hc⟩
      rw [show i + 1 = (gs.setIfInBounds 0 a').size by simp [h.size], Array.getElem?_push_size]
  · rw [upd_ne D _ (by have := h.le; omega)]; exact h.gone i hi
  · rcases hm op hop with rfl | rfl
    · rw [hx.2]; simp
    · rw [hy.2]; simp
  · rw [Deaf_still t _ _ hst]
    rcases Nat.lt_or_ge i j with hlt | hge
    · rw [h.deafW i hlt, upd_ne D _ (by omega)]
    · obtain rfl : i = j := by omega
      rw [upd_same]
      exact Deaf_absent fun a op ha e => by have := h.ct.gs a op ha; omega
  · rcases Nat.lt_or_ge i j with hlt | hge
    · rw [upd_ne D _ (by omega)] at hs
      obtain ⟨r, hr⟩ := h.rel i ho hlt hs
      refine ⟨r, hr.appNot fun op hop => ?_⟩
      rcases hm op hop with rfl | rfl
      · rw [hx.1]; omega
      · rw [hy.1]; omega
    · obtain rfl : i = j := by omega
      rw [upd_same] at hs
      simp at hs
  · rcases Nat.lt_or_ge i j with hlt | hge
    · rw [upd_ne D _ (by omega)] at hs
      exact h.fin i ho hlt hs
    · obtain rfl : i = j := by omega
      rw [upd_same] at hs
      simp at hs
  · rcases hm op hop with rfl | rfl
    · rw [hx.2]; trivial
    · rw [hy.2]; trivial
  · rcases hm op hop with rfl | rfl
    · rw [hx.2]; rfl
    · rw [hy.2]; rfl
end

/-! ### the starter under another's step -/
section
variable {Head Anch : Goroutine → World → Prop} {tag : CTag} {j f d : Nat} {a : Goroutine} {w w' : World}
theorem CS.rely (hO : Ok C) (h : CS C Head Anch tag j f d a w) (hr : C.RC w w') : CS C Head Anch tag j f d a w' := by
  cases h with
  | sdi hn h => exact .sdi hn (Goes.rely hO.rcTrans h hr)
  | sad hn h => exact .sad hn (Goes.rely hO.rcTrans h hr)
  | sen hn h => exact .sen hn (Goes.rely hO.rcTrans h hr)
  | sgo hn h => exact .sgo hn (Goes.rely hO.rcTrans h hr)
  | kd h => exact .kd (Goes.rely hO.rcTrans h hr)
  | anch h => exact .anch (Goes.rely hO.rcTrans h hr)
  | w1 h => exact .w1 (Goes.rely hO.rcTrans h hr)
  | w2 h => exact .w2 (Goes.rely hO.rcTrans h hr)
  | w3 h => exact .w3 (Goes.rely hO.rcTrans h hr)
  | blk h => exact .blk (fun w₂ h₂ => h w₂ (hO.rcTrans _ _ _ hr h₂))
  | w4 h => exact .w4 (Goes.rely hO.rcTrans h hr)
  | ke h => exact .ke (Goes.rely hO.rcTrans h hr)
  | acq h => exact .acq (Goes.rely hO.rcTrans h hr)
  | ret h => exact .ret (Goes.rely hO.rcTrans h hr)
theorem CS.status (hO : Ok C) (hH : ∀ g w, Head g w → g.status = .running) (hA : ∀ g w, Anch g w → g.status = .running) (h : CS C Head Anch tag j f d a w) : (a.status = .running ∧ tag ≠ .blk) ∨ (a.status = .blocked ∧ tag = .blk) := by
  cases h with
  | sdi _ h => exact .inl ⟨Goes.running (fun _ _ x => x.1) w (hO.rcRefl w) h, by simp⟩
  | sad _ h => exact .inl ⟨Goes.running (fun _ _ x => x.1) w (hO.rcRefl w) h, by simp⟩
  | sen _ h => exact .inl ⟨Goes.running (fun _ _ x => x.1) w (hO.rcRefl w) h, by simp⟩
  | sgo _ h => exact .inl ⟨Goes.running (fun _ _ x => x.1) w (hO.rcRefl w) h, by simp⟩
  | kd h => exact .inl ⟨Goes.running (fun _ _ x => x.1) w (hO.rcRefl w) h, by simp⟩
  | anch h => exact .inl ⟨Goes.running hH w (hO.rcRefl w) h, by simp⟩
  | w1 h => exact .inl ⟨Goes.running (fun _ _ x => x.1) w (hO.rcRefl w) h, by simp⟩
  | w2 h => exact .inl ⟨Goes.running (fun _ _ x => x.1) w (hO.rcRefl w) h, by simp⟩
  | w3 h => exact .inl ⟨Goes.running (fun _ _ x => x.1) w (hO.rcRefl w) h, by simp⟩
  | blk h => exact .inr ⟨rfl, rfl⟩
  | w4 h => exact .inl ⟨Goes.running (fun _ _ x => x.1) w (hO.rcRefl w) h, by simp⟩
  | ke h => exact .inl ⟨Goes.running (fun _ _ x => x.1) w (hO.rcRefl w) h, by simp⟩
  | acq h => exact .inl ⟨Goes.running (fun _ _ x => x.1) w (hO.rcRefl w) h, by simp⟩
  | ret h => exact .inl ⟨Goes.running hA w (hO.rcRefl w) h, by simp⟩
theorem CS.wokenBy (hO : Ok C) (hH : ∀ g w, Head g w → g.status = .running) (hA : ∀ g w, Anch g w → g.status = .running) (h : CS C Head Anch tag j f d a w) (hr : C.RC w w') (g g' : Goroutine) :
    ∃ tag' f', CS C Head Anch tag' j f' d (woken C.P g g' w' a) w' ∧ f' ≤ f + 1 ∧ (tag' = tag ∨ (tag = .blk ∧ tag' = .w3)) ∧ (mayWake C.P g = true → g'.status = .running → tag' ≠ .blk) := by
  have h' := h.rely hO hr
  unfold Go.Conc.woken
  split
  · rcases h'.status hO hH hA with ⟨hs, hne⟩ | ⟨_, rfl⟩
    · exact ⟨tag, f, by rw [again_running _ (.inl hs)]; exact h', by omega, .inl rfl, fun _ _ => hne⟩
    · cases h' with
      | blk hb =>
        have h3 := hb w' (hO.rcRefl w')
        exact ⟨.w3, 0 + 1, by rw [again_blocked h3.1 h3.2.1]; exact .w3 (Goes.stop hb), by omega, .inr ⟨rfl, rfl⟩, fun _ _ => by simp⟩
  · rename_i hc
    exact ⟨tag, f, h', by omega, .inl rfl, fun h1 h2 => absurd (by simp [h1, h2]) hc⟩
theorem CS.bound (hO : Ok C) (h : CS C Head Anch tag j f d a w) : j + pend tag ≤ C.last := by
  have := hO.oldLast
  cases h <;> simp only [pend] <;> (try simp) <;> omega
end
end Go.Proofs.Ytlpfogkfjjbklac.Crew
namespace Go.Proofs.Ytlpfogkfjjbklac.Crew
open Go.Conc Go.ConcN
open Go.ConcR (KK wgBlock WgAt stA smA rd wr mk Bk g_of_ofEvents bk_of_mute ofEvent_loc_mark ofEvent_mk ofEvent_cell again_blocked)
set_option linter.unusedVariables false
set_option linter.unusedSectionVars false
section
variable (C : Crew) (Head Anch : Goroutine → World → Prop)
/-- The starter has said 'acquire', hearing, behind every worker's release. -/
def AcqAll (t : Trace) : Prop := ∃ q, t.act? q = some (.mark (.acquire (stA C.Wg))) ∧ t.g? q = some 0 ∧ t.heard q ∧ ∀ i, C.old ≤ i → i < C.last → ∃ r, Rel C t (i + 1) r ∧ r < q
def Inv (μ : Nat × Nat) (m : Machine) (t : Trace) : Prop :=
  ∃ (gs : Array Goroutine) (w : World) (sl : Option (Nat × Nat)) (j : Nat) (D : Nat → WD) (tag : CTag) (f0 d0 : Nat) (a : Goroutine) (st sm : Int),
    m = crowd gs w sl ∧ gs[0]? = some a ∧ CS C Head Anch tag j f0 d0 a w ∧ Com C j gs w t D d0 ∧ WgAt C.ty C.Wg w st sm ∧ ConcN.Mode j D tag st sm ∧ (tag = .ret → AcqAll C t) ∧ μ = (phi C.last (Vc j D) tag + Ssum j D, f0 + 2 * Fsum j D)
/-- The starter stands behind its wait; all others only leave. -/
def Done (m : Machine) (t : Trace) : Prop :=
  ∃ (gs : Array Goroutine) (w : World) (sl : Option (Nat × Nat)) (D : Nat → WD) (a : Goroutine), m = crowd gs w sl ∧ gs[0]? = some a ∧ Anch a w ∧ Com C C.last gs w t D 0 ∧ AllQuit C.last D ∧ AcqAll C t
end
variable {C : Crew} {Head Anch : Goroutine → World → Prop}

theorem AcqAll.app {t u : Trace} (h : AcqAll C t) (hu : ∀ i r, C.old ≤ i → i < C.last → Rel C t (i + 1) r → Rel C (t ++ u) (i + 1) r) : AcqAll C (t ++ u) := by
  obtain ⟨q, h1, h2, h3, h4⟩ := h
  have hq := lt_of_act? h1
  exact ⟨q, by rw [act?_old hq]; exact h1, by rw [g?_old hq]; exact h2, (heard_old hq).2 h3, fun i ho hi => let ⟨r, hr, hrq⟩ := h4 i ho hi; ⟨r, hu i r ho hi hr, hrq⟩⟩

theorem vc_new {D : Nat → WD} {o : Nat} (h : ∀ i, i < o → (D i).stage = 1) : ∀ {j : Nat}, o ≤ j → Vc j D + o ≤ j
  | 0, hj => by simp [Vc, sumTo]; omega
  | j + 1, hj => by
    rcases Nat.lt_or_ge j o with hlt | hge
    · obtain rfl : o = j + 1 := by omega
      have h0 : Vc (j + 1) D = 0 := by
        have := sumTo_le (f := fun i => cnt (D i)) (c := 0) (j := j + 1) fun i hi => by simp [cnt, h i hi]
        simpa [Vc] using this
      omega
    · have := vc_new h hge
      have hc : cnt (D j) ≤ 1 := by simp only [cnt]; split <;> omega
      simp only [Vc, sumTo] at this ⊢
      omega

section
variable {gs : Array Goroutine} {w w' : World} {sl : Option (Nat × Nat)} {j : Nat} {D : Nat → WD} {tag tag' : CTag} {f0 f' d0 : Nat} {a a' : Goroutine} {t : Trace} {st sm st' sm' : Int} {es : Array Event}

/-- Whatever step of worker number i. -/
theorem workerStep (hO : Ok C) (hH : ∀ g w, Head g w → g.status = .running) (hA : ∀ g w, Anch g w → g.status = .running)
    (ha : gs[0]? = some a) (hcs : CS C Head Anch tag j f0 d0 a w) (hcom : Com C j gs w t D d0) {i : Nat} (hi : i < j) {g g' : Goroutine} {s' m' dd' : Nat}
    (hg : gs[i + 1]? = some g) (hgo : stepG C.P false g w = .go g' w' es) (hRC : C.RC w w') (hrw : ∀ k, k ≠ i + 1 → C.RW k w w') (hs' : WS C (i + 1) s' m' dd' g' w')
    (hok : ∀ op ∈ MemOp.ofEvents (i + 1) g.frame.fn g.frame.place es, OkW C.Sh C.Own C.Rd (i + 1) op) (hnr : ∀ e ∈ es, e.loc ≠ .mark (.release (stA C.Wg))) (hdeaf : deafBehind (D i).deaf es = dd')
    (hold : i < C.old → s' = 1) (hrel : C.old ≤ i → s' ≤ 6 → ∃ r, Rel C (t ++ MemOp.ofEvents (i + 1) g.frame.fn g.frame.place es) (i + 1) r) (hfin : C.old ≤ i → s' ≤ 6 → C.Fin (i + 1) w') (hlow : ∀ e ∈ es, (MemAct.ofEvent e).low C.B) (hmut : i < C.old → ∀ e ∈ es, (MemAct.ofEvent e).touch? = none)
    (hwg : WgAt C.ty C.Wg w' st' sm')
    (hmode : ∀ tag', (tag' = tag ∨ (tag = .blk ∧ tag' = .w3)) → (mayWake C.P g = true → g'.status = .running → tag' ≠ .blk) → ConcN.Mode j (upd D i ⟨s', m', dd'⟩) tag' st' sm')
    (hacq : tag = .ret → AcqAll C (t ++ MemOp.ofEvents (i + 1) g.frame.fn g.frame.place es))
    (hlt : (s' < (D i).stage ∧ cnt ⟨s', m', dd'⟩ ≤ cnt (D i)) ∨ (s' = (D i).stage ∧ m' + 1 = (D i).fuel)) :
    ∃ m₁ ops μ', runT C.P (crowd gs w sl) (i + 1) = (.next m₁, ops) ∧ Lt2 μ' (phi C.last (Vc j D) tag + Ssum j D, f0 + 2 * Fsum j D) ∧ Inv C Head Anch μ' m₁ (t ++ ops) := by
  obtain ⟨tag', f', hcs', hf', htag, hwk⟩ := hcs.wokenBy hO hH hA hRC g g'
  have hrun := runT_crowd_go (P := C.P) (sl := sl) (i := i + 1) hg (by simpa using hgo)
  have e1 := sumTo_upd D (⟨s', m', dd'⟩ : WD) cnt hi
  have e2 := sumTo_upd D (⟨s', m', dd'⟩ : WD) WD.stage hi
  have e3 := sumTo_upd D (⟨s', m', dd'⟩ : WD) WD.fuel hi
  refine ⟨_, _, (phi C.last (Vc j (upd D i ⟨s', m', dd'⟩)) tag' + Ssum j (upd D i ⟨s', m', dd'⟩), f' + 2 * Fsum j (upd D i ⟨s', m', dd'⟩)), hrun, ?_,
    _, w', sl, j, upd D i ⟨s', m', dd'⟩, tag', f', d0, woken C.P g g' w' a, st', sm', rfl, by rw [get_map_set _ _ _ _ (by omega), ha]; rfl, hcs', hcom.stepW hO hi hrw hs' hok hnr hdeaf hold hrel hfin hlow hmut, hwg, hmode tag' htag hwk, ?_, rfl⟩
  · rw [phi_retag C.last _ htag]
    simp only [Vc, Ssum, Fsum] at *
    rcases hlt with ⟨h1, h2⟩ | ⟨h1, h2⟩
    · refine Prod.Lex.left _ _ ?_
      have := phi_mono C.last (v' := sumTo j fun a => cnt (upd D i ⟨s', m', dd'⟩ a)) (v := sumTo j fun a => cnt (D a)) (by omega) tag
      omega
    · have ec : cnt (⟨s', m', dd'⟩ : WD) = cnt (D i) := by simp only [cnt, h1]
      have ev : (sumTo j fun a => cnt (upd D i ⟨s', m', dd'⟩ a)) = sumTo j fun a => cnt (D a) := by omega
      have es' : (sumTo j fun a => (upd D i ⟨s', m', dd'⟩ a).stage) = sumTo j fun a => (D a).stage := by omega
      rw [ev, es']
      exact Prod.Lex.right _ (by omega)
  · intro e
    rcases htag with rfl | ⟨_, rfl⟩
    · exact hacq e
    · cases e

/-- Whatever step of the starter's but a go statement. -/
theorem callerStep (hO : Ok C) (ha : gs[0]? = some a) (hcom : Com C j gs w t D d0) (hgo : stepG C.P true a w = .go a' w' es) (hrw : ∀ k, k ≤ j → C.RW k w w')
    (hok : ∀ op ∈ MemOp.ofEvents 0 a.frame.fn a.frame.place es, Ok0 C.Sh C.Own C.Rd j op) (hnr : ∀ e ∈ es, e.loc ≠ .mark (.release (stA C.Wg))) (hlow : ∀ e ∈ es, (MemAct.ofEvent e).low C.B)
    (hcs' : CS C Head Anch tag' j f' (deafBehind d0 es) a' w') (hwg : WgAt C.ty C.Wg w' st' sm') (hmode : ConcN.Mode j D tag' st' sm') (hacq : tag' = .ret → AcqAll C (t ++ MemOp.ofEvents 0 a.frame.fn a.frame.place es))
    (hlt : phi C.last (Vc j D) tag' < phi C.last (Vc j D) tag ∨ (phi C.last (Vc j D) tag' = phi C.last (Vc j D) tag ∧ f' < f0)) :
    ∃ m₁ ops μ', runT C.P (crowd gs w sl) 0 = (.next m₁, ops) ∧ Lt2 μ' (phi C.last (Vc j D) tag + Ssum j D, f0 + 2 * Fsum j D) ∧ Inv C Head Anch μ' m₁ (t ++ ops) := by
  have hrun := runT_crowd_go (P := C.P) (sl := sl) (i := 0) ha (by simpa using hgo)
  refine ⟨_, _, (phi C.last (Vc j D) tag' + Ssum j D, f' + 2 * Fsum j D), hrun, ?_, _, w', sl, j, D, tag', f', deafBehind d0 es, a', st', sm', rfl, get_map_set_same _ _ _ (by rw [hcom.size]; omega), hcs', hcom.step0 hO hrw hok hnr hlow, hwg, hmode, hacq, rfl⟩
  rcases hlt with h | ⟨h1, h2⟩
  · exact Prod.Lex.left _ _ (by omega)
  · rw [h1]; exact Prod.Lex.right _ (by omega)

theorem idleC (hO : Ok C) (ha : gs[0]? = some a) (hcom : Com C j gs w t D d0) (hwg : WgAt C.ty C.Wg w st sm) (hmode : ConcN.Mode j D tag st sm) (hacq : tag = .ret → AcqAll C t)
    (hgo : stepG C.P true a w = .go a' w' es) (hD : C.DC j w w' es) (hcs' : CS C Head Anch tag j f' d0 a' w') (hf : f' < f0) :
    ∃ m₁ ops μ', runT C.P (crowd gs w sl) 0 = (.next m₁, ops) ∧ Lt2 μ' (phi C.last (Vc j D) tag + Ssum j D, f0 + 2 * Fsum j D) ∧ Inv C Head Anch μ' m₁ (t ++ ops) := by
  have hev := hO.dcEv _ _ _ _ hD
  have hdf : deafBehind d0 es = d0 := deafBehind_idle (fun e he => ⟨(hev e he).2.1, (hev e he).2.2.1⟩) d0
  exact callerStep hO ha hcom hgo (fun k hk => hO.dcRW _ _ _ _ _ hD hk) (ok0_of hev) (fun e he => (hev e he).2.2.2.1) (fun e he => (hev e he).2.2.2.2) (by rw [hdf]; exact hcs') (hwg.of_block (hO.dcWg _ _ _ _ hD)) hmode
    (fun e => (hacq e).app fun i r _ _ hr => hr.appOther g_of_ofEvents (by omega)) (.inr ⟨rfl, hf⟩)

theorem bookC (hO : Ok C) (ha : gs[0]? = some a) (hcom : Com C j gs w t D d0) (hwg : WgAt C.ty C.Wg w st sm) (hgo : stepG C.P true a w = .go a' w' es) (hAs : Aside C.Wg w w') (hwg' : WgAt C.ty C.Wg w' st' sm') (hbk : ∀ e ∈ es, Bk C.Wg e)
    (hcs' : CS C Head Anch tag' j f' (deafBehind d0 es) a' w') (hmode' : ConcN.Mode j D tag' st' sm') (hne : tag' ≠ .ret) (hlt : phi C.last (Vc j D) tag' < phi C.last (Vc j D) tag ∨ (phi C.last (Vc j D) tag' = phi C.last (Vc j D) tag ∧ f' < f0)) :
    ∃ m₁ ops μ', runT C.P (crowd gs w sl) 0 = (.next m₁, ops) ∧ Lt2 μ' (phi C.last (Vc j D) tag + Ssum j D, f0 + 2 * Fsum j D) ∧ Inv C Head Anch μ' m₁ (t ++ ops) :=
  callerStep hO ha hcom hgo (fun k _ => hO.wgRW k _ _ hAs ⟨_, _, hwg⟩ ⟨_, _, hwg'⟩) (ok0_bk hO hbk) (norel_of_Bk hbk) (low_bk hO hbk) hcs' hwg' hmode' (fun e => absurd e hne) hlt

theorem bk_dis : ∀ e ∈ #[mk .disable], Bk C.Wg e := by intro e he; simp at he; subst he; exact .inl rfl
theorem bk_en : ∀ e ∈ #[mk .enable], Bk C.Wg e := by intro e he; simp at he; subst he; exact .inr (.inl rfl)
theorem bk_rd : ∀ e ∈ #[rd (stA C.Wg)], Bk C.Wg e := by intro e he; simp at he; subst he; exact bk_cell _ _ rfl
theorem bk_wr : ∀ e ∈ #[wr (stA C.Wg)], Bk C.Wg e := by intro e he; simp at he; subst he; exact bk_cell _ _ rfl
theorem bk_rw : ∀ e ∈ #[rd (stA C.Wg), wr (stA C.Wg)], Bk C.Wg e := by intro e he; simp at he; rcases he with rfl | rfl <;> exact bk_cell _ _ rfl
theorem bk_sem : ∀ e ∈ semEvents (smA C.Wg), Bk C.Wg e := by
  intro e he
  simp [semEvents] at he
  rcases he with rfl | rfl | rfl | rfl
  · exact .inl rfl
  · exact bk_cell _ _ rfl
  · exact bk_cell _ _ rfl
  · exact .inr (.inl rfl)

set_option maxHeartbeats 1000000 in
theorem stepWorker (hO : Ok C) (hH : ∀ g w, Head g w → g.status = .running) (hA : ∀ g w, Anch g w → g.status = .running)
    (ha : gs[0]? = some a) (hcs : CS C Head Anch tag j f0 d0 a w) (hcom : Com C j gs w t D d0) (hwg : WgAt C.ty C.Wg w st sm) (hmode : ConcN.Mode j D tag st sm) (hacq : tag = .ret → AcqAll C t)
    {i : Nat} (hi : i < j) {g : Goroutine} (hg : gs[i + 1]? = some g) (hrun : g.status = .running) :
    ∃ m₁ ops μ', runT C.P (crowd gs w sl) (i + 1) = (.next m₁, ops) ∧ Lt2 μ' (phi C.last (Vc j D) tag + Ssum j D, f0 + 2 * Fsum j D) ∧ Inv C Head Anch μ' m₁ (t ++ ops) := by
  obtain ⟨g₁, hg₁, hs⟩ := hcom.wk i hi
  obtain rfl : g = g₁ := by rw [hg] at hg₁; exact Option.some.inj hg₁
  generalize hst : (D i).stage = s at hs
  generalize hfu : (D i).fuel = m at hs
  generalize hde : (D i).deaf = dd at hs
  have hb := hcs.bound hO
  have hnew := vc_new hcom.gone hcom.le
  have hen := hO.enough
  have hdk : Deaf t (i + 1) = dd := by rw [hcom.deafW i hi, hde]
  have young : s ≠ 1 → C.old ≤ i := fun h => Nat.le_of_not_lt fun hlt => h (by rw [← hst]; exact hcom.gone i hlt)
  have nr : s ≠ 1 → tag ≠ .ret := fun h => hmode.not_ret hi (by omega)
  -- a step of the library's bookkeeping behind the release
  have bookG : ∀ {g' : Goroutine} {w' : World} {es : Array Event} {s' m' dd' : Nat} {st' sm' : Int}, stepG C.P false g w = .go g' w' es → Aside C.Wg w w' → WgAt C.ty C.Wg w' st' sm' → (∀ e ∈ es, Bk C.Wg e) →
      (∀ jx e, es[jx]? = some e → (MemAct.ofEvent e).touch? = none ∨ 0 < deafBehind dd (es.extract 0 jx)) → WS C (i + 1) s' m' dd' g' w' → deafBehind dd es = dd' → s ≤ 6 → (i < C.old → s' = 1) → (i < C.old → ∀ e ∈ es, (MemAct.ofEvent e).touch? = none) →
      (∀ tag', (tag' = tag ∨ (tag = .blk ∧ tag' = .w3)) → (mayWake C.P g = true → g'.status = .running → tag' ≠ .blk) → ConcN.Mode j (upd D i ⟨s', m', dd'⟩) tag' st' sm') → (tag = .ret → AcqAll C (t ++ MemOp.ofEvents (i + 1) g.frame.fn g.frame.place es)) → ((s' < s ∧ cnt ⟨s', m', dd'⟩ ≤ cnt (D i)) ∨ (s' = s ∧ m' + 1 = m)) →
      ∃ m₁ ops μ', runT C.P (crowd gs w sl) (i + 1) = (.next m₁, ops) ∧ Lt2 μ' (phi C.last (Vc j D) tag + Ssum j D, f0 + 2 * Fsum j D) ∧ Inv C Head Anch μ' m₁ (t ++ ops) := by
    intro g' w' es s' m' dd' st' sm' hgo hAs hwg' hbk hd hs' hdd h6 hold hmt hmode' hacq' hlt
    have l1 : Live C w := ⟨_, _, hwg⟩
    have l2 : Live C w' := ⟨_, _, hwg'⟩
    exact workerStep hO hH hA ha hcs hcom hi hg hgo (hO.wgRC _ _ hAs l1 l2) (fun k _ => hO.wgRW k _ _ hAs l1 l2) hs' (okW_bk hO hbk) (norel_of_Bk hbk) (by rw [hde]; exact hdd) hold
      (fun ho _ => let ⟨r, hr⟩ := hcom.rel i ho hi (by omega); ⟨r, hr.appTail (hr.by_.book hdk _ _ hbk hd) hbk⟩) (fun ho _ => hO.finRely _ _ _ (hO.wgRW _ _ _ hAs l1 l2) (hcom.fin i ho hi (by omega))) (low_bk hO hbk) hmt hwg' hmode' hacq' (by rw [hst, hfu]; exact hlt)
  have book : ∀ {g' : Goroutine} {w' : World} {es : Array Event} {s' m' dd' : Nat} {st' sm' : Int}, stepG C.P false g w = .go g' w' es → Aside C.Wg w w' → WgAt C.ty C.Wg w' st' sm' → (∀ e ∈ es, Bk C.Wg e) →
      (∀ jx e, es[jx]? = some e → (MemAct.ofEvent e).touch? = none ∨ 0 < deafBehind dd (es.extract 0 jx)) → WS C (i + 1) s' m' dd' g' w' → deafBehind dd es = dd' → s ≤ 6 → (i < C.old → s' = 1) → (i < C.old → ∀ e ∈ es, (MemAct.ofEvent e).touch? = none) →
      ConcN.Mode j (upd D i ⟨s', m', dd'⟩) tag st' sm' → (tag = .ret → AcqAll C (t ++ MemOp.ofEvents (i + 1) g.frame.fn g.frame.place es)) → ((s' < s ∧ cnt ⟨s', m', dd'⟩ ≤ cnt (D i)) ∨ (s' = s ∧ m' + 1 = m)) →
      ∃ m₁ ops μ', runT C.P (crowd gs w sl) (i + 1) = (.next m₁, ops) ∧ Lt2 μ' (phi C.last (Vc j D) tag + Ssum j D, f0 + 2 * Fsum j D) ∧ Inv C Head Anch μ' m₁ (t ++ ops) :=
    fun hgo hAs hwg' hbk hd hs' hdd h6 hold hmt hmode' hacq' hlt => bookG hgo hAs hwg' hbk hd hs' hdd h6 hold hmt (fun _ ht _ => hmode'.retag ht) hacq' hlt
  have idle : ∀ {g' : Goroutine} {m' : Nat}, (∀ w, stepG C.P false g w = .go g' w #[]) → WS C (i + 1) s m' dd g' w → m' + 1 = m → s ≤ 6 → s ≠ 1 →
      ∃ m₁ ops μ', runT C.P (crowd gs w sl) (i + 1) = (.next m₁, ops) ∧ Lt2 μ' (phi C.last (Vc j D) tag + Ssum j D, f0 + 2 * Fsum j D) ∧ Inv C Head Anch μ' m₁ (t ++ ops) := by
    intro g' m' hgo hs' hm h6 h1
    exact book (hgo w) (.refl C.Wg w) hwg (by simp) (by simp) hs' rfl h6 (fun hlt => by have := young h1; omega) (fun _ => by simp) (by have := hmode.same (i := i) m' dd; rwa [hst] at this) (fun e => absurd e (nr h1)) (.inr ⟨rfl, hm⟩)
  have one : ∀ {x : Event} (jx : Nat) (e : Event), (#[x] : Array Event)[jx]? = some e → (MemAct.ofEvent e).touch? = none ∨ 0 < deafBehind 1 ((#[x] : Array Event).extract 0 jx) := by
    intro x jx e he
    match jx, he with
    | 0, _ => exact .inr (by simp [deafBehind])
    | jx + 1, he => simp at he
  cases hs with
  | s7 h =>
    rcases Goes.cases h with hstop | ⟨m', rfl, hstep⟩
    · obtain ⟨_, hfin, g', hgo, m₂, hk⟩ := hstop w (hO.rwRefl _ w)
      exact workerStep hO hH hA ha hcs hcom hi hg (hgo w) (hO.rcRefl w) (fun k _ => hO.rwRefl k w) (.s6 hk) (okW_mute (by intro e he; simp at he; subst he; rfl)) (by intro e he; simp at he; subst he; simp [mk]) (by rw [hde]; rfl)
        (fun hlt => by have := young (by omega); omega) (fun _ _ => ⟨t.size, Rel.new hdk _ _⟩) (fun _ _ => hfin) (by intro e he; simp at he; subst he; exact hO.wgB) (fun hlt => by have := young (by omega); omega) hwg (fun _ ht _ => (hmode.counted hi (by omega) (.inl rfl) _ _).retag ht) (fun e => absurd e (nr (by omega))) (.inl ⟨by omega, by simp [cnt, hst]⟩)
    · obtain ⟨g', w', es, hgo, hD, hg'⟩ := hstep w (hO.rwRefl _ w)
      have hev := hO.dwEv _ _ _ _ hD
      exact workerStep hO hH hA ha hcs hcom hi hg hgo (hO.dwRC _ _ _ _ hD) (fun k e => hO.dwRW _ _ _ _ _ hD e) (.s7 hg') (okW_of hev) (fun e he => (hev e he).2.2.2.1)
        (by rw [hde]; exact deafBehind_idle (fun e he => ⟨(hev e he).2.1, (hev e he).2.2.1⟩) 0) (fun hlt => by have := young (by omega); omega) (fun _ h => by omega) (fun _ h => by omega) (fun e he => (hev e he).2.2.2.2) (fun hlt => by have := young (by omega); omega) (hwg.of_block (hO.dwWg _ _ _ _ hD))
        (fun _ ht _ => ConcN.Mode.retag (by have := hmode.same (i := i) m' 0; rwa [hst] at this) ht) (fun e => absurd e (nr (by omega))) (.inr ⟨hst.symm, by omega⟩)
  | s6 h =>
    rcases h.cases with hstop | ⟨m', rfl, g', hgo, hg'⟩
    · obtain ⟨_, g', hgo, m₂, hk⟩ := hstop
      exact book (hgo w) (.refl C.Wg w) hwg bk_dis (by intro jx e he; exact .inl (by have := Array.mem_of_getElem? he; simp at this; subst this; rfl)) (.s5 hk) rfl (by omega) (fun hlt => by have := young (by omega); omega) (fun hlt => by have := young (by omega); omega)
        (hmode.counted hi (by omega) (.inr rfl) _ _) (fun e => absurd e (nr (by omega))) (.inl ⟨by omega, by simp [cnt, hst]⟩)
    · exact idle hgo (.s6 hg') rfl (by omega) (by omega)
  | s5 h =>
    rcases h.cases with hstop | ⟨m', rfl, g', hgo, hg'⟩
    · obtain ⟨_, hall⟩ := hstop
      have hc1 : cnt (D i) = 1 := by simp [cnt, hst]
      have hV1 : 1 ≤ Vc j D := by have := le_sumTo (f := fun x => cnt (D x)) hi; simp only [Vc]; omega
      have df2 : ∀ jx e, (#[rd (stA C.Wg), wr (stA C.Wg)] : Array Event)[jx]? = some e → (MemAct.ofEvent e).touch? = none ∨ 0 < deafBehind 1 ((#[rd (stA C.Wg), wr (stA C.Wg)] : Array Event).extract 0 jx) := by
        intro jx e he
        match jx, he with
        | 0, _ => exact .inr (by simp [deafBehind])
        | 1, _ => exact .inr (by simp [deafBehind, rd])
        | jx + 2, he => simp at he
      have hq0 : ∀ q, cnt (⟨1, q, 1⟩ : WD) = 0 := fun _ => rfl
      have opq : ∀ q, OpenSt j D → OpenSt j (upd D i ⟨1, q, 1⟩) := fun q h a ha => by
        by_cases e : a = i
        · subst e; rw [upd_same]; simp
        · rw [upd_ne D _ e]; exact h a ha
      have yng := young (by omega)
      cases hmode with
      | opn h1 h2 h3 =>
        obtain ⟨v, hv⟩ : ∃ v, Vc j D + pend tag = v + 1 := ⟨Vc j D + pend tag - 1, by omega⟩
        rw [hv] at hwg
        have hw1 : WgAt C.ty C.Wg w (((v : Nat) + 1) * KK + ((0 : Nat) : Int)) 0 := by simpa using hwg
        obtain ⟨g', hgo, _, hq⟩ := hall w v 0 (by omega) (by omega) hw1
        obtain ⟨q, hq⟩ := hq (by omega)
        have hv' : Vc j (upd D i ⟨1, q, 1⟩) + pend tag = v := by have := Vc_upd D (⟨1, q, 1⟩ : WD) hi; have := hq0 q; omega
        refine book hgo (aside_setCell w (stA C.Wg) _) (hwg.setSt _) bk_rw df2 (.quit hq) rfl (by omega) (fun hlt => by omega) (fun hlt => by omega) ?_ (fun e => absurd e (nr (by omega))) (.inl ⟨by omega, by simp [cnt]⟩)
        have e : ((v : Nat) : Int) * KK + ((0 : Nat) : Int) = ((Vc j (upd D i ⟨1, q, 1⟩) + pend tag : Nat) : Int) * KK := by rw [hv']; simp
        rw [e]
        exact .opn h1 (opq q h2) (fun vs ev => by have := h3 vs ev; omega)
      | reg h1 h2 h3 =>
        obtain ⟨v, hv⟩ : ∃ v, Vc j D = v + 1 := ⟨Vc j D - 1, by omega⟩
        rw [hv] at hwg
        have hw1 : WgAt C.ty C.Wg w (((v : Nat) + 1) * KK + ((1 : Nat) : Int)) 0 := by simpa using hwg
        obtain ⟨g', hgo, hlast, hq⟩ := hall w v 1 (by omega) (by omega) hw1
        by_cases v0 : v = 0
        · subst v0
          obtain ⟨m₂, hk⟩ := hlast ⟨rfl, rfl⟩
          refine book hgo (aside_setCell w (stA C.Wg) _) (hwg.setSt _) bk_rw df2 (.s4 hk) rfl (by omega) (fun hlt => by omega) (fun hlt => by omega) ?_ (fun e => absurd e (nr (by omega))) (.inl ⟨by omega, by simp [cnt]⟩)
          have hoth : ∀ a, a < j → a ≠ i → (D a).stage = 1 := fun a ha e => by
            have c0 := others_uncounted hi hv hc1 a ha e
            have := h2 a ha
            simp only [cnt] at c0
            split at c0 <;> omega
          have := ConcN.Mode.last (j := j) (D := upd D i ⟨4, m₂, 1⟩) (tag := tag) i h1 hi (by rw [upd_same]; simp) (fun a ha e => by rw [upd_ne D _ e]; exact hoth a ha e)
          rw [upd_same] at this
          simpa using this
        · obtain ⟨q, hq⟩ := hq (by omega)
          have hv' : Vc j (upd D i ⟨1, q, 1⟩) = v := by have := Vc_upd D (⟨1, q, 1⟩ : WD) hi; have := hq0 q; omega
          refine book hgo (aside_setCell w (stA C.Wg) _) (hwg.setSt _) bk_rw df2 (.quit hq) rfl (by omega) (fun hlt => by omega) (fun hlt => by omega) ?_ (fun e => absurd e (nr (by omega))) (.inl ⟨by omega, by simp [cnt]⟩)
          have e : ((v : Nat) : Int) * KK + ((1 : Nat) : Int) = ((Vc j (upd D i ⟨1, q, 1⟩) : Nat) : Int) * KK + 1 := by rw [hv']; simp
          rw [e]
          exact .reg h1 (opq q h2) (by omega)
      | last L _ h2 h3 h4 =>
        by_cases e : i = L
        · subst e; omega
        · have := h4 i hi e; omega
      | sema h2 => have := h2 i hi; omega
      | fin _ h2 => have := h2 i hi; omega
    · exact idle hgo (.s5 hg') rfl (by omega) (by omega)
  | s4 h =>
    rcases h.cases with hstop | ⟨m', rfl, g', hgo, hg'⟩
    · obtain ⟨_, hx⟩ := hstop
      obtain ⟨hW3, hoth, rfl, rfl⟩ := hmode.isLast hi (by omega)
      simp only [hst] at hwg
      obtain ⟨g', hgo, m₂, hk⟩ := hx w (by simpa using hwg)
      have yng := young (by omega)
      refine book hgo (.refl C.Wg w) hwg bk_rd one (.s3 hk) rfl (by omega) (fun hlt => by omega) (fun hlt => by omega) ?_ (fun e => absurd e (nr (by omega))) (.inl ⟨by omega, by simp [cnt]⟩)
      have := ConcN.Mode.last (j := j) (D := upd D i ⟨3, m₂, 1⟩) (tag := tag) i hW3 hi (by rw [upd_same]; simp) (fun a ha e => by rw [upd_ne D _ e]; exact hoth a ha e)
      rw [upd_same] at this
      simpa using this
    · exact idle hgo (.s4 hg') rfl (by omega) (by omega)
  | s3 h =>
    rcases h.cases with hstop | ⟨m', rfl, g', hgo, hg'⟩
    · obtain ⟨_, hx⟩ := hstop
      obtain ⟨hW3, hoth, rfl, rfl⟩ := hmode.isLast hi (by omega)
      simp only [hst] at hwg
      obtain ⟨g', hgo, m₂, hk⟩ := hx w (by simpa using hwg)
      have yng := young (by omega)
      refine book hgo (aside_setCell w (stA C.Wg) _) (hwg.setSt 0) bk_wr one (.s2 hk) rfl (by omega) (fun hlt => by omega) (fun hlt => by omega) ?_ (fun e => absurd e (nr (by omega))) (.inl ⟨by omega, by simp [cnt]⟩)
      have := ConcN.Mode.last (j := j) (D := upd D i ⟨2, m₂, 1⟩) (tag := tag) i hW3 hi (by rw [upd_same]; simp) (fun a ha e => by rw [upd_ne D _ e]; exact hoth a ha e)
      rw [upd_same] at this
      simpa using this
    · exact idle hgo (.s3 hg') rfl (by omega) (by omega)
  | s2 h =>
    rcases h.cases with hstop | ⟨m', rfl, g', hgo, hg'⟩
    · obtain ⟨_, hmw, hx⟩ := hstop
      obtain ⟨hW3, hoth, rfl, rfl⟩ := hmode.isLast hi (by omega)
      simp only [hst] at hwg
      obtain ⟨g', hgo, q, hq⟩ := hx w (by simpa using hwg)
      have yng := young (by omega)
      have hrun' : g'.status = .running := by
        cases q with
        | zero => exact absurd hq.2 (by decide)
        | succ q => exact hq.elim (fun x => absurd x.2 (by decide)) (fun x => x.1)
      refine bookG hgo (aside_setCell w (smA C.Wg) _) (hwg.setSm 1) bk_sem ?_ (.quit hq) (by simp [deafBehind, semEvents]) (by omega) (fun hlt => by omega) (fun hlt => by omega) ?_ (fun e => absurd e (nr (by omega))) (.inl ⟨by omega, by simp [cnt]⟩)
      · intro jx e he
        match jx, he with
        | 0, he => simp [semEvents] at he; subst he; exact .inl rfl
        | 1, _ => exact .inr (by simp [deafBehind, semEvents])
        | 2, _ => exact .inr (by simp [deafBehind, semEvents])
        | 3, he => simp [semEvents] at he; subst he; exact .inl rfl
        | jx + 4, he => simp [semEvents] at he
      · intro tag' ht hw
        have hnb := hw hmw hrun'
        have e3 : tag' = .w3 := by
          rcases ht with rfl | ⟨_, rfl⟩
          · cases tag' <;> first | rfl | exact hW3.elim | exact absurd rfl hnb
          · rfl
        subst e3
        simp only [if_true]
        exact .sema fun a ha => by
          by_cases e : a = i
          · subst e; rw [upd_same]
          · rw [upd_ne D _ e]; exact hoth a ha e
    · exact idle hgo (.s2 hg') rfl (by omega) (by omega)
  | quit h =>
    cases m with
    | zero => rw [h.1] at hrun; cases hrun
    | succ q =>
      rcases h with ⟨hf, _⟩ | ⟨_, g', es, hmute, hstep, hq⟩
      · rw [hf] at hrun; cases hrun
      · have hbk : ∀ e ∈ es, Bk C.Wg e := fun e he => bk_of_mute (hmute e he)
        have hno : ∀ e ∈ es, (MemAct.ofEvent e).touch? = none := fun e he => touch_mute (hmute e he)
        have hno' : ∀ jx e, es[jx]? = some e → (MemAct.ofEvent e).touch? = none ∨ 0 < deafBehind dd (es.extract 0 jx) := fun jx e he => .inl (hno e (Array.mem_of_getElem? he))
        have hm' : ConcN.Mode j (upd D i ⟨1, q, deafBehind dd es⟩) tag st sm := by have := hmode.same (i := i) q (deafBehind dd es); rwa [hst] at this
        refine workerStep hO hH hA ha hcs hcom hi hg (hstep w) (hO.rcRefl w) (fun k _ => hO.rwRefl k w) (.quit hq) (okW_mute hno) (norel_of_Bk hbk) (by rw [hde]) (fun _ => rfl)
          (fun ho _ => let ⟨r, hr⟩ := hcom.rel i ho hi (by omega); ⟨r, hr.appTail (hr.by_.book hdk _ _ hbk hno') hbk⟩) (fun ho _ => hcom.fin i ho hi (by omega)) (low_bk hO hbk) (fun _ => hno) hwg (fun _ ht _ => hm'.retag ht) (fun e => (hacq e).app fun i' r ho hi' hr => ?_) (.inr ⟨hst.symm, by omega⟩)
        by_cases e' : i' = i
        · subst e'; exact hr.appTail (hr.by_.book hdk _ _ hbk hno') hbk
        · exact hr.appOther g_of_ofEvents (by omega)
end
end Go.Proofs.Ytlpfogkfjjbklac.Crew
namespace Go.Proofs.Ytlpfogkfjjbklac.Crew
open Go.Conc Go.ConcN
open Go.ConcR (KK wgBlock WgAt stA smA rd wr mk Bk g_of_ofEvents bk_of_mute ofEvent_loc_mark ofEvent_mk ofEvent_cell again_blocked)
set_option linter.unusedVariables false
set_option linter.unusedSectionVars false
variable {C : Crew} {Head Anch : Goroutine → World → Prop}
section
variable {gs : Array Goroutine} {w w' : World} {sl : Option (Nat × Nat)} {j : Nat} {D : Nat → WD} {tag tag' : CTag} {f0 f' d0 : Nat} {a a' : Goroutine} {t : Trace} {st sm st' sm' : Int} {es : Array Event}

/-- What is to be shown of a step of the starter's. -/
abbrev Onward (C : Crew) (Head Anch : Goroutine → World → Prop) (gs : Array Goroutine) (w : World) (sl : Option (Nat × Nat)) (t : Trace) (μ : Nat × Nat) : Prop :=
  ∃ m₁ ops μ', runT C.P (crowd gs w sl) 0 = (.next m₁, ops) ∧ Lt2 μ' μ ∧ Inv C Head Anch μ' m₁ (t ++ ops)

theorem w1Step (hO : Ok C) (ha : gs[0]? = some a) (hcom : Com C C.last gs w t D 1) (hwg : WgAt C.ty C.Wg w st sm) (hmode : ConcN.Mode C.last D .w1 st sm)
    (h : Goes C.P true C.RC (C.DC C.last) (AtW1 C Head Anch) f0 a w) : Onward C Head Anch gs w sl t (phi C.last (Vc C.last D) .w1 + Ssum C.last D, f0 + 2 * Fsum C.last D) := by
  rcases Goes.cases h with hstop | ⟨m', rfl, hstep⟩
  · obtain ⟨_, hall⟩ := hstop w (hO.rcRefl w)
    obtain ⟨ho, rfl, rfl, _⟩ := hmode.open_inv trivial
    have hV := vc_new hcom.gone hcom.le
    have hen := hO.enough
    obtain ⟨a', hgo, h0, hne⟩ := hall (Vc C.last D) (by omega) (by simpa [pend] using hwg)
    by_cases hv : Vc C.last D = 0
    · obtain ⟨m₂, hk⟩ := h0 hv
      refine bookC hO ha hcom hwg hgo (.refl C.Wg w) hwg bk_rd (tag' := .ke) (.ke hk) ?_ (by simp) (.inl (by simp only [phi]; omega))
      have e : ((Vc C.last D + pend .w1 : Nat) : Int) * KK = 0 := by rw [hv]; simp [pend]
      rw [e]
      exact .fin trivial (allQuit_of ho hv)
    · obtain ⟨m₂, hk⟩ := hne hv
      exact bookC hO ha hcom hwg hgo (.refl C.Wg w) hwg bk_rd (tag' := .w2 (Vc C.last D)) (.w2 hk) (hmode.reopen trivial trivial rfl (fun vs e => by cases e; omega)) (by simp) (.inl (by simp only [phi]; omega))
  · obtain ⟨a', w', es, hgo, hD, hg'⟩ := hstep w (hO.rcRefl w)
    exact idleC hO ha hcom hwg hmode (by simp) hgo hD (.w1 hg') (by omega)

/-- The go statement. -/
theorem goStep (hO : Ok C) (ha : gs[0]? = some a) {r : Nat} (hr : r < C.last - C.old) (hcom : Com C (C.last - (r + 1)) gs w t D 0) (hwg : WgAt C.ty C.Wg w st sm) (hmode : ConcN.Mode (C.last - (r + 1)) D (.sp r 2) st sm)
    (h : AtGo C (C.last - (r + 1)) (Spawns C (Waits C Head) r) a w) : Onward C Head Anch gs w sl t (phi C.last (Vc (C.last - (r + 1)) D) (.sp r 2) + Ssum (C.last - (r + 1)) D, f0 + 2 * Fsum (C.last - (r + 1)) D) := by
  obtain ⟨_, a', child, hsp, ⟨m₂, hwk⟩, hnext⟩ := h
  obtain ⟨ho, rfl, rfl, _⟩ := hmode.open_inv trivial
  have hV := Vc_le (C.last - (r + 1)) D
  have hrun' := runT_crowd_spawn (P := C.P) (sl := sl) (i := 0) ha (by simpa using hsp)
  rw [hcom.size] at hrun'
  have hcom' := hcom.spawn hO (a' := a') (x := { g := 0, fn := a.frame.fn, pos := a.frame.place, act := .go (C.last - (r + 1) + 1) }) (y := { g := C.last - (r + 1) + 1, fn := child.frame.fn, pos := a.frame.place, act := .start }) ⟨rfl, rfl⟩ ⟨rfl, rfl⟩ hwk
  have eV : Vc (C.last - (r + 1) + 1) (upd D (C.last - (r + 1)) ⟨7, m₂, 0⟩) = Vc (C.last - (r + 1)) D + 1 := by
    simp only [Vc, sumTo, upd_same]
    rw [sumTo_upd_out D _ cnt (Nat.le_refl _)]; rfl
  have eS : Ssum (C.last - (r + 1) + 1) (upd D (C.last - (r + 1)) ⟨7, m₂, 0⟩) = Ssum (C.last - (r + 1)) D + 7 := by
    simp only [Ssum, sumTo, upd_same]
    rw [sumTo_upd_out D _ WD.stage (Nat.le_refl _)]
  have ho' : OpenSt (C.last - (r + 1) + 1) (upd D (C.last - (r + 1)) ⟨7, m₂, 0⟩) := fun i hi => by
    by_cases e : i = C.last - (r + 1)
    · subst e; rw [upd_same]; simp
    · rw [upd_ne D _ e]; exact ho i (by omega)
  have ha' : ((gs.setIfInBounds 0 a').push child)[0]? = some a' := by
    rw [Array.getElem?_push_lt (by simp [hcom.size]), ← Array.getElem?_eq_getElem]
    simp [hcom.size]
  have ej : C.last - (r + 1) + 1 = C.last - r := by omega
  rw [ej] at hrun' hcom' eV eS ho'
  have est : ∀ tag', pend tag' = 0 → ((Vc (C.last - (r + 1)) D + pend (.sp r 2) : Nat) : Int) * KK = ((Vc (C.last - r) (upd D (C.last - (r + 1)) ⟨7, m₂, 0⟩) + pend tag' : Nat) : Int) * KK := fun tag' hp => by rw [eV, hp]; simp [pend]
  cases r with
  | zero =>
    obtain ⟨m₃, hk⟩ := hnext
    simp only [Nat.sub_zero] at hrun' hcom' eV eS ho' est
    refine ⟨_, _, (phi C.last (Vc C.last (upd D (C.last - (0 + 1)) ⟨7, m₂, 0⟩)) .kd + Ssum C.last (upd D (C.last - (0 + 1)) ⟨7, m₂, 0⟩), m₃ + 2 * Fsum C.last (upd D (C.last - (0 + 1)) ⟨7, m₂, 0⟩)), hrun', Prod.Lex.left _ _ (by simp only [phi]; omega),
      _, w, sl, C.last, _, .kd, m₃, 0, a', _, _, rfl, ha', .kd hk, hcom', hwg, ?_, by simp, rfl⟩
    rw [est .kd rfl]
    exact .opn trivial ho' (by simp)
  | succ r' =>
    obtain ⟨m₃, hk⟩ := hnext
    refine ⟨_, _, (phi C.last (Vc (C.last - (r' + 1)) (upd D (C.last - (r' + 1 + 1)) ⟨7, m₂, 0⟩)) (.sp r' 5) + Ssum (C.last - (r' + 1)) (upd D (C.last - (r' + 1 + 1)) ⟨7, m₂, 0⟩), m₃ + 2 * Fsum (C.last - (r' + 1)) (upd D (C.last - (r' + 1 + 1)) ⟨7, m₂, 0⟩)), hrun', Prod.Lex.left _ _ (by simp only [phi]; omega),
      _, w, sl, C.last - (r' + 1), _, .sp r' 5, m₃, 0, a', _, _, rfl, ha', .sdi (by omega) hk, hcom', hwg, ?_, by simp, rfl⟩
    rw [est (.sp r' 5) rfl]
    exact .opn trivial ho' (by simp)

set_option maxHeartbeats 1000000 in
theorem stepCaller (hO : Ok C) (hHd : ∀ g w, Head g w → ∃ m, Goes C.P true C.RC (C.DC C.last) (AtW1 C Head Anch) m g w)
    (ha : gs[0]? = some a) (hcs : CS C Head Anch tag j f0 d0 a w) (hcom : Com C j gs w t D d0) (hwg : WgAt C.ty C.Wg w st sm) (hmode : ConcN.Mode j D tag st sm) (hacq : tag = .ret → AcqAll C t) (hrun : a.status = .running) :
    (tag = .ret ∧ Anch a w) ∨ Onward C Head Anch gs w sl t (phi C.last (Vc j D) tag + Ssum j D, f0 + 2 * Fsum j D) := by
  have hnew := vc_new hcom.gone hcom.le
  have hen := hO.enough
  have hol := hO.oldLast
  cases hcs with
  | sdi hr h =>
    rcases Goes.cases h with hstop | ⟨m', rfl, hstep⟩
    · obtain ⟨_, a', hgo, m₂, hk⟩ := hstop w (hO.rcRefl w)
      exact .inr (bookC hO ha hcom hwg hgo (.refl C.Wg w) hwg bk_dis (.sad hr hk) (hmode.reopen trivial trivial rfl (by simp)) (by simp) (.inl (by simp only [phi]; omega)))
    · obtain ⟨a', w', es, hgo, hD, hg'⟩ := hstep w (hO.rcRefl w)
      exact .inr (idleC hO ha hcom hwg hmode (by simp) hgo hD (.sdi hr hg') (by omega))
  | sad hr h =>
    rename_i r
    rcases Goes.cases h with hstop | ⟨m', rfl, hstep⟩
    · obtain ⟨_, hall⟩ := hstop w (hO.rcRefl w)
      obtain ⟨ho, rfl, rfl, _⟩ := hmode.open_inv trivial
      obtain ⟨a', hgo, m₂, hk⟩ := hall (Vc (C.last - (r + 1)) D) (by omega) (by simpa [pend] using hwg)
      refine .inr (bookC hO ha hcom hwg hgo (aside_setCell w (stA C.Wg) _) (hwg.setSt _) bk_rw (.sen hr hk) ?_ (by simp) (.inl (by simp only [phi]; omega)))
      have e : (((Vc (C.last - (r + 1)) D : Nat) : Int) + 1) * KK = ((Vc (C.last - (r + 1)) D + pend (.sp r 3) : Nat) : Int) * KK := by simp [pend]
      rw [e]
      exact .opn trivial ho (by simp)
    · obtain ⟨a', w', es, hgo, hD, hg'⟩ := hstep w (hO.rcRefl w)
      exact .inr (idleC hO ha hcom hwg hmode (by simp) hgo hD (.sad hr hg') (by omega))
  | sen hr h =>
    rcases Goes.cases h with hstop | ⟨m', rfl, hstep⟩
    · obtain ⟨_, a', hgo, m₂, hk⟩ := hstop w (hO.rcRefl w)
      exact .inr (bookC hO ha hcom hwg hgo (.refl C.Wg w) hwg bk_en (.sgo hr hk) (hmode.reopen trivial trivial rfl (by simp)) (by simp) (.inl (by simp only [phi]; omega)))
    · obtain ⟨a', w', es, hgo, hD, hg'⟩ := hstep w (hO.rcRefl w)
      exact .inr (idleC hO ha hcom hwg hmode (by simp) hgo hD (.sen hr hg') (by omega))
  | sgo hr h =>
    rcases Goes.cases h with hstop | ⟨m', rfl, hstep⟩
    · exact .inr (goStep hO ha hr hcom hwg hmode (hstop w (hO.rcRefl w)))
    · obtain ⟨a', w', es, hgo, hD, hg'⟩ := hstep w (hO.rcRefl w)
      exact .inr (idleC hO ha hcom hwg hmode (by simp) hgo hD (.sgo hr hg') (by omega))
  | kd h =>
    rcases Goes.cases h with hstop | ⟨m', rfl, hstep⟩
    · obtain ⟨_, a', hgo, m₂, hk⟩ := hstop w (hO.rcRefl w)
      exact .inr (bookC hO ha hcom hwg hgo (.refl C.Wg w) hwg bk_dis (.anch hk) (hmode.reopen trivial trivial rfl (by simp)) (by simp) (.inl (by simp only [phi]; omega)))
    · obtain ⟨a', w', es, hgo, hD, hg'⟩ := hstep w (hO.rcRefl w)
      exact .inr (idleC hO ha hcom hwg hmode (by simp) hgo hD (.kd hg') (by omega))
  | anch h =>
    rcases Goes.cases h with hstop | ⟨m', rfl, hstep⟩
    · obtain ⟨m₂, hk⟩ := hHd a w (hstop w (hO.rcRefl w))
      obtain ⟨m₁, ops, μ', h1, h2, h3⟩ := w1Step (sl := sl) hO ha hcom hwg (hmode.reopen trivial trivial rfl (by simp)) hk
      exact .inr ⟨m₁, ops, μ', h1, lt2_trans h2 (Prod.Lex.left _ _ (by simp only [phi]; omega)), h3⟩
    · obtain ⟨a', w', es, hgo, hD, hg'⟩ := hstep w (hO.rcRefl w)
      exact .inr (idleC hO ha hcom hwg hmode (by simp) hgo hD (.anch hg') (by omega))
  | w1 h => exact .inr (w1Step hO ha hcom hwg hmode h)
  | w2 h =>
    rename_i vs
    rcases Goes.cases h with hstop | ⟨m', rfl, hstep⟩
    · obtain ⟨_, hall⟩ := hstop w (hO.rcRefl w)
      obtain ⟨ho, rfl, rfl, hw2⟩ := hmode.open_inv trivial
      obtain ⟨hle, h1⟩ := hw2 vs rfl
      obtain ⟨hhit, hmiss⟩ := hall (Vc C.last D) (by omega) (by simpa [pend] using hwg)
      by_cases e : Vc C.last D = vs
      · obtain ⟨a', hgo, m₂, hk⟩ := hhit e
        exact .inr (bookC hO ha hcom hwg hgo (aside_setCell w (stA C.Wg) _) (hwg.setSt _) bk_rw (.w3 hk) (.reg trivial ho (by omega)) (by simp) (.inl (by simp only [phi]; omega)))
      · obtain ⟨a', hgo, m₂, hk⟩ := hmiss e
        exact .inr (bookC hO ha hcom hwg hgo (.refl C.Wg w) hwg bk_rd (.anch hk) (hmode.reopen trivial trivial rfl (by simp)) (by simp) (.inl (by simp only [phi]; omega)))
    · obtain ⟨a', w', es, hgo, hD, hg'⟩ := hstep w (hO.rcRefl w)
      exact .inr (idleC hO ha hcom hwg hmode (by simp) hgo hD (.w2 hg') (by omega))
  | w3 h =>
    rcases Goes.cases h with hstop | ⟨m', rfl, hstep⟩
    · obtain ⟨_, hoff, hblk, htake⟩ := hstop w (hO.rcRefl w)
      cases hmode with
      | opn h1 _ _ => exact h1.elim
      | reg h1 h2 h3 => exact .inr (bookC hO ha hcom hwg (hblk ⟨_, hwg⟩) (.refl C.Wg w) hwg (by simp) (.blk hstop) (.reg trivial h2 h3) (by simp) (.inr ⟨rfl, by omega⟩))
      | last L h1 h2 h3 h4 => exact .inr (bookC hO ha hcom hwg (hblk ⟨_, hwg⟩) (.refl C.Wg w) hwg (by simp) (.blk hstop) (.last L trivial h2 h3 h4) (by simp) (.inr ⟨rfl, by omega⟩))
      | sema h2 =>
        obtain ⟨a', hgo, m₂, hk⟩ := htake hwg
        exact .inr (bookC hO ha hcom hwg hgo (aside_setCell w (smA C.Wg) _) (hwg.setSm 0) bk_sem (.w4 hk) (.fin trivial h2) (by simp) (.inl (by simp only [phi]; omega)))
      | fin h1 _ => exact h1.elim
    · obtain ⟨a', w', es, hgo, hD, hg'⟩ := hstep w (hO.rcRefl w)
      exact .inr (idleC hO ha hcom hwg hmode (by simp) hgo hD (.w3 hg') (by omega))
  | blk h => simp at hrun
  | w4 h =>
    rcases Goes.cases h with hstop | ⟨m', rfl, hstep⟩
    · obtain ⟨_, hx⟩ := hstop w (hO.rcRefl w)
      obtain ⟨hq, rfl, rfl⟩ := hmode.fin_inv trivial
      obtain ⟨a', hgo, m₂, hk⟩ := hx hwg
      exact .inr (bookC hO ha hcom hwg hgo (.refl C.Wg w) hwg bk_rd (.ke hk) (.fin trivial hq) (by simp) (.inl (by simp only [phi]; omega)))
    · obtain ⟨a', w', es, hgo, hD, hg'⟩ := hstep w (hO.rcRefl w)
      exact .inr (idleC hO ha hcom hwg hmode (by simp) hgo hD (.w4 hg') (by omega))
  | ke h =>
    rcases Goes.cases h with hstop | ⟨m', rfl, hstep⟩
    · obtain ⟨_, a', hgo, m₂, hk⟩ := hstop w (hO.rcRefl w)
      obtain ⟨hq, rfl, rfl⟩ := hmode.fin_inv trivial
      exact .inr (bookC hO ha hcom hwg hgo (.refl C.Wg w) hwg bk_en (.acq hk) (.fin trivial hq) (by simp) (.inl (by simp only [phi]; omega)))
    · obtain ⟨a', w', es, hgo, hD, hg'⟩ := hstep w (hO.rcRefl w)
      exact .inr (idleC hO ha hcom hwg hmode (by simp) hgo hD (.ke hg') (by omega))
  | acq h =>
    rcases Goes.cases h with hstop | ⟨m', rfl, hstep⟩
    · obtain ⟨_, a', hgo, m₂, hk⟩ := hstop w (hO.rcRefl w)
      obtain ⟨hq, rfl, rfl⟩ := hmode.fin_inv trivial
      refine .inr (callerStep hO ha hcom hgo (fun k _ => hO.rwRefl k w) (ok0_mute (by intro e he; simp at he; subst he; rfl)) (by intro e he; simp at he; subst he; simp [mk]) (by intro e he; simp at he; subst he; exact hO.wgB) (.ret hk) hwg (.fin trivial hq) (fun _ => ?_) (.inl (by simp only [phi]; omega)))
      have e1 : MemOp.ofEvents 0 a.frame.fn a.frame.place #[mk (.acquire (stA C.Wg))] = #[{ g := 0, fn := a.frame.fn, pos := a.frame.place, act := .mark (.acquire (stA C.Wg)) }] := by rw [ofEvents_eq]; simp [ofEvent_mk]
      have hy : (t ++ #[({ g := 0, fn := a.frame.fn, pos := a.frame.place, act := .mark (.acquire (stA C.Wg)) } : MemOp)])[t.size]? = some { g := 0, fn := a.frame.fn, pos := a.frame.place, act := .mark (.acquire (stA C.Wg)) } := by simp
      refine ⟨t.size, by rw [e1, act?_of hy], by rw [e1]; simp [Trace.g?], by rw [e1]; exact ⟨0, by simp [Trace.g?], by rw [deaf_old (Nat.le_refl _)]; exact hcom.deaf0⟩, fun i ho hi => ?_⟩
      obtain ⟨r, hr⟩ := hcom.rel i ho hi (by rw [hq i hi]; omega)
      exact ⟨r, hr.appOther g_of_ofEvents (by omega), lt_of_act? hr.by_.act⟩
    · obtain ⟨a', w', es, hgo, hD, hg'⟩ := hstep w (hO.rcRefl w)
      exact .inr (idleC hO ha hcom hwg hmode (by simp) hgo hD (.acq hg') (by omega))
  | ret h =>
    rcases Goes.cases h with hstop | ⟨m', rfl, hstep⟩
    · exact .inl ⟨rfl, hstop w (hO.rcRefl w)⟩
    · obtain ⟨a', w', es, hgo, hD, hg'⟩ := hstep w (hO.rcRefl w)
      exact .inr (idleC hO ha hcom hwg hmode hacq hgo hD (.ret hg') (by omega))

/-- Nobody waits for ever. -/
theorem someone_runs (hO : Ok C) (hH : ∀ g w, Head g w → g.status = .running) (hA : ∀ g w, Anch g w → g.status = .running) (ha : gs[0]? = some a) (hcs : CS C Head Anch tag j f0 d0 a w) (hcom : Com C j gs w t D d0) (hmode : ConcN.Mode j D tag st sm) :
    ∃ (i : Nat) (g : Goroutine), gs[i]? = some g ∧ g.status = .running := by
  rcases hcs.status hO hH hA with ⟨hs, _⟩ | ⟨_, rfl⟩
  · exact ⟨0, a, ha, hs⟩
  · have pick : ∀ i, i < j → (D i).stage ≠ 1 → ∃ (i : Nat) (g : Goroutine), gs[i]? = some g ∧ g.status = .running := fun i hi h1 => by
      obtain ⟨g, hg, hs⟩ := hcom.wk i hi
      exact ⟨i + 1, g, hg, (hs.live hO).elim (fun x => x.2) (fun x => absurd x.1 h1)⟩
    cases hmode with
    | opn h1 _ _ => exact h1.elim
    | reg _ _ h3 =>
      obtain ⟨i, hi, h5⟩ : ∃ i, i < j ∧ 5 ≤ (D i).stage := by
        refine Classical.byContradiction fun hn => ?_
        have := sumTo_le (f := fun i => cnt (D i)) (c := 0) (j := j) fun i hi => by
          simp only [cnt]
          split
          · exact absurd ⟨i, hi, by assumption⟩ hn
          · exact Nat.le_refl _
        simp only [Vc] at h3
        omega
      exact pick i hi (by omega)
    | last L _ h2 h3 _ => exact pick L h2 (by omega)
    | fin h1 _ => exact h1.elim
theorem all_awake (hO : Ok C) (hH : ∀ g w, Head g w → g.status = .running) (hA : ∀ g w, Anch g w → g.status = .running) (ha : gs[0]? = some a) (hcs : CS C Head Anch tag j f0 d0 a w) (hcom : Com C j gs w t D d0) : ∀ g ∈ gs, awake g := by
  intro g hg tm
  obtain ⟨i, hi⟩ := Array.mem_iff_getElem?.1 hg
  cases i with
  | zero =>
    rw [ha] at hi; cases hi
    rcases hcs.status hO hH hA with ⟨hs, _⟩ | ⟨hs, _⟩ <;> rw [hs] <;> simp
  | succ i =>
    have hlt : i < j := by have := (Array.getElem?_eq_some_iff.1 hi).1; rw [hcom.size] at this; omega
    obtain ⟨g', hg', hs⟩ := hcom.wk i hlt
    rw [hi] at hg'; cases hg'
    rcases hs.status hO with h | h <;> rw [h] <;> simp
end

theorem crew_step (hO : Ok C) (hH : ∀ g w, Head g w → g.status = .running) (hA : ∀ g w, Anch g w → g.status = .running) (hAt : ∀ g w d, Anch g (w.at d) → Anch g w) (hHd : ∀ g w, Head g w → ∃ m, Goes C.P true C.RC (C.DC C.last) (AtW1 C Head Anch) m g w) :
    ∀ μ m t, Inv C Head Anch μ m t → Done C Anch m t ∨ (∃ m' ops μ', stepT C.P m = (.next m', ops) ∧ Lt2 μ' μ ∧ Inv C Head Anch μ' m' (t ++ ops)) := by
  rintro μ m t ⟨gs, w, sl, j, D, tag, f0, d0, a, st, sm, rfl, ha, hcs, hcom, hwg, hmode, hacq, rfl⟩
  obtain ⟨i, g, d, sl', hg, hrun, hstep⟩ := crowd_pick (P := C.P) (w := w) (sl := sl) (all_awake hO hH hA ha hcs hcom) (someone_runs hO hH hA ha hcs hcom hmode)
  have hcs' := hcs.rely hO (hO.rcAt w d)
  have hcom' := hcom.at hO d
  have hwg' : WgAt C.ty C.Wg (w.at d) st sm := hwg
  cases i with
  | zero =>
    rw [ha] at hg; cases hg
    rcases stepCaller (sl := sl') hO hHd ha hcs' hcom' hwg' hmode hacq hrun with ⟨rfl, hAn⟩ | h
    · cases hcs with
      | ret h => exact .inl ⟨gs, w, sl, D, a, rfl, ha, hAt _ _ _ hAn, hcom, (hmode.fin_inv trivial).1, hacq rfl⟩
    · rw [hstep]; exact .inr h
  | succ i =>
    have hi : i < j := by have := (Array.getElem?_eq_some_iff.1 hg).1; rw [hcom.size] at this; omega
    rw [hstep]
    exact .inr (stepWorker hO hH hA ha hcs' hcom' hwg' hmode hacq hi hg hrun)

theorem crew_runs (hO : Ok C) (hH : ∀ g w, Head g w → g.status = .running) (hA : ∀ g w, Anch g w → g.status = .running) (hAt : ∀ g w d, Anch g (w.at d) → Anch g w) (hHd : ∀ g w, Head g w → ∃ m, Goes C.P true C.RC (C.DC C.last) (AtW1 C Head Anch) m g w) :
    ∀ μ m t, Inv C Head Anch μ m t → ∃ N m' t', runNT C.P N m t = (.next m', t') ∧ Done C Anch m' t' := by
  intro μ
  induction μ using (Prod.lex Nat.lt_wfRel Nat.lt_wfRel).wf.induction with
  | _ μ ih =>
    intro m t h
    rcases crew_step hO hH hA hAt hHd μ m t h with hd | ⟨m', ops, μ', hs, hlt, h'⟩
    · exact ⟨0, m, t, rfl, hd⟩
    · obtain ⟨N, m₂, t₂, hr, hd⟩ := ih μ' hlt m' (t ++ ops) h'
      exact ⟨N + 1, m₂, t₂, by simp only [runNT, hs]; exact hr, hd⟩
end Go.Proofs.Ytlpfogkfjjbklac.Crew
namespace Go.Proofs.Ytlpfogkfjjbklac.Crew
open Go.Conc Go.ConcN
open Go.ConcR (KK wgBlock WgAt stA smA rd wr mk Bk g_of_ofEvents bk_of_mute ofEvent_loc_mark ofEvent_mk ofEvent_cell again_blocked)
set_option linter.unusedVariables false
set_option linter.unusedSectionVars false

/-- What is held of the trace while goroutine 0 alone acts beside others that only leave. -/
structure Fr (Shun : Loc → Prop) (B : Nat) (t : Trace) (L : Nat) : Prop where
  past : Past Shun B t
  quiet : Quiet Shun t
  known : ∀ i a, touchAt t i = some a → Knows t 0 i ∨ Shun a.loc
  gs : ∀ (i : Nat) (op : MemOp), t[i]? = some op → op.g ≤ L

variable {C : Crew} {Head Anch : Goroutine → World → Prop}

theorem low_cell {B : Nat} {op : MemOp} {x : Touch} {a : Addr} (h : op.act.low B) (hx : op.act.touch? = some x) (hl : x.loc = .cell a) : a.block < B := by
  obtain ⟨g, fn, pos, act⟩ := op
  cases act with
  | access e =>
    obtain ⟨loc, wr, sy⟩ := e
    simp only [MemAct.touch?, Option.some.injEq] at hx
    subst hx
    simp only at hl
    subst hl
    exact h
  | mark m =>
    cases m with
    | read b => simp only [MemAct.touch?, Option.some.injEq] at hx; subst hx; cases hl; exact h
    | write b => simp only [MemAct.touch?, Option.some.injEq] at hx; subst hx; cases hl; exact h
    | _ => cases hx
  | _ => cases hx

section
variable {Shun : Loc → Prop} {B : Nat} {t : Trace}
theorem Fr.ct (hO : Ok C) (hF : Fr Shun B t C.old) (hSh : ∀ l, C.Sh l ↔ Shun l ∨ ∃ ad : Addr, l = .cell ad ∧ ad.block = C.Wg) (hB : B ≤ C.Wg) (hOw : ∀ k l, C.Own k l → C.old < k) (hRd : ∀ k l, C.Rd k l → C.old < k) : CT C.Sh C.Own C.Rd t C.old := by
  have key : ∀ i a, touchAt t i = some a → ¬ C.Sh a.loc → Knows t 0 i := fun i a ha hs => (hF.known i a ha).resolve_right fun h => hs ((hSh _).2 (.inl h))
  refine ⟨fun i op x hi hx hs => ?_, fun k _ hk l hl => ?_, fun k _ hk l hl => ?_, fun l hs _ i a ha e => key i a ha (e ▸ hs), fun l hs _ i a ha e _ => key i a ha (e ▸ hs), hF.past.clean, hF.gs⟩
  · rcases (hSh _).1 hs with h | ⟨ad, hl, hb⟩
    · exact hF.quiet i op x hi hx h
    · have := low_cell (hF.past.seen op (Array.mem_of_getElem? hi)) hx hl
      omega
  · have := hOw k l hl; omega
  · have := hRd k l hl; omega
theorem Fr.norel (hF : Fr Shun B t C.old) (hB : B ≤ C.Wg) : NoRelease (stA C.Wg) t := by
  intro i hi
  obtain ⟨op, ho, hoa⟩ := Option.map_eq_some_iff.1 hi
  have := hF.past.seen op (Array.mem_of_getElem? ho)
  rw [hoa] at this
  have h' : C.Wg < B := this
  omega
theorem Fr.elder (hF : Fr Shun B t C.old) (hSh : ∀ l, C.Sh l ↔ Shun l ∨ ∃ ad : Addr, l = .cell ad ∧ ad.block = C.Wg) : OldK C t := fun i g hg h0 _ =>
  ⟨fun a ha => (hF.known i a ha).imp id fun h => (hSh _).2 (.inl h), fun hc => hF.past.over i g hg h0 hc⟩

/-- The first moment. -/
theorem Fr.inv (hO : Ok C) (hF : Fr Shun B t C.old) (hSh : ∀ l, C.Sh l ↔ Shun l ∨ ∃ ad : Addr, l = .cell ad ∧ ad.block = C.Wg) (hB : B ≤ C.Wg) (hB' : B ≤ C.B) (hOw : ∀ k l, C.Own k l → C.old < k) (hRd : ∀ k l, C.Rd k l → C.old < k)
    {gs : Array Goroutine} {a : Goroutine} {w : World} {q : Nat → Nat} (sl : Option (Nat × Nat)) (h0 : gs[0]? = some a) (hsz : gs.size = C.old + 1) (hL : Leavers C.P t gs q) (hwg : WgAt C.ty C.Wg w 0 0) (hsp : Spawns C (Waits C Head) (C.last - C.old) a w) :
    ∃ μ, Inv C Head Anch μ (crowd gs w sl) t := by
  have hcom : Com C C.old gs w t (fun i => ⟨1, q (i + 1), Deaf t (i + 1)⟩) 0 := by
    refine ⟨hsz, Nat.le_refl _, fun i hi => ?_, fun _ _ => rfl, hF.ct hO hSh hB hOw hRd, hF.norel hB, hF.past.hears, fun _ _ => rfl, fun i ho hi => by omega, fun i ho hi => by omega, fun op hop => MemAct.low_mono hB' (hF.past.seen op hop), hF.elder hSh⟩
    have hlt : i + 1 < gs.size := by omega
    exact ⟨gs[i + 1], Array.getElem?_eq_getElem hlt, .quit (hL.old (i + 1) _ (by omega) (Array.getElem?_eq_getElem hlt))⟩
  have hV : Vc C.old (fun i => (⟨1, q (i + 1), Deaf t (i + 1)⟩ : WD)) = 0 := by
    have := vc_new (D := fun i => (⟨1, q (i + 1), Deaf t (i + 1)⟩ : WD)) (o := C.old) (fun _ _ => rfl) (Nat.le_refl _)
    omega
  have hmode : ∀ tag, isOpen tag → pend tag = 0 → (∀ vs, tag ≠ .w2 vs) → ConcN.Mode C.old (fun i => (⟨1, q (i + 1), Deaf t (i + 1)⟩ : WD)) tag 0 0 := fun tag h1 h2 h3 => by
    have := ConcN.Mode.opn (j := C.old) (D := fun i => (⟨1, q (i + 1), Deaf t (i + 1)⟩ : WD)) h1 (fun i hi => by simp) (fun vs e => absurd e (h3 vs))
    rw [hV, h2] at this
    simpa using this
  have hol := hO.oldLast
  cases hr : C.last - C.old with
  | zero =>
    rw [hr] at hsp
    obtain ⟨m, hk⟩ := hsp
    have e : C.old = C.last := by omega
    have hc : CS C Head Anch .kd C.last m 0 a w := .kd hk
    rw [← e] at hc
    exact ⟨_, gs, w, sl, C.old, _, .kd, m, 0, a, 0, 0, rfl, h0, hc, hcom, hwg, hmode .kd trivial rfl (by simp), by simp, rfl⟩
  | succ r =>
    rw [hr] at hsp
    obtain ⟨m, hk⟩ := hsp
    have e : C.last - (r + 1) = C.old := by omega
    have hc : CS C Head Anch (.sp r 5) (C.last - (r + 1)) m 0 a w := .sdi (by omega) hk
    rw [e] at hc
    exact ⟨_, gs, w, sl, C.old, _, .sp r 5, m, 0, a, 0, 0, rfl, h0, hc, hcom, hwg, hmode (.sp r 5) trivial rfl (by simp), by simp, rfl⟩
end

/-- The last moment. -/
theorem Com.leavers (hO : Ok C) {gs : Array Goroutine} {w : World} {t : Trace} {D : Nat → WD} (h : Com C C.last gs w t D 0) (hq : AllQuit C.last D) : Leavers C.P t gs (fun i => (D (i - 1)).fuel) := by
  refine ⟨fun i g hi hg => ?_, fun j hj => Deaf_absent fun i op hi e => ?_⟩
  · obtain ⟨i', rfl⟩ : ∃ i', i = i' + 1 := ⟨i - 1, by omega⟩
    have hlt : i' < C.last := by have := (Array.getElem?_eq_some_iff.1 hg).1; rw [h.size] at this; omega
    obtain ⟨g', hg', hs⟩ := h.wk i' hlt
    rw [hg] at hg'
    cases hg'
    rw [h.deafW i' hlt]
    rcases hs.live hO with ⟨h1, _⟩ | ⟨_, h2⟩
    · exact absurd (hq i' hlt) h1
    · exact h2
  · have := h.ct.gs i op hi
    rw [h.size] at hj
    omega
theorem Com.frame (hO : Ok C) {gs : Array Goroutine} {w : World} {t : Trace} {D : Nat → WD} (h : Com C C.last gs w t D 0) (hq : AllQuit C.last D) (hacq : AcqAll C t) : Fr C.Sh C.B t C.last := by
  obtain ⟨q, hqa, hqg, hqh, hqr⟩ := hacq
  obtain ⟨z, hz, hzg⟩ := Option.map_eq_some_iff.1 hqg
  -- what a worker did ahead of its release the starter knows
  have hbq : ∀ i k, t.g? i = some k → C.old < k → k ≤ C.last → (∃ r, Rel C t k r ∧ (i ≤ r → HappensBefore t i q)) := by
    intro i k hg hk1 hk2
    obtain ⟨r, hr, hrq⟩ := hqr (k - 1) (by omega) (by omega)
    rw [show k - 1 + 1 = k by omega] at hr
    have edge : HappensBefore t r q := .single (.inr ⟨.marked hrq (.inr hr.by_.act) hqa (fun k _ _ => h.norel k), hr.by_.heard, hqh⟩)
    refine ⟨r, hr, fun hle => ?_⟩
    rcases Nat.lt_or_ge i r with hlt | hge
    · exact .trans (.single (.inl ⟨hlt, k, hg, hr.by_.g⟩)) edge
    · obtain rfl : i = r := by omega
      exact edge
  have known : ∀ i a, touchAt t i = some a → Knows t 0 i ∨ C.Sh a.loc := by
    intro i a ha
    obtain ⟨op, ho, hoa⟩ := touch_of ha
    have hg : t.g? i = some op.g := by simp [Trace.g?, ho]
    have hle := h.ct.gs i op ho
    by_cases h0 : op.g = 0
    · have := knows_own ho; rw [h0] at this; exact .inl this
    rcases Nat.lt_or_ge C.old op.g with hy | hy
    · obtain ⟨r, hr, hb⟩ := hbq i op.g hg hy hle
      rcases Nat.lt_or_ge r i with hlt | hge
      · obtain ⟨ad, hl, hbk⟩ := hr.tail i a hlt hg ha
        rw [hl]; exact .inr (hO.wgSh ad hbk)
      · exact .inl ⟨q, z, hz, hzg, .inr (hb hge)⟩
    · exact (h.elder i op.g hg h0 hy).1 a ha
  refine ⟨⟨h.ct.nr, fun i a ha hm => ?_, fun i g hg h0 hc => ?_, h.deaf0, h.seen⟩, h.ct.quiet, known, h.ct.gs⟩
  · rcases known i a ha with hk | hs
    · exact .inl hk
    · obtain ⟨op, ho, hoa⟩ := touch_of ha
      obtain ⟨hp, hsd⟩ := h.ct.quiet i op a ho hoa hs
      cases hk : a.kind with
      | plain => exact absurd hk hp
      | atomic => exact .inr ⟨hs, rfl⟩
      | said => have := knows_own ho; rw [hsd hk] at this; exact .inl this
  · obtain ⟨op, ho, rfl⟩ := Option.map_eq_some_iff.1 hg
    rcases Nat.lt_or_ge C.old op.g with hy | hy
    · obtain ⟨r, hr, hb⟩ := hbq i op.g hg hy (h.ct.gs i op ho)
      exact ⟨q, hqg, hb (Nat.le_of_not_lt fun hlt => hr.by_.after i hlt hg hc)⟩
    · exact (h.elder i op.g hg h0 hy).2 hc

/-- From a start to behind the wait, on whatever tape. -/
theorem phase {Shun : Loc → Prop} {B : Nat} {t : Trace} (hO : Ok C) (hH : ∀ g w, Head g w → g.status = .running) (hA : ∀ g w, Anch g w → g.status = .running) (hAt : ∀ g w d, Anch g (w.at d) → Anch g w) (hHd : ∀ g w, Head g w → ∃ m, Goes C.P true C.RC (C.DC C.last) (AtW1 C Head Anch) m g w)
    (hSh : ∀ l, C.Sh l ↔ Shun l ∨ ∃ ad : Addr, l = .cell ad ∧ ad.block = C.Wg) (hB : B ≤ C.Wg) (hB' : B ≤ C.B) (hOw : ∀ k l, C.Own k l → C.old < k) (hRd : ∀ k l, C.Rd k l → C.old < k)
    {gs : Array Goroutine} {a : Goroutine} {w : World} {q : Nat → Nat} (sl : Option (Nat × Nat)) (h0 : gs[0]? = some a) (hsz : gs.size = C.old + 1) (hL : Leavers C.P t gs q) (hF : Fr Shun B t C.old) (hwg : WgAt C.ty C.Wg w 0 0) (hsp : Spawns C (Waits C Head) (C.last - C.old) a w) :
    ∃ (N : Nat) (gs' : Array Goroutine) (a' : Goroutine) (w' : World) (sl' : Option (Nat × Nat)) (t' : Trace) (q' : Nat → Nat),
      runNT C.P N (crowd gs w sl) t = (.next (crowd gs' w' sl'), t') ∧ gs'.size = C.last + 1 ∧ gs'[0]? = some a' ∧ Anch a' w' ∧ (∀ i, C.old ≤ i → i < C.last → C.Fin (i + 1) w') ∧ Leavers C.P t' gs' q' ∧ Fr C.Sh C.B t' C.last := by
  obtain ⟨μ, hI⟩ := hF.inv (Head := Head) (Anch := Anch) hO hSh hB hB' hOw hRd sl h0 hsz hL hwg hsp
  obtain ⟨N, m', t', hr, gs', w', sl', D, a', rfl, h0', hAn, hcom, hq, hacq⟩ := crew_runs hO hH hA hAt hHd μ _ _ hI
  exact ⟨N, gs', a', w', sl', t', _, hr, hcom.size, h0', hAn, fun i ho hi => hcom.fin i ho hi (by rw [hq i hi]; omega), hcom.leavers hO hq, hcom.frame hO hq hacq⟩
end Go.Proofs.Ytlpfogkfjjbklac.Crew
