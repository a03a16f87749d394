/-
  Workers that one goroutine starts and waits for, beside others that only leave: what each of them is asked, and what holds of the machine at every moment. What the workers do to memory is left open: each has what it suffers, what it may do, and what holds once it has done.
-/
import Derived.Conc.CrowdStepC
import Derived.Conc.Beside
namespace Go.Proofs.Ytadngncbbbbapaa.Crew
open Go.Conc Go.ConcN
open Go.ConcR (KK wgBlock WgAt stA smA rd wr mk Bk g_of_ofEvents bk_of_mute ofEvent_loc_mark ofEvent_mk again_blocked)
set_option linter.unusedVariables false
set_option linter.unusedSectionVars false

/-- What is fixed: the program, the group's type and block, three families of places, and of worker k: what it suffers, what it may do while it works, what holds once it has done; of the starter: what it suffers, what it may do while j others are there. -/
structure Crew where
  P : Program
  ty : TypeId
  Wg : Nat
  many : Nat
  old : Nat
  last : Nat
  B : Nat
  Sh : Loc → Prop
  Own : Nat → Loc → Prop
  Rd : Nat → Loc → Prop
  RW : Nat → World → World → Prop
  DW : Nat → World → World → Array Event → Prop
  Fin : Nat → World → Prop
  RC : World → World → Prop
  DC : Nat → World → World → Array Event → Prop

variable (C : Crew)
def Live (w : World) : Prop := ∃ st sm, WgAt C.ty C.Wg w st sm
def EvW (k : Nat) (e : Event) : Prop := (∀ fn pos, OkW C.Sh C.Own C.Rd k { g := k, fn, pos, act := .ofEvent e }) ∧ e.loc ≠ .mark .disable ∧ e.loc ≠ .mark .enable ∧ e.loc ≠ .mark (.release (stA C.Wg)) ∧ (MemAct.ofEvent e).low C.B
def Ev0 (j : Nat) (e : Event) : Prop := (∀ fn pos, Ok0 C.Sh C.Own C.Rd j { g := 0, fn, pos, act := .ofEvent e }) ∧ e.loc ≠ .mark .disable ∧ e.loc ≠ .mark .enable ∧ e.loc ≠ .mark (.release (stA C.Wg)) ∧ (MemAct.ofEvent e).low C.B

structure Ok : Prop where
  oldLast : C.old ≤ C.last
  enough : C.last ≤ C.old + C.many
  apart : Apart C.Sh C.Own C.Rd
  wgB : C.Wg < C.B
  wgSh : ∀ a : Addr, a.block = C.Wg → C.Sh (.cell a)
  rwRefl : ∀ k w, C.RW k w w
  rwTrans : ∀ k a b c, C.RW k a b → C.RW k b c → C.RW k a c
  rwAt : ∀ k w d, C.RW k w (w.at d)
  rcRefl : ∀ w, C.RC w w
  rcTrans : ∀ a b c, C.RC a b → C.RC b c → C.RC a c
  rcAt : ∀ w d, C.RC w (w.at d)
  finRely : ∀ k w w', C.RW k w w' → C.Fin k w → C.Fin k w'
  dwRW : ∀ k k' w w' es, C.DW k w w' es → k' ≠ k → C.RW k' w w'
  dwRC : ∀ k w w' es, C.DW k w w' es → C.RC w w'
  dwWg : ∀ k w w' es, C.DW k w w' es → w'.heap[C.Wg]? = w.heap[C.Wg]?
  dwEv : ∀ k w w' es, C.DW k w w' es → ∀ e ∈ es, EvW C k e
  dcRW : ∀ j k w w' es, C.DC j w w' es → k ≤ j → C.RW k w w'
  dcWg : ∀ j w w' es, C.DC j w w' es → w'.heap[C.Wg]? = w.heap[C.Wg]?
  dcEv : ∀ j w w' es, C.DC j w w' es → ∀ e ∈ es, Ev0 C j e
  wgRW : ∀ k w w', Aside C.Wg w w' → Live C w → Live C w' → C.RW k w w'
  wgRC : ∀ w w', Aside C.Wg w w' → Live C w → Live C w' → C.RC w w'

/-! ### A worker -/
/-- Steps that are the same in every world, to a stop. -/
def Still (P : Program) (Stop : Goroutine → Prop) : Nat → Goroutine → Prop
  | 0, g => Stop g
  | n + 1, g => Stop g ∨ (g.status = .running ∧ ∃ g', (∀ w, stepG P false g w = .go g' w #[]) ∧ Still P Stop n g')
def S2 (g : Goroutine) : Prop := g.status = .running ∧ mayWake C.P g = true ∧ ∀ w, WgAt C.ty C.Wg w 0 0 → ∃ g', stepG C.P false g w = .go g' (w.setCell (smA C.Wg) (.int .u32 1)) (semEvents (smA C.Wg)) ∧ ∃ q, QuitsD C.P q 1 g'
def S3 (g : Goroutine) : Prop := g.status = .running ∧ ∀ w, WgAt C.ty C.Wg w 1 0 → ∃ g', stepG C.P false g w = .go g' (w.setCell (stA C.Wg) (.int .u64 0)) #[wr (stA C.Wg)] ∧ ∃ m, Still C.P (S2 C) m g'
def S4 (g : Goroutine) : Prop := g.status = .running ∧ ∀ w, WgAt C.ty C.Wg w 1 0 → ∃ g', stepG C.P false g w = .go g' w #[rd (stA C.Wg)] ∧ ∃ m, Still C.P (S3 C) m g'
def S5 (g : Goroutine) : Prop := g.status = .running ∧ ∀ (w : World) (v wt : Nat), wt ≤ 1 → v < C.many → WgAt C.ty C.Wg w ((v + 1) * KK + wt) 0 →
  ∃ g', stepG C.P false g w = .go g' (w.setCell (stA C.Wg) (.int .u64 (v * KK + wt))) #[rd (stA C.Wg), wr (stA C.Wg)] ∧ ((v = 0 ∧ wt = 1) → ∃ m, Still C.P (S4 C) m g') ∧ (¬ (v = 0 ∧ wt = 1) → ∃ q, QuitsD C.P q 1 g')
def S6 (g : Goroutine) : Prop := g.status = .running ∧ ∃ g', (∀ w, stepG C.P false g w = .go g' w #[mk .disable]) ∧ ∃ m, Still C.P (S5 C) m g'
def S7 (k : Nat) (g : Goroutine) (w : World) : Prop := g.status = .running ∧ C.Fin k w ∧ ∃ g', (∀ w, stepG C.P false g w = .go g' w #[mk (.releaseMerge (stA C.Wg))]) ∧ ∃ m, Still C.P (S6 C) m g'

inductive WS (k : Nat) : Nat → Nat → Nat → Goroutine → World → Prop
  | s7 {m g w} : Goes C.P false (C.RW k) (C.DW k) (S7 C k) m g w → WS k 7 m 0 g w
  | s6 {m g w} : Still C.P (S6 C) m g → WS k 6 m 0 g w
  | s5 {m g w} : Still C.P (S5 C) m g → WS k 5 m 1 g w
  | s4 {m g w} : Still C.P (S4 C) m g → WS k 4 m 1 g w
  | s3 {m g w} : Still C.P (S3 C) m g → WS k 3 m 1 g w
  | s2 {m g w} : Still C.P (S2 C) m g → WS k 2 m 1 g w
  | quit {q d g w} : QuitsD C.P q d g → WS k 1 q d g w

/-! ### The starter -/
section
variable (Head Anch : Goroutine → World → Prop)
local notation "GN" => Goes C.P true C.RC (C.DC C.last)
def AtAcq (g : Goroutine) (w : World) : Prop := g.status = .running ∧ ∃ g', stepG C.P true g w = .go g' w #[mk (.acquire (stA C.Wg))] ∧ ∃ m, GN Anch m g' w
def AtKe (g : Goroutine) (w : World) : Prop := g.status = .running ∧ ∃ g', stepG C.P true g w = .go g' w #[mk .enable] ∧ ∃ m, GN (AtAcq C Anch) m g' w
def AtW4 (g : Goroutine) (w : World) : Prop := g.status = .running ∧ (WgAt C.ty C.Wg w 0 0 → ∃ g', stepG C.P true g w = .go g' w #[rd (stA C.Wg)] ∧ ∃ m, GN (AtKe C Anch) m g' w)
def AtW3 (g : Goroutine) (w : World) : Prop := g.status = .running ∧ g.offers = none ∧ ((∃ st, WgAt C.ty C.Wg w st 0) → stepG C.P true g w = .go { g with status := .blocked } w #[]) ∧
  (WgAt C.ty C.Wg w 0 1 → ∃ g', stepG C.P true g w = .go g' (w.setCell (smA C.Wg) (.int .u32 0)) (semEvents (smA C.Wg)) ∧ ∃ m, GN (AtW4 C Anch) m g' (w.setCell (smA C.Wg) (.int .u32 0)))
def AtW2 (vs : Nat) (g : Goroutine) (w : World) : Prop := g.status = .running ∧ ∀ v : Nat, v ≤ C.many → WgAt C.ty C.Wg w (v * KK) 0 →
  (v = vs → ∃ g', stepG C.P true g w = .go g' (w.setCell (stA C.Wg) (.int .u64 (v * KK + 1))) #[rd (stA C.Wg), wr (stA C.Wg)] ∧ ∃ m, GN (AtW3 C Anch) m g' (w.setCell (stA C.Wg) (.int .u64 (v * KK + 1)))) ∧
  (v ≠ vs → ∃ g', stepG C.P true g w = .go g' w #[rd (stA C.Wg)] ∧ ∃ m, GN Head m g' w)
def AtW1 (g : Goroutine) (w : World) : Prop := g.status = .running ∧ ∀ v : Nat, v ≤ C.many → WgAt C.ty C.Wg w (v * KK) 0 → ∃ g', stepG C.P true g w = .go g' w #[rd (stA C.Wg)] ∧
  (v = 0 → ∃ m, GN (AtKe C Anch) m g' w) ∧ (v ≠ 0 → ∃ m, GN (AtW2 C Head Anch v) m g' w)
def AtKd (g : Goroutine) (w : World) : Prop := g.status = .running ∧ ∃ g', stepG C.P true g w = .go g' w #[mk .disable] ∧ ∃ m, GN Head m g' w
end
section
variable (j : Nat) (Next : Goroutine → World → Prop)
local notation "GJ" => Goes C.P true C.RC (C.DC j)
def AtGo (g : Goroutine) (w : World) : Prop := g.status = .running ∧ ∃ g' child, stepG C.P true g w = .spawn g' child w #[] ∧ (∃ m, Goes C.P false (C.RW (j + 1)) (C.DW (j + 1)) (S7 C (j + 1)) m child w) ∧ Next g' w
def AtEn (g : Goroutine) (w : World) : Prop := g.status = .running ∧ ∃ g', stepG C.P true g w = .go g' w #[mk .enable] ∧ ∃ m, GJ (AtGo C j Next) m g' w
def AtAdd (g : Goroutine) (w : World) : Prop := g.status = .running ∧ ∀ v : Nat, v < C.many → WgAt C.ty C.Wg w (v * KK) 0 →
  ∃ g', stepG C.P true g w = .go g' (w.setCell (stA C.Wg) (.int .u64 ((v + 1) * KK))) #[rd (stA C.Wg), wr (stA C.Wg)] ∧ ∃ m, GJ (AtEn C j Next) m g' (w.setCell (stA C.Wg) (.int .u64 ((v + 1) * KK)))
def AtDi (g : Goroutine) (w : World) : Prop := g.status = .running ∧ ∃ g', stepG C.P true g w = .go g' w #[mk .disable] ∧ ∃ m, GJ (AtAdd C j Next) m g' w
end
/-- r are still to be started. -/
def Spawns (End : Goroutine → World → Prop) : Nat → Goroutine → World → Prop
  | 0, g, w => End g w
  | r + 1, g, w => ∃ m, Goes C.P true C.RC (C.DC (C.last - (r + 1))) (AtDi C (C.last - (r + 1)) (Spawns End r)) m g w
def Waits (Head : Goroutine → World → Prop) (g : Goroutine) (w : World) : Prop := ∃ m, Goes C.P true C.RC (C.DC C.last) (AtKd C Head) m g w

section
variable (Head Anch : Goroutine → World → Prop)
local notation "NX" r => Spawns C (Waits C Head) r
local notation "GS" r => Goes C.P true C.RC (C.DC (C.last - (r + 1)))
local notation "GN" => Goes C.P true C.RC (C.DC C.last)
inductive CS : CTag → Nat → Nat → Nat → Goroutine → World → Prop
  | sdi {r m g w} : r < C.last - C.old → (GS r) (AtDi C (C.last - (r + 1)) (NX r)) m g w → CS (.sp r 5) (C.last - (r + 1)) m 0 g w
  | sad {r m g w} : r < C.last - C.old → (GS r) (AtAdd C (C.last - (r + 1)) (NX r)) m g w → CS (.sp r 4) (C.last - (r + 1)) m 1 g w
  | sen {r m g w} : r < C.last - C.old → (GS r) (AtEn C (C.last - (r + 1)) (NX r)) m g w → CS (.sp r 3) (C.last - (r + 1)) m 1 g w
  | sgo {r m g w} : r < C.last - C.old → (GS r) (AtGo C (C.last - (r + 1)) (NX r)) m g w → CS (.sp r 2) (C.last - (r + 1)) m 0 g w
  | kd {m g w} : GN (AtKd C Head) m g w → CS .kd C.last m 0 g w
  | anch {m g w} : GN Head m g w → CS .anch C.last m 1 g w
  | w1 {m g w} : GN (AtW1 C Head Anch) m g w → CS .w1 C.last m 1 g w
  | w2 {vs m g w} : GN (AtW2 C Head Anch vs) m g w → CS (.w2 vs) C.last m 1 g w
  | w3 {m g w} : GN (AtW3 C Anch) m g w → CS .w3 C.last (m + 1) 1 g w
  | blk {g w} : (∀ w₁, C.RC w w₁ → AtW3 C Anch g w₁) → CS .blk C.last 0 1 { g with status := .blocked } w
  | w4 {m g w} : GN (AtW4 C Anch) m g w → CS .w4 C.last m 1 g w
  | ke {m g w} : GN (AtKe C Anch) m g w → CS .ke C.last m 1 g w
  | acq {m g w} : GN (AtAcq C Anch) m g w → CS .acq C.last m 0 g w
  | ret {m g w} : GN Anch m g w → CS .ret C.last m 0 g w
end

/-- Worker k has said its release, heard; what it touches behind that is the group's own. -/
structure Rel (t : Trace) (k r : Nat) : Prop where
  by_ : RelBy (stA C.Wg) t k r
  tail : ∀ i x, r < i → t.g? i = some k → touchAt t i = some x → ∃ a : Addr, x.loc = .cell a ∧ a.block = C.Wg

/-- Of what the elder goroutines touched the starter knows all but what lies at shared places. -/
def OldK (t : Trace) : Prop := ∀ i g, t.g? i = some g → g ≠ 0 → g ≤ C.old → (∀ a, touchAt t i = some a → Knows t 0 i ∨ C.Sh a.loc) ∧ (t.counts i → ∃ j, t.g? j = some 0 ∧ HappensBefore t i j)
structure Com (j : Nat) (gs : Array Goroutine) (w : World) (t : Trace) (D : Nat → WD) (d0 : Nat) : Prop where
  size : gs.size = j + 1
  le : C.old ≤ j
  wk : ∀ i, i < j → ∃ g, gs[i + 1]? = some g ∧ WS C (i + 1) (D i).stage (D i).fuel (D i).deaf g w
  gone : ∀ i, i < C.old → (D i).stage = 1
  ct : CT C.Sh C.Own C.Rd t j
  norel : NoRelease (stA C.Wg) t
  deaf0 : Deaf t 0 = d0
  deafW : ∀ i, i < j → Deaf t (i + 1) = (D i).deaf
  rel : ∀ i, C.old ≤ i → i < j → (D i).stage ≤ 6 → ∃ r, Rel C t (i + 1) r
  fin : ∀ i, C.old ≤ i → i < j → (D i).stage ≤ 6 → C.Fin (i + 1) w
  seen : ∀ op ∈ t, op.act.low C.B
  elder : OldK C t
end Go.Proofs.Ytadngncbbbbapaa.Crew
