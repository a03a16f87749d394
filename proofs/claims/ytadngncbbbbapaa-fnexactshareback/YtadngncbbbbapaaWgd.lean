/-
  The deferred Done of a worker, from its entry to where it only leaves.
-/
import Derived.Test.YtadngncbbbbapaaIdle
namespace Go.Proofs.Ytadngncbbbbapaa.Wgs
open Go.Conc Go.Proofs.Ytadngncbbbbapaa.Crew
open Go.ConcR (KK wgBlock WgAt stA smA rd wr mk)
set_option linter.unusedVariables false
local notation "PP" => Try.prog
/-- The worker's frame, at the end of its body. -/
def wf (tm : Array Value) (td : List Item) : Frame := { fn := 57, tmps := tm, todo := td, defers := [], mode := .returning, kind := .deferred }
/-- The bottom of a worker's frames. -/
noncomputable def bot : Frame := { (default : Frame) with fn := Try.prog.funcs.size, defers := [], mode := .panicking [goexitEntry] }
noncomputable def gDone (tm : Array Value) (td : List Item) (Wg : Nat) : Goroutine := G (Frame.enter PP 58 #[.pointer (some ⟨Wg, 0, none⟩)] .deferred) [wf tm td, bot]
noncomputable def gCv (tm : Array Value) (td : List Item) (Wg : Nat) : Goroutine := (nxs PP false 14 (gDone tm td Wg))
theorem eCv (tm : Array Value) (td : List Item) (Wg : Nat) : nxs PP false 14 (gDone tm td Wg) = gCv tm td Wg := by kernel_rfl
theorem iCv (tm : Array Value) (td : List Item) (Wg : Nat) (w : World) : didL PP false 14 (gDone tm td Wg) w = askL PP false 14 (gDone tm td Wg) w := by kernel_rfl
noncomputable def g7 (tm : Array Value) (td : List Item) (Wg : Nat) : Goroutine := (aft (gCv tm td Wg) (.pointer (some ⟨Wg, 0, none⟩)))
noncomputable def g7' (tm : Array Value) (td : List Item) (Wg : Nat) : Goroutine := (nx PP false (g7 tm td Wg))
theorem s7 (tm : Array Value) (td : List Item) (Wg : Nat) (w : World) : stepG PP false (g7 tm td Wg) w = .go (g7' tm td Wg) w #[mk (.releaseMerge (stA Wg))] := by kernel_rfl
noncomputable def g6 (tm : Array Value) (td : List Item) (Wg : Nat) : Goroutine := (nxs PP false 3 (g7' tm td Wg))
theorem e6 (tm : Array Value) (td : List Item) (Wg : Nat) : nxs PP false 3 (g7' tm td Wg) = g6 tm td Wg := by kernel_rfl
theorem i6 (tm : Array Value) (td : List Item) (Wg : Nat) (w : World) : didL PP false 3 (g7' tm td Wg) w = askL PP false 3 (g7' tm td Wg) w := by kernel_rfl
noncomputable def g6' (tm : Array Value) (td : List Item) (Wg : Nat) : Goroutine := (nx PP false (g6 tm td Wg))
theorem s6 (tm : Array Value) (td : List Item) (Wg : Nat) (w : World) : stepG PP false (g6 tm td Wg) w = .go (g6' tm td Wg) w #[mk .disable] := by kernel_rfl
noncomputable def g5 (tm : Array Value) (td : List Item) (Wg : Nat) : Goroutine := (nxs PP false 34 (g6' tm td Wg))
theorem e5 (tm : Array Value) (td : List Item) (Wg : Nat) : nxs PP false 34 (g6' tm td Wg) = g5 tm td Wg := by kernel_rfl
theorem i5 (tm : Array Value) (td : List Item) (Wg : Nat) (w : World) : didL PP false 34 (g6' tm td Wg) w = askL PP false 34 (g6' tm td Wg) w := by kernel_rfl
theorem a5 (tm : Array Value) (td : List Item) (Wg : Nat) : Stands (g5 tm td Wg) := ⟨by kernel_rfl, by kernel_rfl, by kernel_rfl, by kernel_rfl, by kernel_rfl, by kernel_rfl, by kernel_rfl, by kernel_rfl⟩
theorem x5a (tm : Array Value) (td : List Item) (Wg : Nat) : nf PP (semAt (g5 tm td Wg)) = .mark (.extern (xF PP (semAt (g5 tm td Wg)))) (xK PP (semAt (g5 tm td Wg))) := by kernel_rfl
theorem x5b (tm : Array Value) (td : List Item) (Wg : Nat) : xK PP (semAt (g5 tm td Wg)) = .load .atomic (stA Wg) (lK (xK PP (semAt (g5 tm td Wg)))) := by kernel_rfl
theorem x5c (tm : Array Value) (td : List Item) (Wg : Nat) : ∀ (v wt : Nat), v < 4 → wt ≤ 1 → nf PP (lK (xK PP (semAt (g5 tm td Wg))) (.int .u64 (((v : Int) + 1) * KK + wt))) = .store .atomic (stA Wg) (.int .u64 (v * KK + wt)) (sK (nf PP (lK (xK PP (semAt (g5 tm td Wg))) (.int .u64 (((v : Int) + 1) * KK + wt))))) ∧
    nf PP (sK (nf PP (lK (xK PP (semAt (g5 tm td Wg))) (.int .u64 (((v : Int) + 1) * KK + wt))))) = .pure (.value (.int .u64 (v * KK + wt)))
  | 0, 0, _, _ => ⟨by kernel_rfl, by kernel_rfl⟩
  | 0, 1, _, _ => ⟨by kernel_rfl, by kernel_rfl⟩
  | 1, 0, _, _ => ⟨by kernel_rfl, by kernel_rfl⟩
  | 1, 1, _, _ => ⟨by kernel_rfl, by kernel_rfl⟩
  | 2, 0, _, _ => ⟨by kernel_rfl, by kernel_rfl⟩
  | 2, 1, _, _ => ⟨by kernel_rfl, by kernel_rfl⟩
  | 3, 0, _, _ => ⟨by kernel_rfl, by kernel_rfl⟩
  | 3, 1, _, _ => ⟨by kernel_rfl, by kernel_rfl⟩
  | _ + 4, _, h, _ => by omega
  | _, _ + 2, _, h => by omega
theorem q5 (tm : Array Value) (td : List Item) (Wg : Nat) : seen PP (g5 tm td Wg).frame.fn #[mkx (xF PP (semAt (g5 tm td Wg))), rd (stA Wg), wr (stA Wg)] = #[rd (stA Wg), wr (stA Wg)] := by kernel_rfl
/-- The add. -/
theorem s5 (tm : Array Value) (td : List Item) (Wg : Nat) {ty : TypeId} {w : World} {v wt : Nat} (hv : v < 4) (hw : wt ≤ 1) (h : WgAt ty Wg w (((v : Int) + 1) * KK + wt) 0) : stepG PP false (g5 tm td Wg) w = .go (aft (g5 tm td Wg) (.int .u64 (v * KK + wt))) (w.setCell (stA Wg) (.int .u64 (v * KK + wt))) #[rd (stA Wg), wr (stA Wg)] :=
  (a5 tm td Wg).value (run_rmw (x5a tm td Wg) (x5b tm td Wg) (x5c tm td Wg v wt hv hw).1 (x5c tm td Wg v wt hv hw).2 h.cellSt (h.thaw 0)) (q5 tm td Wg)
end Go.Proofs.Ytadngncbbbbapaa.Wgs
