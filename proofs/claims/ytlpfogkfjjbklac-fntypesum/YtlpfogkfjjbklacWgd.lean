/-
  The deferred Done of a worker, from its entry to where it only leaves.
  The deferred Done of a worker, behind the add: who is not the last only leaves; the last one's way to the semaphore.
  The deferred Done of a worker, from its entry to the release.
-/
import Derived.Test.YtlpfogkfjjbklacIdle
import Derived.Laws.LoneSync
import Derived.Conc.SmallLaws
namespace Go.Proofs.Ytlpfogkfjjbklac.Wgs
open Go.Conc Go.Proofs.Ytlpfogkfjjbklac.Crew
open Go.ConcR (KK wgBlock WgAt stA smA rd wr mk)
set_option linter.unusedVariables false
local notation "PP" => Try.prog
/-- The worker's frame, at the end of its body. -/
def wf (tm : Array Value) (td : List Item) : Frame := { fn := 23, tmps := tm, todo := td, defers := [], mode := .returning, kind := .deferred }
/-- The bottom of a worker's frames. -/
noncomputable def bot : Frame := { (default : Frame) with fn := Try.prog.funcs.size, defers := [], mode := .panicking [goexitEntry] }
noncomputable def gDone (tm : Array Value) (td : List Item) (Wg : Nat) : Goroutine := G (Frame.enter PP 24 #[.pointer (some ⟨Wg, 0, none⟩)] .deferred) [wf tm td, bot]
noncomputable def gCv (tm : Array Value) (td : List Item) (Wg : Nat) : Goroutine := (nxs PP false 14 (gDone tm td Wg))
theorem eCv (tm : Array Value) (td : List Item) (Wg : Nat) : nxs PP false 14 (gDone tm td Wg) = gCv tm td Wg := by kernel_rfl
theorem iCv (tm : Array Value) (td : List Item) (Wg : Nat) (w : World) : didL PP false 14 (gDone tm td Wg) w = askL PP false 14 (gDone tm td Wg) w := by kernel_rfl
noncomputable def g7 (tm : Array Value) (td : List Item) (Wg : Nat) : Goroutine := (aft (gCv tm td Wg) (.pointer (some ⟨Wg, 0, none⟩)))
noncomputable def g7' (tm : Array Value) (td : List Item) (Wg : Nat) : Goroutine := (nx PP false (g7 tm td Wg))
theorem s7 (tm : Array Value) (td : List Item) (Wg : Nat) (w : World) : stepG PP false (g7 tm td Wg) w = .go (g7' tm td Wg) w #[mk (.releaseMerge (stA Wg))] := by kernel_rfl
noncomputable def g6 (tm : Array Value) (td : List Item) (Wg : Nat) : Goroutine := (nxs PP false 3 (g7' tm td Wg))
theorem e6 (tm : Array Value) (td : List Item) (Wg : Nat) : nxs PP false 3 (g7' tm td Wg) = g6 tm td Wg := by kernel_rfl
theorem i6 (tm : Array Value) (td : List Item) (Wg : Nat) (w : World) : didL PP false 3 (g7' tm td Wg) w = askL PP false 3 (g7' tm td Wg) w := by kernel_rfl
noncomputable def g6' (tm : Array Value) (td : List Item) (Wg : Nat) : Goroutine := (nx PP false (g6 tm td Wg))
theorem s6 (tm : Array Value) (td : List Item) (Wg : Nat) (w : World) : stepG PP false (g6 tm td Wg) w = .go (g6' tm td Wg) w #[mk .disable] := by kernel_rfl
noncomputable def g5 (tm : Array Value) (td : List Item) (Wg : Nat) : Goroutine := (nxs PP false 34 (g6' tm td Wg))
theorem e5 (tm : Array Value) (td : List Item) (Wg : Nat) : nxs PP false 34 (g6' tm td Wg) = g5 tm td Wg := by kernel_rfl
theorem i5 (tm : Array Value) (td : List Item) (Wg : Nat) (w : World) : didL PP false 34 (g6' tm td Wg) w = askL PP false 34 (g6' tm td Wg) w := by kernel_rfl
theorem a5 (tm : Array Value) (td : List Item) (Wg : Nat) : Stands (g5 tm td Wg) := ⟨by kernel_rfl, by kernel_rfl, by kernel_rfl, by kernel_rfl, by kernel_rfl, by kernel_rfl, by kernel_rfl, by kernel_rfl⟩
theorem x5a (tm : Array Value) (td : List Item) (Wg : Nat) : nf PP (semAt (g5 tm td Wg)) = .mark (.extern (xF PP (semAt (g5 tm td Wg)))) (xK PP (semAt (g5 tm td Wg))) := by kernel_rfl
theorem x5b (tm : Array Value) (td : List Item) (Wg : Nat) : xK PP (semAt (g5 tm td Wg)) = .load .atomic (stA Wg) (lK (xK PP (semAt (g5 tm td Wg)))) := by kernel_rfl
theorem x5c (tm : Array Value) (td : List Item) (Wg : Nat) : ∀ (v wt : Nat), v < 4 → wt ≤ 1 → nf PP (lK (xK PP (semAt (g5 tm td Wg))) (.int .u64 (((v : Int) + 1) * KK + wt))) = .store .atomic (stA Wg) (.int .u64 (v * KK + wt)) (sK (nf PP (lK (xK PP (semAt (g5 tm td Wg))) (.int .u64 (((v : Int) + 1) * KK + wt))))) ∧
    nf PP (sK (nf PP (lK (xK PP (semAt (g5 tm td Wg))) (.int .u64 (((v : Int) + 1) * KK + wt))))) = .pure (.value (.int .u64 (v * KK + wt)))
  | 0, 0, _, _ => ⟨by kernel_rfl, by kernel_rfl⟩
  | 0, 1, _, _ => ⟨by kernel_rfl, by kernel_rfl⟩
  | 1, 0, _, _ => ⟨by kernel_rfl, by kernel_rfl⟩
  | 1, 1, _, _ => ⟨by kernel_rfl, by kernel_rfl⟩
  | 2, 0, _, _ => ⟨by kernel_rfl, by kernel_rfl⟩
  | 2, 1, _, _ => ⟨by kernel_rfl, by kernel_rfl⟩
  | 3, 0, _, _ => ⟨by kernel_rfl, by kernel_rfl⟩
  | 3, 1, _, _ => ⟨by kernel_rfl, by kernel_rfl⟩
  | _ + 4, _, h, _ => by omega
  | _, _ + 2, _, h => by omega
theorem q5 (tm : Array Value) (td : List Item) (Wg : Nat) : seen PP (g5 tm td Wg).frame.fn #[mkx (xF PP (semAt (g5 tm td Wg))), rd (stA Wg), wr (stA Wg)] = #[rd (stA Wg), wr (stA Wg)] := by kernel_rfl
/-- The add. -/
theorem s5 (tm : Array Value) (td : List Item) (Wg : Nat) {ty : TypeId} {w : World} {v wt : Nat} (hv : v < 4) (hw : wt ≤ 1) (h : WgAt ty Wg w (((v : Int) + 1) * KK + wt) 0) : stepG PP false (g5 tm td Wg) w = .go (aft (g5 tm td Wg) (.int .u64 (v * KK + wt))) (w.setCell (stA Wg) (.int .u64 (v * KK + wt))) #[rd (stA Wg), wr (stA Wg)] :=
  (a5 tm td Wg).value (run_rmw (x5a tm td Wg) (x5b tm td Wg) (x5c tm td Wg v wt hv hw).1 (x5c tm td Wg v wt hv hw).2 h.cellSt (h.thaw 0)) (q5 tm td Wg)
end Go.Proofs.Ytlpfogkfjjbklac.Wgs
namespace Go.Proofs.Ytlpfogkfjjbklac.Wgs
open Go.Conc Go.Proofs.Ytlpfogkfjjbklac.Crew
open Go.ConcR (KK wgBlock WgAt stA smA rd wr mk)
set_option linter.unusedVariables false
local notation "PP" => Try.prog
theorem q4 (tm : Array Value) (td : List Item) (Wg : Nat) : ∀ (v wt : Nat), v < 4 → wt ≤ 1 → ¬ (v = 0 ∧ wt = 1) → QuitsD PP 94 1 (aft (g5 tm td Wg) (.int .u64 (v * KK + wt)))
  | 0, 0, _, _, _ => quits_nxs (fun w => by kernel_rfl) (by kernel_rfl) (by kernel_rfl) (by kernel_rfl)
  | 0, 1, _, _, h => absurd ⟨rfl, rfl⟩ h
  | 1, 0, _, _, _ => quits_nxs (fun w => by kernel_rfl) (by kernel_rfl) (by kernel_rfl) (by kernel_rfl)
  | 1, 1, _, _, _ => quits_nxs (fun w => by kernel_rfl) (by kernel_rfl) (by kernel_rfl) (by kernel_rfl)
  | 2, 0, _, _, _ => quits_nxs (fun w => by kernel_rfl) (by kernel_rfl) (by kernel_rfl) (by kernel_rfl)
  | 2, 1, _, _, _ => quits_nxs (fun w => by kernel_rfl) (by kernel_rfl) (by kernel_rfl) (by kernel_rfl)
  | 3, 0, _, _, _ => quits_nxs (fun w => by kernel_rfl) (by kernel_rfl) (by kernel_rfl) (by kernel_rfl)
  | 3, 1, _, _, _ => quits_nxs (fun w => by kernel_rfl) (by kernel_rfl) (by kernel_rfl) (by kernel_rfl)
  | _ + 4, _, h, _, _ => by omega
  | _, _ + 2, _, h, _ => by omega
noncomputable def g5' (tm : Array Value) (td : List Item) (Wg : Nat) : Goroutine := (aft (g5 tm td Wg) (.int .u64 ((0 : Nat) * KK + (1 : Nat))))
theorem e5' (tm : Array Value) (td : List Item) (Wg : Nat) : aft (g5 tm td Wg) (.int .u64 ((0 : Nat) * KK + (1 : Nat))) = g5' tm td Wg := by kernel_rfl
noncomputable def g4 (tm : Array Value) (td : List Item) (Wg : Nat) : Goroutine := (nxs PP false 103 (g5' tm td Wg))
theorem e4 (tm : Array Value) (td : List Item) (Wg : Nat) : nxs PP false 103 (g5' tm td Wg) = g4 tm td Wg := by kernel_rfl
theorem i4 (tm : Array Value) (td : List Item) (Wg : Nat) (w : World) : didL PP false 103 (g5' tm td Wg) w = askL PP false 103 (g5' tm td Wg) w := by kernel_rfl
theorem a4 (tm : Array Value) (td : List Item) (Wg : Nat) : Stands (g4 tm td Wg) := ⟨by kernel_rfl, by kernel_rfl, by kernel_rfl, by kernel_rfl, by kernel_rfl, by kernel_rfl, by kernel_rfl, by kernel_rfl⟩
theorem x4a (tm : Array Value) (td : List Item) (Wg : Nat) : nf PP (semAt (g4 tm td Wg)) = .mark (.extern (xF PP (semAt (g4 tm td Wg)))) (xK PP (semAt (g4 tm td Wg))) := by kernel_rfl
theorem x4b (tm : Array Value) (td : List Item) (Wg : Nat) : xK PP (semAt (g4 tm td Wg)) = .load .atomic (stA Wg) (lK (xK PP (semAt (g4 tm td Wg)))) := by kernel_rfl
theorem x4c (tm : Array Value) (td : List Item) (Wg : Nat) : nf PP (lK (xK PP (semAt (g4 tm td Wg))) (.int .u64 1)) = .pure (.value (.int .u64 1)) := by kernel_rfl
theorem y4 (tm : Array Value) (td : List Item) (Wg : Nat) : seen PP (g4 tm td Wg).frame.fn #[mkx (xF PP (semAt (g4 tm td Wg))), rd (stA Wg)] = #[rd (stA Wg)] := by kernel_rfl
/-- The last one loads the state. -/
theorem s4 (tm : Array Value) (td : List Item) (Wg : Nat) {ty : TypeId} {w : World} (h : WgAt ty Wg w 1 0) : stepG PP false (g4 tm td Wg) w = .go (aft (g4 tm td Wg) (.int .u64 1)) w #[rd (stA Wg)] :=
  (a4 tm td Wg).value (run_ld (x4a tm td Wg) (x4b tm td Wg) (x4c tm td Wg) h.cellSt) (y4 tm td Wg)
noncomputable def g4' (tm : Array Value) (td : List Item) (Wg : Nat) : Goroutine := (aft (g4 tm td Wg) (.int .u64 1))
theorem e4' (tm : Array Value) (td : List Item) (Wg : Nat) : aft (g4 tm td Wg) (.int .u64 1) = g4' tm td Wg := by kernel_rfl
noncomputable def g3 (tm : Array Value) (td : List Item) (Wg : Nat) : Goroutine := (nxs PP false 20 (g4' tm td Wg))
theorem e3 (tm : Array Value) (td : List Item) (Wg : Nat) : nxs PP false 20 (g4' tm td Wg) = g3 tm td Wg := by kernel_rfl
theorem i3 (tm : Array Value) (td : List Item) (Wg : Nat) (w : World) : didL PP false 20 (g4' tm td Wg) w = askL PP false 20 (g4' tm td Wg) w := by kernel_rfl
theorem a3 (tm : Array Value) (td : List Item) (Wg : Nat) : Stands (g3 tm td Wg) := ⟨by kernel_rfl, by kernel_rfl, by kernel_rfl, by kernel_rfl, by kernel_rfl, by kernel_rfl, by kernel_rfl, by kernel_rfl⟩
theorem x3a (tm : Array Value) (td : List Item) (Wg : Nat) : nf PP (semAt (g3 tm td Wg)) = .mark (.extern (xF PP (semAt (g3 tm td Wg)))) (xK PP (semAt (g3 tm td Wg))) := by kernel_rfl
theorem x3b (tm : Array Value) (td : List Item) (Wg : Nat) : xK PP (semAt (g3 tm td Wg)) = .store .atomic (stA Wg) (.int .u64 0) (sK (xK PP (semAt (g3 tm td Wg)))) := by kernel_rfl
theorem x3c (tm : Array Value) (td : List Item) (Wg : Nat) : nf PP (sK (xK PP (semAt (g3 tm td Wg)))) = .pure (.value (.tuple #[])) := by kernel_rfl
theorem y3 (tm : Array Value) (td : List Item) (Wg : Nat) : seen PP (g3 tm td Wg).frame.fn #[mkx (xF PP (semAt (g3 tm td Wg))), wr (stA Wg)] = #[wr (stA Wg)] := by kernel_rfl
/-- .. and stores 0. -/
theorem s3 (tm : Array Value) (td : List Item) (Wg : Nat) {ty : TypeId} {w : World} (h : WgAt ty Wg w 1 0) : stepG PP false (g3 tm td Wg) w = .go (aft (g3 tm td Wg) (.tuple #[])) (w.setCell (stA Wg) (.int .u64 0)) #[wr (stA Wg)] :=
  (a3 tm td Wg).value (run_st (x3a tm td Wg) (x3b tm td Wg) (x3c tm td Wg) h.cellSt (h.thaw 0)) (y3 tm td Wg)
noncomputable def g3' (tm : Array Value) (td : List Item) (Wg : Nat) : Goroutine := (aft (g3 tm td Wg) (.tuple #[]))
theorem e3' (tm : Array Value) (td : List Item) (Wg : Nat) : aft (g3 tm td Wg) (.tuple #[]) = g3' tm td Wg := by kernel_rfl
noncomputable def g2 (tm : Array Value) (td : List Item) (Wg : Nat) : Goroutine := (nxs PP false 27 (g3' tm td Wg))
theorem e2 (tm : Array Value) (td : List Item) (Wg : Nat) : nxs PP false 27 (g3' tm td Wg) = g2 tm td Wg := by kernel_rfl
theorem i2 (tm : Array Value) (td : List Item) (Wg : Nat) (w : World) : didL PP false 27 (g3' tm td Wg) w = askL PP false 27 (g3' tm td Wg) w := by kernel_rfl
theorem a2 (tm : Array Value) (td : List Item) (Wg : Nat) : Stands (g2 tm td Wg) := ⟨by kernel_rfl, by kernel_rfl, by kernel_rfl, by kernel_rfl, by kernel_rfl, by kernel_rfl, by kernel_rfl, by kernel_rfl⟩
theorem x2a (tm : Array Value) (td : List Item) (Wg : Nat) : nf PP (semAt (g2 tm td Wg)) = .mark (.extern (xF PP (semAt (g2 tm td Wg)))) (xK PP (semAt (g2 tm td Wg))) := by kernel_rfl
theorem x2b (tm : Array Value) (td : List Item) (Wg : Nat) : nf PP (xK PP (semAt (g2 tm td Wg))) = .mark .disable (xK PP (xK PP (semAt (g2 tm td Wg)))) := by kernel_rfl
theorem x2c (tm : Array Value) (td : List Item) (Wg : Nat) : xK PP (xK PP (semAt (g2 tm td Wg))) = .load .atomic (smA Wg) (lK (xK PP (xK PP (semAt (g2 tm td Wg))))) := by kernel_rfl
theorem x2d (tm : Array Value) (td : List Item) (Wg : Nat) : nf PP (lK (xK PP (xK PP (semAt (g2 tm td Wg)))) (.int .u32 0)) = .store .atomic (smA Wg) (.int .u32 1) (sK (nf PP (lK (xK PP (xK PP (semAt (g2 tm td Wg)))) (.int .u32 0)))) := by kernel_rfl
theorem x2e (tm : Array Value) (td : List Item) (Wg : Nat) : nf PP (sK (nf PP (lK (xK PP (xK PP (semAt (g2 tm td Wg)))) (.int .u32 0)))) = .mark .enable (xK PP (sK (nf PP (lK (xK PP (xK PP (semAt (g2 tm td Wg)))) (.int .u32 0))))) := by kernel_rfl
theorem x2f (tm : Array Value) (td : List Item) (Wg : Nat) : xK PP (sK (nf PP (lK (xK PP (xK PP (semAt (g2 tm td Wg)))) (.int .u32 0)))) = .pure (.value (.tuple #[])) := by kernel_rfl
theorem y2 (tm : Array Value) (td : List Item) (Wg : Nat) : seen PP (g2 tm td Wg).frame.fn (#[mkx (xF PP (semAt (g2 tm td Wg)))] ++ semEvents (smA Wg)) = semEvents (smA Wg) := by kernel_rfl
/-- .. and gives to the semaphore. -/
theorem s2 (tm : Array Value) (td : List Item) (Wg : Nat) {ty : TypeId} {w : World} (h : WgAt ty Wg w 0 0) : stepG PP false (g2 tm td Wg) w = .go (aft (g2 tm td Wg) (.tuple #[])) (w.setCell (smA Wg) (.int .u32 1)) (semEvents (smA Wg)) :=
  (a2 tm td Wg).value (run_sem (x2a tm td Wg) (x2b tm td Wg) (x2c tm td Wg) (x2d tm td Wg) (x2e tm td Wg) (x2f tm td Wg) h.cellSm (h.thaw _)) (y2 tm td Wg)
theorem m2 (tm : Array Value) (td : List Item) (Wg : Nat) : mayWake PP (g2 tm td Wg) = true := by kernel_rfl
theorem q2 (tm : Array Value) (td : List Item) (Wg : Nat) : QuitsD PP 24 1 (aft (g2 tm td Wg) (.tuple #[])) := quits_nxs (fun w => by kernel_rfl) (by kernel_rfl) (by kernel_rfl) (by kernel_rfl)
theorem r7 (tm : Array Value) (td : List Item) (Wg : Nat) : (g7 tm td Wg).status = .running := by kernel_rfl
theorem r6 (tm : Array Value) (td : List Item) (Wg : Nat) : (g6 tm td Wg).status = .running := by kernel_rfl
/-! ### the script -/
section
variable {C : Crew} (hP : C.P = PP) (hm : C.many ≤ 4) (tm : Array Value) (td : List Item)
include hP
theorem at2 : S2 C (g2 tm td C.Wg) := by
  unfold S2
  rw [hP]
  exact ⟨(a2 tm td C.Wg).run, m2 tm td C.Wg, fun w h => ⟨_, s2 tm td C.Wg h, 24, q2 tm td C.Wg⟩⟩
theorem at3 : S3 C (g3 tm td C.Wg) := by
  refine ⟨(a3 tm td C.Wg).run, fun w h => ⟨_, by rw [hP]; exact s3 tm td C.Wg h, 27, ?_⟩⟩
  rw [hP, e3']
  exact still_nxs (i2 tm td C.Wg) (by rw [e2]; exact at2 hP tm td)
theorem at4 : S4 C (g4 tm td C.Wg) := by
  refine ⟨(a4 tm td C.Wg).run, fun w h => ⟨_, by rw [hP]; exact s4 tm td C.Wg h, 20, ?_⟩⟩
  rw [hP, e4']
  exact still_nxs (i3 tm td C.Wg) (by rw [e3]; exact at3 hP tm td)
include hm
theorem at5 : S5 C (g5 tm td C.Wg) := by
  refine ⟨(a5 tm td C.Wg).run, fun w v wt hwt hv h => ⟨_, by rw [hP]; exact s5 tm td C.Wg (by omega) hwt h, fun hz => ⟨103, ?_⟩, fun hz => ⟨94, ?_⟩⟩⟩
  · obtain ⟨rfl, rfl⟩ := hz
    rw [hP, e5']
    exact still_nxs (i4 tm td C.Wg) (by rw [e4]; exact at4 hP tm td)
  · rw [hP]
    exact q4 tm td C.Wg v wt (by omega) hwt hz
theorem at6 : S6 C (g6 tm td C.Wg) := by
  refine ⟨r6 tm td C.Wg, g6' tm td C.Wg, fun w => by rw [hP]; exact s6 tm td C.Wg w, 34, ?_⟩
  rw [hP]
  exact still_nxs (i5 tm td C.Wg) (by rw [e5]; exact at5 hP hm tm td)
/-- The worker has done, and says its release. -/
theorem at7 {k : Nat} {w : World} (hf : C.Fin k w) : S7 C k (g7 tm td C.Wg) w := by
  refine ⟨r7 tm td C.Wg, hf, g7' tm td C.Wg, fun w => by rw [hP]; exact s7 tm td C.Wg w, 3, ?_⟩
  rw [hP]
  exact still_nxs (i6 tm td C.Wg) (by rw [e6]; exact at6 hP hm tm td)
end
end Go.Proofs.Ytlpfogkfjjbklac.Wgs
namespace Go.Proofs.Ytlpfogkfjjbklac.Wgs
open Go.Conc Go.Proofs.Ytlpfogkfjjbklac.Crew
open Go.ConcR (KK wgBlock WgAt stA smA rd wr mk)
set_option linter.unusedVariables false
local notation "PP" => Try.prog
theorem run_conv {P : Program} {s d t : TypeId} (hs : P.underlying s = some (.pointer t)) (hd : P.underlying d = some .unsafePointer) (hsz : (P.info? t).map (fun i => decide (i.size = 0)) = some false) {a : Addr} {v : Value} {w : World} (hc : w.cell? a = some v) :
    (convert s d (.pointer (some a)) >>= fun v => pure (.value v) : Sem Next).runT P w #[] = (.ok (.value (.pointer (some a))) w, #[]) := by
  rw [Sem.runT_eq]
  have h1 := run_convert_to_unsafe (P := P) hs hd hsz hc
  have h2 := events_convert_to_unsafe (P := P) hs hd hsz hc #[]
  rw [Sem.events_bind, Sem.run_bind, h1, h2]
  rfl
def srcAt (g : Goroutine) : TypeId := match (operAt g).op with | .convert s _ _ => s | _ => 0
def dstAt (g : Goroutine) : TypeId := match (operAt g).op with | .convert _ d _ => d | _ => 0
noncomputable def elemAt (g : Goroutine) : TypeId := match Try.prog.underlying (srcAt g) with | some (.pointer t) => t | _ => 0
theorem aC (tm : Array Value) (td : List Item) (Wg : Nat) : Stands (gCv tm td Wg) := ⟨by kernel_rfl, by kernel_rfl, by kernel_rfl, by kernel_rfl, by kernel_rfl, by kernel_rfl, by kernel_rfl, by kernel_rfl⟩
theorem xC (tm : Array Value) (td : List Item) (Wg : Nat) : semAt (gCv tm td Wg) = (convert (srcAt (gCv tm td Wg)) (dstAt (gCv tm td Wg)) (.pointer (some (stA Wg))) >>= fun v => pure (.value v)) := by kernel_rfl
theorem uC (tm : Array Value) (td : List Item) (Wg : Nat) : Try.prog.underlying (srcAt (gCv tm td Wg)) = some (.pointer (elemAt (gCv tm td Wg))) := by kernel_rfl
theorem vC (tm : Array Value) (td : List Item) (Wg : Nat) : Try.prog.underlying (dstAt (gCv tm td Wg)) = some .unsafePointer := by kernel_rfl
theorem zC (tm : Array Value) (td : List Item) (Wg : Nat) : (Try.prog.info? (elemAt (gCv tm td Wg))).map (fun i => decide (i.size = 0)) = some false := by kernel_rfl
theorem yC (tm : Array Value) (td : List Item) (Wg : Nat) : seen PP (gCv tm td Wg).frame.fn #[] = #[] := by kernel_rfl
theorem eC (tm : Array Value) (td : List Item) (Wg : Nat) : aft (gCv tm td Wg) (.pointer (some (stA Wg))) = g7 tm td Wg := by kernel_rfl
theorem sC (tm : Array Value) (td : List Item) (Wg : Nat) {ty : TypeId} {w : World} {st sm : Int} (h : WgAt ty Wg w st sm) : stepG PP false (gCv tm td Wg) w = .go (g7 tm td Wg) w #[] := by
  rw [← eC]
  exact (aC tm td Wg).value (by rw [xC]; exact run_conv (uC tm td Wg) (vC tm td Wg) (zC tm td Wg) h.cellSt) (yC tm td Wg)
/-- From the entry of the deferred Done, what the worker has done being done, to the release. -/
theorem done_goes {C : Crew} (hP : C.P = PP) (hm : C.many ≤ 4) (tm : Array Value) (td : List Item) {k : Nat} (hR : ∀ a b c, C.RW k a b → C.RW k b c → C.RW k a c) (hRr : ∀ w, C.RW k w w) (hD : ∀ w, C.DW k w w #[]) (hL : ∀ w w', C.RW k w w' → Live C w → Live C w') (hF : ∀ w w', C.RW k w w' → C.Fin k w → C.Fin k w')
    {w : World} (hl : Live C w) (hf : C.Fin k w) : Goes C.P false (C.RW k) (C.DW k) (S7 C k) 15 (gDone tm td C.Wg) w := by
  rw [hP]
  refine goes_nxs (n := 14) (m := 1) hR hD (iCv tm td C.Wg) ?_
  rw [eCv]
  refine goes_one (m := 0) (aC tm td C.Wg).run fun w₁ hr => ?_
  obtain ⟨st, sm, hw⟩ := hL _ _ hr hl
  exact ⟨_, _, sC tm td C.Wg hw, hD w₁, fun w₂ hr₂ => at7 hP hm tm td (hF _ _ hr₂ (hF _ _ hr hf))⟩
end Go.Proofs.Ytlpfogkfjjbklac.Wgs
