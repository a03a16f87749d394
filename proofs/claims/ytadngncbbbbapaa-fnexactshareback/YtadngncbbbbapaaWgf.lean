/-
  The deferred Done of a worker, from its entry to the release.
-/
import Derived.Test.YtadngncbbbbapaaWge
import Derived.Laws.LoneSync
import Derived.Conc.SmallLaws
namespace Go.Proofs.Ytadngncbbbbapaa.Wgs
open Go.Conc Go.Proofs.Ytadngncbbbbapaa.Crew
open Go.ConcR (KK wgBlock WgAt stA smA rd wr mk)
set_option linter.unusedVariables false
local notation "PP" => Try.prog
theorem run_conv {P : Program} {s d t : TypeId} (hs : P.underlying s = some (.pointer t)) (hd : P.underlying d = some .unsafePointer) (hsz : (P.info? t).map (fun i => decide (i.size = 0)) = some false) {a : Addr} {v : Value} {w : World} (hc : w.cell? a = some v) :
    (convert s d (.pointer (some a)) >>= fun v => pure (.value v) : Sem Next).runT P w #[] = (.ok (.value (.pointer (some a))) w, #[]) := by
  rw [Sem.runT_eq]
  have h1 := run_convert_to_unsafe (P := P) hs hd hsz hc
  have h2 := events_convert_to_unsafe (P := P) hs hd hsz hc #[]
  rw [Sem.events_bind, Sem.run_bind, h1, h2]
  rfl
def srcAt (g : Goroutine) : TypeId := match (operAt g).op with | .convert s _ _ => s | _ => 0
def dstAt (g : Goroutine) : TypeId := match (operAt g).op with | .convert _ d _ => d | _ => 0
noncomputable def elemAt (g : Goroutine) : TypeId := match Try.prog.underlying (srcAt g) with | some (.pointer t) => t | _ => 0
theorem aC (tm : Array Value) (td : List Item) (Wg : Nat) : Stands (gCv tm td Wg) := ⟨by kernel_rfl, by kernel_rfl, by kernel_rfl, by kernel_rfl, by kernel_rfl, by kernel_rfl, by kernel_rfl, by kernel_rfl⟩
theorem xC (tm : Array Value) (td : List Item) (Wg : Nat) : semAt (gCv tm td Wg) = (convert (srcAt (gCv tm td Wg)) (dstAt (gCv tm td Wg)) (.pointer (some (stA Wg))) >>= fun v => pure (.value v)) := by kernel_rfl
theorem uC (tm : Array Value) (td : List Item) (Wg : Nat) : Try.prog.underlying (srcAt (gCv tm td Wg)) = some (.pointer (elemAt (gCv tm td Wg))) := by kernel_rfl
theorem vC (tm : Array Value) (td : List Item) (Wg : Nat) : Try.prog.underlying (dstAt (gCv tm td Wg)) = some .unsafePointer := by kernel_rfl
theorem zC (tm : Array Value) (td : List Item) (Wg : Nat) : (Try.prog.info? (elemAt (gCv tm td Wg))).map (fun i => decide (i.size = 0)) = some false := by kernel_rfl
theorem yC (tm : Array Value) (td : List Item) (Wg : Nat) : seen PP (gCv tm td Wg).frame.fn #[] = #[] := by kernel_rfl
theorem eC (tm : Array Value) (td : List Item) (Wg : Nat) : aft (gCv tm td Wg) (.pointer (some (stA Wg))) = g7 tm td Wg := by kernel_rfl
theorem sC (tm : Array Value) (td : List Item) (Wg : Nat) {ty : TypeId} {w : World} {st sm : Int} (h : WgAt ty Wg w st sm) : stepG PP false (gCv tm td Wg) w = .go (g7 tm td Wg) w #[] := by
  rw [← eC]
  exact (aC tm td Wg).value (by rw [xC]; exact run_conv (uC tm td Wg) (vC tm td Wg) (zC tm td Wg) h.cellSt) (yC tm td Wg)
/-- From the entry of the deferred Done, what the worker has done being done, to the release. -/
theorem done_goes {C : Crew} (hP : C.P = PP) (hm : C.many ≤ 4) (tm : Array Value) (td : List Item) {k : Nat} (hR : ∀ a b c, C.RW k a b → C.RW k b c → C.RW k a c) (hRr : ∀ w, C.RW k w w) (hD : ∀ w, C.DW k w w #[]) (hL : ∀ w w', C.RW k w w' → Live C w → Live C w') (hF : ∀ w w', C.RW k w w' → C.Fin k w → C.Fin k w')
    {w : World} (hl : Live C w) (hf : C.Fin k w) : Goes C.P false (C.RW k) (C.DW k) (S7 C k) 15 (gDone tm td C.Wg) w := by
  rw [hP]
  refine goes_nxs (n := 14) (m := 1) hR hD (iCv tm td C.Wg) ?_
  rw [eCv]
  refine goes_one (m := 0) (aC tm td C.Wg).run fun w₁ hr => ?_
  obtain ⟨st, sm, hw⟩ := hL _ _ hr hl
  exact ⟨_, _, sC tm td C.Wg hw, hD w₁, fun w₂ hr₂ => at7 hP hm tm td (hF _ _ hr₂ (hF _ _ hr hf))⟩
end Go.Proofs.Ytadngncbbbbapaa.Wgs
