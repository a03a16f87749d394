/-
  Wait of the group by the starter, where some are there: the exchange, the semaphore, the second load, to its return.
-/
import Derived.Test.YtadngncbbbbapaaWgw
namespace Go.Proofs.Ytadngncbbbbapaa.Wgs
open Go.Conc Go.Proofs.Ytadngncbbbbapaa.Crew
open Go.ConcR (KK wgBlock WgAt stA smA rd wr mk)
set_option linter.unusedVariables false
local notation "PP" => Try.prog
theorem run_cas_hit {P : Program} {e : Sem Next} {f : FuncId} {k : IntKind} {ad : Addr} {v n : Int} {w : World} (h : nf P e = .mark (.extern f) (casBody k ad v n >>= fun v => pure (.value v))) (hc : w.cell? ad = some (.int k v)) (hz : w.frozen? ad = false) :
    e.runT P w #[] = (.ok (.value (.bool true)) (w.setCell ad (.int k n)), #[mkx f, rd ad, wr ad]) := by
  rw [← nf_run, h, Sem.runT, Sem.runT_eq, Sem.events_bind, Sem.run_bind, run_cas_hit_entry hc hz, events_cas_hit_entry hc hz]
  rfl
theorem run_cas_miss {P : Program} {e : Sem Next} {f : FuncId} {k : IntKind} {ad : Addr} {v old n : Int} {w : World} (h : nf P e = .mark (.extern f) (casBody k ad old n >>= fun v => pure (.value v))) (hc : w.cell? ad = some (.int k v)) (hz : w.frozen? ad = false) (hne : ¬ v = old) :
    e.runT P w #[] = (.ok (.value (.bool false)) w, #[mkx f, rd ad]) := by
  rw [← nf_run, h, Sem.runT, Sem.runT_eq, Sem.events_bind, Sem.run_bind, run_cas_miss_entry hc hz hne, events_cas_miss_entry hc hz hne]
  rfl
noncomputable def kc (tm : Array Value) (td : List Item) (cs : List Frame) (Wg : Nat) (u : Nat → Value) (v : Nat) : Goroutine := nxs PP true 48 (aft (kl tm td cs Wg u) (.int .u64 ((v : Int) * KK)))
noncomputable def kc1 (tm : Array Value) (td : List Item) (cs : List Frame) (Wg : Nat) (u : Nat → Value) : Goroutine := kc tm td cs Wg u 1
noncomputable def cTodo : List Item := (nxs PP true 4 (aft (kc1 #[] [] [] 0 (fun _ => undef)) (.bool true))).frame.todo
/-- Behind the exchange. -/
noncomputable def gC (tm : Array Value) (td : List Item) (cs : List Frame) (Wg : Nat) (u : Nat → Value) (s : Int) (b : Bool) : Goroutine := G { fn := 60, tmps := #[.pointer (some ⟨Wg, 0, none⟩), u 1, .int .u64 s, u 3, .int .u32 0, u 5, u 6, u 7, u 8, u 9, u 10, u 11, u 12, u 13, u 14, u 15, u 16, u 17, u 18, u 19, u 20, u 21, u 22, u 23, u 24, u 25, u 26, u 27, u 28, u 29, u 30, u 31, u 32, u 33, u 34, u 35, u 36, u 37, u 38, u 39, u 40, u 41, u 42, u 43, u 44, u 45, u 46, u 47, .bool b, u 49, u 50, u 51, u 52, u 53, u 54, u 55, u 56, u 57, u 58, u 59, u 60, u 61, u 62, u 63, u 64, u 65, u 66, u 67, u 68, u 69, u 70, u 71, u 72, u 73, u 74, u 75, u 76, u 77, u 78, u 79, u 80, u 81, u 82, u 83], todo := cTodo, defers := [], mode := .run, kind := .normal } (cf tm td :: cs)
def cFacts (tm : Array Value) (td : List Item) (cs : List Frame) (Wg : Nat) (u : Nat → Value) (v : Nat) : Prop := (∀ w, didL PP true 48 (aft (kl tm td cs Wg u) (.int .u64 ((v : Int) * KK))) w = askL PP true 48 (aft (kl tm td cs Wg u) (.int .u64 ((v : Int) * KK))) w) ∧ Stands (kc tm td cs Wg u v) ∧
  nf PP (semAt (kc tm td cs Wg u v)) = .mark (.extern (xF PP (semAt (kc tm td cs Wg u v)))) (casBody .u64 (stA Wg) ((v : Int) * KK) ((v : Int) * KK + 1) >>= fun v => pure (.value v)) ∧
  seen PP (kc tm td cs Wg u v).frame.fn #[mkx (xF PP (semAt (kc tm td cs Wg u v))), rd (stA Wg), wr (stA Wg)] = #[rd (stA Wg), wr (stA Wg)] ∧ seen PP (kc tm td cs Wg u v).frame.fn #[mkx (xF PP (semAt (kc tm td cs Wg u v))), rd (stA Wg)] = #[rd (stA Wg)]
def bFacts (tm : Array Value) (td : List Item) (cs : List Frame) (Wg : Nat) (u : Nat → Value) (v : Nat) (b : Bool) : Prop := nxs PP true 4 (aft (kc tm td cs Wg u v) (.bool b)) = gC tm td cs Wg (fun i => (nxs PP true 4 (aft (kc tm td cs Wg u v) (.bool b))).frame.tmps.getD i undef) ((v : Int) * KK) b ∧ (∀ w, didL PP true 4 (aft (kc tm td cs Wg u v) (.bool b)) w = askL PP true 4 (aft (kc tm td cs Wg u v) (.bool b)) w)
theorem fc1 (tm : Array Value) (td : List Item) (cs : List Frame) (Wg : Nat) (u : Nat → Value) : cFacts tm td cs Wg u 1 := ⟨fun w => by kernel_rfl, ⟨by kernel_rfl, by kernel_rfl, by kernel_rfl, by kernel_rfl, by kernel_rfl, by kernel_rfl, by kernel_rfl, by kernel_rfl⟩, by kernel_rfl, by kernel_rfl, by kernel_rfl⟩
theorem fb1 (tm : Array Value) (td : List Item) (cs : List Frame) (Wg : Nat) (u : Nat → Value) : ∀ b, bFacts tm td cs Wg u 1 b
  | true => ⟨by kernel_rfl, fun w => by kernel_rfl⟩
  | false => ⟨by kernel_rfl, fun w => by kernel_rfl⟩
theorem fc2 (tm : Array Value) (td : List Item) (cs : List Frame) (Wg : Nat) (u : Nat → Value) : cFacts tm td cs Wg u 2 := ⟨fun w => by kernel_rfl, ⟨by kernel_rfl, by kernel_rfl, by kernel_rfl, by kernel_rfl, by kernel_rfl, by kernel_rfl, by kernel_rfl, by kernel_rfl⟩, by kernel_rfl, by kernel_rfl, by kernel_rfl⟩
theorem fb2 (tm : Array Value) (td : List Item) (cs : List Frame) (Wg : Nat) (u : Nat → Value) : ∀ b, bFacts tm td cs Wg u 2 b
  | true => ⟨by kernel_rfl, fun w => by kernel_rfl⟩
  | false => ⟨by kernel_rfl, fun w => by kernel_rfl⟩
theorem fc3 (tm : Array Value) (td : List Item) (cs : List Frame) (Wg : Nat) (u : Nat → Value) : cFacts tm td cs Wg u 3 := ⟨fun w => by kernel_rfl, ⟨by kernel_rfl, by kernel_rfl, by kernel_rfl, by kernel_rfl, by kernel_rfl, by kernel_rfl, by kernel_rfl, by kernel_rfl⟩, by kernel_rfl, by kernel_rfl, by kernel_rfl⟩
theorem fb3 (tm : Array Value) (td : List Item) (cs : List Frame) (Wg : Nat) (u : Nat → Value) : ∀ b, bFacts tm td cs Wg u 3 b
  | true => ⟨by kernel_rfl, fun w => by kernel_rfl⟩
  | false => ⟨by kernel_rfl, fun w => by kernel_rfl⟩
theorem fc4 (tm : Array Value) (td : List Item) (cs : List Frame) (Wg : Nat) (u : Nat → Value) : cFacts tm td cs Wg u 4 := ⟨fun w => by kernel_rfl, ⟨by kernel_rfl, by kernel_rfl, by kernel_rfl, by kernel_rfl, by kernel_rfl, by kernel_rfl, by kernel_rfl, by kernel_rfl⟩, by kernel_rfl, by kernel_rfl, by kernel_rfl⟩
theorem fb4 (tm : Array Value) (td : List Item) (cs : List Frame) (Wg : Nat) (u : Nat → Value) : ∀ b, bFacts tm td cs Wg u 4 b
  | true => ⟨by kernel_rfl, fun w => by kernel_rfl⟩
  | false => ⟨by kernel_rfl, fun w => by kernel_rfl⟩
theorem fc (tm : Array Value) (td : List Item) (cs : List Frame) (Wg : Nat) (u : Nat → Value) : ∀ v : Nat, v ≤ 4 → v ≠ 0 → cFacts tm td cs Wg u v ∧ ∀ b, bFacts tm td cs Wg u v b
  | 0, _, h => absurd rfl h
  | 1, _, _ => ⟨fc1 tm td cs Wg u, fb1 tm td cs Wg u⟩
  | 2, _, _ => ⟨fc2 tm td cs Wg u, fb2 tm td cs Wg u⟩
  | 3, _, _ => ⟨fc3 tm td cs Wg u, fb3 tm td cs Wg u⟩
  | 4, _, _ => ⟨fc4 tm td cs Wg u, fb4 tm td cs Wg u⟩
  | _ + 5, h, _ => by omega
/-! it has failed -/
theorem ekf (tm : Array Value) (td : List Item) (cs : List Frame) (Wg : Nat) (u : Nat → Value) (s : Int) : nxs PP true 5 (gC tm td cs Wg u s false) = hd tm td cs Wg (fun i => (nxs PP true 5 (gC tm td cs Wg u s false)).frame.tmps.getD i undef) := by kernel_rfl
theorem ikf (tm : Array Value) (td : List Item) (cs : List Frame) (Wg : Nat) (u : Nat → Value) (s : Int) (w : World) : didL PP true 5 (gC tm td cs Wg u s false) w = askL PP true 5 (gC tm td cs Wg u s false) w := by kernel_rfl
/-! it has been made -/
noncomputable def km (tm : Array Value) (td : List Item) (cs : List Frame) (Wg : Nat) (u : Nat → Value) (s : Int) : Goroutine := (nxs PP true 15 (gC tm td cs Wg u s true))
theorem ekm (tm : Array Value) (td : List Item) (cs : List Frame) (Wg : Nat) (u : Nat → Value) (s : Int) : nxs PP true 15 (gC tm td cs Wg u s true) = km tm td cs Wg u s := by kernel_rfl
theorem ikm (tm : Array Value) (td : List Item) (cs : List Frame) (Wg : Nat) (u : Nat → Value) (s : Int) (w : World) : didL PP true 15 (gC tm td cs Wg u s true) w = askL PP true 15 (gC tm td cs Wg u s true) w := by kernel_rfl
theorem akm (tm : Array Value) (td : List Item) (cs : List Frame) (Wg : Nat) (u : Nat → Value) (s : Int) : Stands (km tm td cs Wg u s) := ⟨by kernel_rfl, by kernel_rfl, by kernel_rfl, by kernel_rfl, by kernel_rfl, by kernel_rfl, by kernel_rfl, by kernel_rfl⟩
theorem xkm (tm : Array Value) (td : List Item) (cs : List Frame) (Wg : Nat) (u : Nat → Value) (s : Int) : semAt (km tm td cs Wg u s) = (convert (srcAt (km tm td cs Wg u s)) (dstAt (km tm td cs Wg u s)) (.pointer (some (smA Wg))) >>= fun v => pure (.value v)) := by kernel_rfl
theorem ukm (tm : Array Value) (td : List Item) (cs : List Frame) (Wg : Nat) (u : Nat → Value) (s : Int) : Try.prog.underlying (srcAt (km tm td cs Wg u s)) = some (.pointer (elemAt (km tm td cs Wg u s))) := by kernel_rfl
theorem vkm (tm : Array Value) (td : List Item) (cs : List Frame) (Wg : Nat) (u : Nat → Value) (s : Int) : Try.prog.underlying (dstAt (km tm td cs Wg u s)) = some .unsafePointer := by kernel_rfl
theorem zkm (tm : Array Value) (td : List Item) (cs : List Frame) (Wg : Nat) (u : Nat → Value) (s : Int) : (Try.prog.info? (elemAt (km tm td cs Wg u s))).map (fun i => decide (i.size = 0)) = some false := by kernel_rfl
theorem ykm (tm : Array Value) (td : List Item) (cs : List Frame) (Wg : Nat) (u : Nat → Value) (s : Int) : seen PP (km tm td cs Wg u s).frame.fn #[] = #[] := by kernel_rfl
noncomputable def kn (tm : Array Value) (td : List Item) (cs : List Frame) (Wg : Nat) (u : Nat → Value) (s : Int) : Goroutine := (aft (km tm td cs Wg u s) (.pointer (some (smA Wg))))
theorem ekn (tm : Array Value) (td : List Item) (cs : List Frame) (Wg : Nat) (u : Nat → Value) (s : Int) : aft (km tm td cs Wg u s) (.pointer (some (smA Wg))) = kn tm td cs Wg u s := by kernel_rfl
theorem skm (tm : Array Value) (td : List Item) (cs : List Frame) (Wg : Nat) (u : Nat → Value) (s : Int) {ty : TypeId} {w : World} {st sm : Int} (h : WgAt ty Wg w st sm) : stepG PP true (km tm td cs Wg u s) w = .go (kn tm td cs Wg u s) w #[] := by
  rw [← ekn]
  exact (akm tm td cs Wg u s).value (by rw [xkm]; exact run_conv (ukm tm td cs Wg u s) (vkm tm td cs Wg u s) (zkm tm td cs Wg u s) h.cellSm) (ykm tm td cs Wg u s)
theorem rkn (tm : Array Value) (td : List Item) (cs : List Frame) (Wg : Nat) (u : Nat → Value) (s : Int) : (kn tm td cs Wg u s).status = .running := by kernel_rfl
noncomputable def kn' (tm : Array Value) (td : List Item) (cs : List Frame) (Wg : Nat) (u : Nat → Value) (s : Int) : Goroutine := (nx PP true (kn tm td cs Wg u s))
theorem skn (tm : Array Value) (td : List Item) (cs : List Frame) (Wg : Nat) (u : Nat → Value) (s : Int) (w : World) : stepG PP true (kn tm td cs Wg u s) w = .go (kn' tm td cs Wg u s) w #[mk (.write (smA Wg))] := by kernel_rfl
noncomputable def aTodo : List Item := (nxs PP true 23 (kn' #[] [] [] 0 (fun _ => undef) ((1 : Int) * KK))).frame.todo
/-- At the semaphore. -/
noncomputable def ka (tm : Array Value) (td : List Item) (cs : List Frame) (Wg : Nat) (u : Nat → Value) : Goroutine := G { fn := 60, tmps := #[.pointer (some ⟨Wg, 0, none⟩), u 1, u 2, u 3, u 4, u 5, u 6, u 7, u 8, u 9, u 10, u 11, u 12, u 13, u 14, u 15, u 16, u 17, u 18, u 19, u 20, u 21, u 22, u 23, u 24, u 25, u 26, u 27, u 28, u 29, u 30, u 31, u 32, u 33, u 34, u 35, u 36, u 37, u 38, u 39, u 40, u 41, u 42, u 43, u 44, u 45, u 46, u 47, u 48, u 49, u 50, u 51, u 52, u 53, u 54, u 55, u 56, u 57, u 58, u 59, u 60, u 61, u 62, u 63, u 64, u 65, u 66, u 67, u 68, u 69, .pointer (some (smA Wg)), .bool false, u 72, u 73, u 74, u 75, u 76, u 77, u 78, u 79, u 80, u 81, u 82, u 83], todo := aTodo, defers := [], mode := .run, kind := .normal } (cf tm td :: cs)
def aFacts (tm : Array Value) (td : List Item) (cs : List Frame) (Wg : Nat) (u : Nat → Value) (s : Int) : Prop := nxs PP true 23 (kn' tm td cs Wg u s) = ka tm td cs Wg (fun i => (nxs PP true 23 (kn' tm td cs Wg u s)).frame.tmps.getD i undef) ∧ (∀ w, didL PP true 23 (kn' tm td cs Wg u s) w = askL PP true 23 (kn' tm td cs Wg u s) w)
theorem fa1 (tm : Array Value) (td : List Item) (cs : List Frame) (Wg : Nat) (u : Nat → Value) : aFacts tm td cs Wg u ((1 : Nat) * KK) := ⟨by kernel_rfl, fun w => by kernel_rfl⟩
theorem fa2 (tm : Array Value) (td : List Item) (cs : List Frame) (Wg : Nat) (u : Nat → Value) : aFacts tm td cs Wg u ((2 : Nat) * KK) := ⟨by kernel_rfl, fun w => by kernel_rfl⟩
theorem fa3 (tm : Array Value) (td : List Item) (cs : List Frame) (Wg : Nat) (u : Nat → Value) : aFacts tm td cs Wg u ((3 : Nat) * KK) := ⟨by kernel_rfl, fun w => by kernel_rfl⟩
theorem fa4 (tm : Array Value) (td : List Item) (cs : List Frame) (Wg : Nat) (u : Nat → Value) : aFacts tm td cs Wg u ((4 : Nat) * KK) := ⟨by kernel_rfl, fun w => by kernel_rfl⟩
theorem fa (tm : Array Value) (td : List Item) (cs : List Frame) (Wg : Nat) (u : Nat → Value) : ∀ v : Nat, v ≤ 4 → v ≠ 0 → aFacts tm td cs Wg u ((v : Int) * KK)
  | 0, _, h => absurd rfl h
  | 1, _, _ => fa1 tm td cs Wg u
  | 2, _, _ => fa2 tm td cs Wg u
  | 3, _, _ => fa3 tm td cs Wg u
  | 4, _, _ => fa4 tm td cs Wg u
  | _ + 5, h, _ => by omega
theorem aka (tm : Array Value) (td : List Item) (cs : List Frame) (Wg : Nat) (u : Nat → Value) : Stands (ka tm td cs Wg u) := ⟨by kernel_rfl, by kernel_rfl, by kernel_rfl, by kernel_rfl, by kernel_rfl, by kernel_rfl, by kernel_rfl, by kernel_rfl⟩
theorem xka1 (tm : Array Value) (td : List Item) (cs : List Frame) (Wg : Nat) (u : Nat → Value) : nf PP (semAt (ka tm td cs Wg u)) = .mark (.extern (xF PP (semAt (ka tm td cs Wg u)))) (xK PP (semAt (ka tm td cs Wg u))) := by kernel_rfl
theorem xka2 (tm : Array Value) (td : List Item) (cs : List Frame) (Wg : Nat) (u : Nat → Value) : nf PP (xK PP (semAt (ka tm td cs Wg u))) = .mark .disable (xK PP (xK PP (semAt (ka tm td cs Wg u)))) := by kernel_rfl
theorem xka3 (tm : Array Value) (td : List Item) (cs : List Frame) (Wg : Nat) (u : Nat → Value) : xK PP (xK PP (semAt (ka tm td cs Wg u))) = .load .atomic (smA Wg) (lK (xK PP (xK PP (semAt (ka tm td cs Wg u))))) := by kernel_rfl
theorem xka4 (tm : Array Value) (td : List Item) (cs : List Frame) (Wg : Nat) (u : Nat → Value) : nf PP (lK (xK PP (xK PP (semAt (ka tm td cs Wg u)))) (.int .u32 1)) = .store .atomic (smA Wg) (.int .u32 0) (sK (nf PP (lK (xK PP (xK PP (semAt (ka tm td cs Wg u)))) (.int .u32 1)))) := by kernel_rfl
theorem xka5 (tm : Array Value) (td : List Item) (cs : List Frame) (Wg : Nat) (u : Nat → Value) : nf PP (sK (nf PP (lK (xK PP (xK PP (semAt (ka tm td cs Wg u)))) (.int .u32 1)))) = .mark .enable (xK PP (sK (nf PP (lK (xK PP (xK PP (semAt (ka tm td cs Wg u)))) (.int .u32 1))))) := by kernel_rfl
theorem xka6 (tm : Array Value) (td : List Item) (cs : List Frame) (Wg : Nat) (u : Nat → Value) : xK PP (sK (nf PP (lK (xK PP (xK PP (semAt (ka tm td cs Wg u)))) (.int .u32 1)))) = .pure (.value (.tuple #[])) := by kernel_rfl
theorem xka0 (tm : Array Value) (td : List Item) (cs : List Frame) (Wg : Nat) (u : Nat → Value) : nf PP (lK (xK PP (xK PP (semAt (ka tm td cs Wg u)))) (.int .u32 0)) = .halt .blocked := by kernel_rfl
theorem yka (tm : Array Value) (td : List Item) (cs : List Frame) (Wg : Nat) (u : Nat → Value) : seen PP (ka tm td cs Wg u).frame.fn (#[mkx (xF PP (semAt (ka tm td cs Wg u)))] ++ semEvents (smA Wg)) = semEvents (smA Wg) := by kernel_rfl
theorem oka (tm : Array Value) (td : List Item) (cs : List Frame) (Wg : Nat) (u : Nat → Value) : (ka tm td cs Wg u).offers = none := by kernel_rfl
/-- The semaphore has been given to: it is taken. -/
theorem ska (tm : Array Value) (td : List Item) (cs : List Frame) (Wg : Nat) (u : Nat → Value) {ty : TypeId} {w : World} {st : Int} (h : WgAt ty Wg w st 1) : stepG PP true (ka tm td cs Wg u) w = .go (aft (ka tm td cs Wg u) (.tuple #[])) (w.setCell (smA Wg) (.int .u32 0)) (semEvents (smA Wg)) :=
  (aka tm td cs Wg u).value (run_sem (xka1 tm td cs Wg u) (xka2 tm td cs Wg u) (xka3 tm td cs Wg u) (xka4 tm td cs Wg u) (xka5 tm td cs Wg u) (xka6 tm td cs Wg u) h.cellSm (h.thaw _)) (yka tm td cs Wg u)
theorem Stands.blocks {P : Program} {main : Bool} {g : Goroutine} (h : Stands g) {w : World} {es : Array Event} (hr : (semAt g).runT P w #[] = (.halt .blocked w, es)) (ho : g.offers = none) : stepG P main g w = .go { g with status := .blocked } w #[] := by
  rw [h.step w]
  simp only [stepG.apply, if_true, hr]
  obtain ⟨_, _, _, _, h5, _, h7, _⟩ := h
  obtain ⟨fr, callers, status, dying, offers⟩ := g
  simp only at h5 h7 ho
  subst h5 h7 ho
  simp [GStep.after, seen_none]
/-- .. it has not: the starter is parked. -/
theorem ska0 (tm : Array Value) (td : List Item) (cs : List Frame) (Wg : Nat) (u : Nat → Value) {ty : TypeId} {w : World} {st : Int} (h : WgAt ty Wg w st 0) : stepG PP true (ka tm td cs Wg u) w = .go { (ka tm td cs Wg u) with status := .blocked } w #[] := by
  refine (aka tm td cs Wg u).blocks (es := #[mkx (xF PP (semAt (ka tm td cs Wg u))), mk .disable, rd (smA Wg)]) ?_ (oka tm td cs Wg u)
  rw [← nf_run, xka1, Sem.runT, ← nf_run, xka2, Sem.runT, xka3, Sem.runT, h.cellSm]
  simp only
  rw [← nf_run, xka0]
  rfl
noncomputable def kb (tm : Array Value) (td : List Item) (cs : List Frame) (Wg : Nat) (u : Nat → Value) : Goroutine := (nxs PP true 16 (aft (ka tm td cs Wg u) (.tuple #[])))
theorem ekb (tm : Array Value) (td : List Item) (cs : List Frame) (Wg : Nat) (u : Nat → Value) : nxs PP true 16 (aft (ka tm td cs Wg u) (.tuple #[])) = kb tm td cs Wg u := by kernel_rfl
theorem ikb (tm : Array Value) (td : List Item) (cs : List Frame) (Wg : Nat) (u : Nat → Value) (w : World) : didL PP true 16 (aft (ka tm td cs Wg u) (.tuple #[])) w = askL PP true 16 (aft (ka tm td cs Wg u) (.tuple #[])) w := by kernel_rfl
theorem akb (tm : Array Value) (td : List Item) (cs : List Frame) (Wg : Nat) (u : Nat → Value) : Stands (kb tm td cs Wg u) := ⟨by kernel_rfl, by kernel_rfl, by kernel_rfl, by kernel_rfl, by kernel_rfl, by kernel_rfl, by kernel_rfl, by kernel_rfl⟩
theorem xkba (tm : Array Value) (td : List Item) (cs : List Frame) (Wg : Nat) (u : Nat → Value) : nf PP (semAt (kb tm td cs Wg u)) = .mark (.extern (xF PP (semAt (kb tm td cs Wg u)))) (xK PP (semAt (kb tm td cs Wg u))) := by kernel_rfl
theorem xkbb (tm : Array Value) (td : List Item) (cs : List Frame) (Wg : Nat) (u : Nat → Value) : xK PP (semAt (kb tm td cs Wg u)) = .load .atomic (stA Wg) (lK (xK PP (semAt (kb tm td cs Wg u)))) := by kernel_rfl
theorem ykb (tm : Array Value) (td : List Item) (cs : List Frame) (Wg : Nat) (u : Nat → Value) : seen PP (kb tm td cs Wg u).frame.fn #[mkx (xF PP (semAt (kb tm td cs Wg u))), rd (stA Wg)] = #[rd (stA Wg)] := by kernel_rfl
theorem xkbc (tm : Array Value) (td : List Item) (cs : List Frame) (Wg : Nat) (u : Nat → Value) : nf PP (lK (xK PP (semAt (kb tm td cs Wg u))) (.int .u64 0)) = .pure (.value (.int .u64 0)) := by kernel_rfl
theorem skb (tm : Array Value) (td : List Item) (cs : List Frame) (Wg : Nat) (u : Nat → Value) {ty : TypeId} {w : World} (h : WgAt ty Wg w 0 0) : stepG PP true (kb tm td cs Wg u) w = .go (aft (kb tm td cs Wg u) (.int .u64 0)) w #[rd (stA Wg)] :=
  (akb tm td cs Wg u).value (run_ld (xkba tm td cs Wg u) (xkbb tm td cs Wg u) (xkbc tm td cs Wg u) h.cellSt) (ykb tm td cs Wg u)
noncomputable def kf_ (tm : Array Value) (td : List Item) (cs : List Frame) (Wg : Nat) (u : Nat → Value) : Goroutine := (nxs PP true 11 (aft (kb tm td cs Wg u) (.int .u64 0)))
theorem ekf_ (tm : Array Value) (td : List Item) (cs : List Frame) (Wg : Nat) (u : Nat → Value) : nxs PP true 11 (aft (kb tm td cs Wg u) (.int .u64 0)) = kf_ tm td cs Wg u := by kernel_rfl
theorem ikf_ (tm : Array Value) (td : List Item) (cs : List Frame) (Wg : Nat) (u : Nat → Value) (w : World) : didL PP true 11 (aft (kb tm td cs Wg u) (.int .u64 0)) w = askL PP true 11 (aft (kb tm td cs Wg u) (.int .u64 0)) w := by kernel_rfl
theorem rkf_ (tm : Array Value) (td : List Item) (cs : List Frame) (Wg : Nat) (u : Nat → Value) : (kf_ tm td cs Wg u).status = .running := by kernel_rfl
noncomputable def kf_' (tm : Array Value) (td : List Item) (cs : List Frame) (Wg : Nat) (u : Nat → Value) : Goroutine := (nx PP true (kf_ tm td cs Wg u))
theorem skf_ (tm : Array Value) (td : List Item) (cs : List Frame) (Wg : Nat) (u : Nat → Value) (w : World) : stepG PP true (kf_ tm td cs Wg u) w = .go (kf_' tm td cs Wg u) w #[mk .enable] := by kernel_rfl
noncomputable def kg (tm : Array Value) (td : List Item) (cs : List Frame) (Wg : Nat) (u : Nat → Value) : Goroutine := (nxs PP true 3 (kf_' tm td cs Wg u))
theorem ekg (tm : Array Value) (td : List Item) (cs : List Frame) (Wg : Nat) (u : Nat → Value) : nxs PP true 3 (kf_' tm td cs Wg u) = kg tm td cs Wg u := by kernel_rfl
theorem ikg (tm : Array Value) (td : List Item) (cs : List Frame) (Wg : Nat) (u : Nat → Value) (w : World) : didL PP true 3 (kf_' tm td cs Wg u) w = askL PP true 3 (kf_' tm td cs Wg u) w := by kernel_rfl
theorem akg (tm : Array Value) (td : List Item) (cs : List Frame) (Wg : Nat) (u : Nat → Value) : Stands (kg tm td cs Wg u) := ⟨by kernel_rfl, by kernel_rfl, by kernel_rfl, by kernel_rfl, by kernel_rfl, by kernel_rfl, by kernel_rfl, by kernel_rfl⟩
theorem xkg (tm : Array Value) (td : List Item) (cs : List Frame) (Wg : Nat) (u : Nat → Value) : semAt (kg tm td cs Wg u) = (convert (srcAt (kg tm td cs Wg u)) (dstAt (kg tm td cs Wg u)) (.pointer (some (stA Wg))) >>= fun v => pure (.value v)) := by kernel_rfl
theorem ukg (tm : Array Value) (td : List Item) (cs : List Frame) (Wg : Nat) (u : Nat → Value) : Try.prog.underlying (srcAt (kg tm td cs Wg u)) = some (.pointer (elemAt (kg tm td cs Wg u))) := by kernel_rfl
theorem vkg (tm : Array Value) (td : List Item) (cs : List Frame) (Wg : Nat) (u : Nat → Value) : Try.prog.underlying (dstAt (kg tm td cs Wg u)) = some .unsafePointer := by kernel_rfl
theorem zkg (tm : Array Value) (td : List Item) (cs : List Frame) (Wg : Nat) (u : Nat → Value) : (Try.prog.info? (elemAt (kg tm td cs Wg u))).map (fun i => decide (i.size = 0)) = some false := by kernel_rfl
theorem ykg (tm : Array Value) (td : List Item) (cs : List Frame) (Wg : Nat) (u : Nat → Value) : seen PP (kg tm td cs Wg u).frame.fn #[] = #[] := by kernel_rfl
noncomputable def kh (tm : Array Value) (td : List Item) (cs : List Frame) (Wg : Nat) (u : Nat → Value) : Goroutine := (aft (kg tm td cs Wg u) (.pointer (some (stA Wg))))
theorem ekh (tm : Array Value) (td : List Item) (cs : List Frame) (Wg : Nat) (u : Nat → Value) : aft (kg tm td cs Wg u) (.pointer (some (stA Wg))) = kh tm td cs Wg u := by kernel_rfl
theorem skg (tm : Array Value) (td : List Item) (cs : List Frame) (Wg : Nat) (u : Nat → Value) {ty : TypeId} {w : World} {st sm : Int} (h : WgAt ty Wg w st sm) : stepG PP true (kg tm td cs Wg u) w = .go (kh tm td cs Wg u) w #[] := by
  rw [← ekh]
  exact (akg tm td cs Wg u).value (by rw [xkg]; exact run_conv (ukg tm td cs Wg u) (vkg tm td cs Wg u) (zkg tm td cs Wg u) h.cellSt) (ykg tm td cs Wg u)
theorem rkh (tm : Array Value) (td : List Item) (cs : List Frame) (Wg : Nat) (u : Nat → Value) : (kh tm td cs Wg u).status = .running := by kernel_rfl
noncomputable def kh' (tm : Array Value) (td : List Item) (cs : List Frame) (Wg : Nat) (u : Nat → Value) : Goroutine := (nx PP true (kh tm td cs Wg u))
theorem skh (tm : Array Value) (td : List Item) (cs : List Frame) (Wg : Nat) (u : Nat → Value) (w : World) : stepG PP true (kh tm td cs Wg u) w = .go (kh' tm td cs Wg u) w #[mk (.acquire (stA Wg))] := by kernel_rfl
theorem ekx (tm : Array Value) (td : List Item) (cs : List Frame) (Wg : Nat) (u : Nat → Value) : nxs PP true 10 (kh' tm td cs Wg u) = G ((cf tm td).finish (.tuple #[])) cs := by kernel_rfl
theorem ikx (tm : Array Value) (td : List Item) (cs : List Frame) (Wg : Nat) (u : Nat → Value) (w : World) : didL PP true 10 (kh' tm td cs Wg u) w = askL PP true 10 (kh' tm td cs Wg u) w := by kernel_rfl
theorem rka (tm : Array Value) (td : List Item) (cs : List Frame) (Wg : Nat) (u : Nat → Value) : (ka tm td cs Wg u).status = .running := by kernel_rfl
end Go.Proofs.Ytadngncbbbbapaa.Wgs
