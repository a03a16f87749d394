/-
  Wait of the group by the starter, from its entry to the load, and, where nobody is there any more, to its return.
-/
import Derived.Test.YtadngncbbbbapaaWga
import Derived.Conc.AtomicLaws2
namespace Go.Proofs.Ytadngncbbbbapaa.Wgs
open Go.Conc Go.Proofs.Ytadngncbbbbapaa.Crew
open Go.ConcR (KK wgBlock WgAt stA smA rd wr mk)
set_option linter.unusedVariables false
local notation "PP" => Try.prog
noncomputable def gWait (tm : Array Value) (td : List Item) (cs : List Frame) (Wg : Nat) : Goroutine := G (Frame.enter PP 60 #[.pointer (some ⟨Wg, 0, none⟩)] .normal) (cf tm td :: cs)
noncomputable def k1 (tm : Array Value) (td : List Item) (cs : List Frame) (Wg : Nat) : Goroutine := (nxs PP true 3 (gWait tm td cs Wg))
theorem ek1 (tm : Array Value) (td : List Item) (cs : List Frame) (Wg : Nat) : nxs PP true 3 (gWait tm td cs Wg) = k1 tm td cs Wg := by kernel_rfl
theorem ik1 (tm : Array Value) (td : List Item) (cs : List Frame) (Wg : Nat) (w : World) : didL PP true 3 (gWait tm td cs Wg) w = askL PP true 3 (gWait tm td cs Wg) w := by kernel_rfl
theorem rk1 (tm : Array Value) (td : List Item) (cs : List Frame) (Wg : Nat) : (k1 tm td cs Wg).status = .running := by kernel_rfl
noncomputable def k1' (tm : Array Value) (td : List Item) (cs : List Frame) (Wg : Nat) : Goroutine := (nx PP true (k1 tm td cs Wg))
theorem sk1 (tm : Array Value) (td : List Item) (cs : List Frame) (Wg : Nat) (w : World) : stepG PP true (k1 tm td cs Wg) w = .go (k1' tm td cs Wg) w #[mk .disable] := by kernel_rfl
/-- The temporaries of Wait: the group, and whatever else. -/
def TT (Wg : Nat) (u : Nat → Value) : Array Value := #[.pointer (some ⟨Wg, 0, none⟩), u 1, u 2, u 3, u 4, u 5, u 6, u 7, u 8, u 9, u 10, u 11, u 12, u 13, u 14, u 15, u 16, u 17, u 18, u 19, u 20, u 21, u 22, u 23, u 24, u 25, u 26, u 27, u 28, u 29, u 30, u 31, u 32, u 33, u 34, u 35, u 36, u 37, u 38, u 39, u 40, u 41, u 42, u 43, u 44, u 45, u 46, u 47, u 48, u 49, u 50, u 51, u 52, u 53, u 54, u 55, u 56, u 57, u 58, u 59, u 60, u 61, u 62, u 63, u 64, u 65, u 66, u 67, u 68, u 69, u 70, u 71, u 72, u 73, u 74, u 75, u 76, u 77, u 78, u 79, u 80, u 81, u 82, u 83]
noncomputable def hTodo : List Item := (nxs PP true 3 (k1' #[] [] [] 0)).frame.todo
/-- At the head of the loop. -/
noncomputable def hd (tm : Array Value) (td : List Item) (cs : List Frame) (Wg : Nat) (u : Nat → Value) : Goroutine := G { fn := 60, tmps := TT Wg u, todo := hTodo, defers := [], mode := .run, kind := .normal } (cf tm td :: cs)
theorem ek2 (tm : Array Value) (td : List Item) (cs : List Frame) (Wg : Nat) : nxs PP true 3 (k1' tm td cs Wg) = hd tm td cs Wg (fun i => (nxs PP true 3 (k1' tm td cs Wg)).frame.tmps.getD i undef) := by kernel_rfl
theorem ik2 (tm : Array Value) (td : List Item) (cs : List Frame) (Wg : Nat) (w : World) : didL PP true 3 (k1' tm td cs Wg) w = askL PP true 3 (k1' tm td cs Wg) w := by kernel_rfl
theorem rhd (tm : Array Value) (td : List Item) (cs : List Frame) (Wg : Nat) (u : Nat → Value) : (hd tm td cs Wg u).status = .running := by kernel_rfl
noncomputable def kl (tm : Array Value) (td : List Item) (cs : List Frame) (Wg : Nat) (u : Nat → Value) : Goroutine := (nxs PP true 16 (hd tm td cs Wg u))
theorem ekl (tm : Array Value) (td : List Item) (cs : List Frame) (Wg : Nat) (u : Nat → Value) : nxs PP true 16 (hd tm td cs Wg u) = kl tm td cs Wg u := by kernel_rfl
theorem ikl (tm : Array Value) (td : List Item) (cs : List Frame) (Wg : Nat) (u : Nat → Value) (w : World) : didL PP true 16 (hd tm td cs Wg u) w = askL PP true 16 (hd tm td cs Wg u) w := by kernel_rfl
theorem akl (tm : Array Value) (td : List Item) (cs : List Frame) (Wg : Nat) (u : Nat → Value) : Stands (kl tm td cs Wg u) := ⟨by kernel_rfl, by kernel_rfl, by kernel_rfl, by kernel_rfl, by kernel_rfl, by kernel_rfl, by kernel_rfl, by kernel_rfl⟩
theorem xkla (tm : Array Value) (td : List Item) (cs : List Frame) (Wg : Nat) (u : Nat → Value) : nf PP (semAt (kl tm td cs Wg u)) = .mark (.extern (xF PP (semAt (kl tm td cs Wg u)))) (xK PP (semAt (kl tm td cs Wg u))) := by kernel_rfl
theorem xklb (tm : Array Value) (td : List Item) (cs : List Frame) (Wg : Nat) (u : Nat → Value) : xK PP (semAt (kl tm td cs Wg u)) = .load .atomic (stA Wg) (lK (xK PP (semAt (kl tm td cs Wg u)))) := by kernel_rfl
theorem ykl (tm : Array Value) (td : List Item) (cs : List Frame) (Wg : Nat) (u : Nat → Value) : seen PP (kl tm td cs Wg u).frame.fn #[mkx (xF PP (semAt (kl tm td cs Wg u))), rd (stA Wg)] = #[rd (stA Wg)] := by kernel_rfl
theorem xklc (tm : Array Value) (td : List Item) (cs : List Frame) (Wg : Nat) (u : Nat → Value) : ∀ v : Nat, v ≤ 4 → nf PP (lK (xK PP (semAt (kl tm td cs Wg u))) (.int .u64 ((v : Int) * KK))) = .pure (.value (.int .u64 ((v : Int) * KK)))
  | 0, _ => by kernel_rfl
  | 1, _ => by kernel_rfl
  | 2, _ => by kernel_rfl
  | 3, _ => by kernel_rfl
  | 4, _ => by kernel_rfl
  | _ + 5, h => by omega
/-- The load. -/
theorem skl (tm : Array Value) (td : List Item) (cs : List Frame) (Wg : Nat) (u : Nat → Value) {ty : TypeId} {w : World} {v : Nat} (hv : v ≤ 4) (h : WgAt ty Wg w ((v : Int) * KK) 0) : stepG PP true (kl tm td cs Wg u) w = .go (aft (kl tm td cs Wg u) (.int .u64 ((v : Int) * KK))) w #[rd (stA Wg)] :=
  (akl tm td cs Wg u).value (run_ld (xkla tm td cs Wg u) (xklb tm td cs Wg u) (xklc tm td cs Wg u v hv) h.cellSt) (ykl tm td cs Wg u)
/-! nobody is there any more -/
noncomputable def ke (tm : Array Value) (td : List Item) (cs : List Frame) (Wg : Nat) (u : Nat → Value) : Goroutine := (nxs PP true 31 (aft (kl tm td cs Wg u) (.int .u64 (((0 : Nat) : Int) * KK))))
theorem eke (tm : Array Value) (td : List Item) (cs : List Frame) (Wg : Nat) (u : Nat → Value) : nxs PP true 31 (aft (kl tm td cs Wg u) (.int .u64 (((0 : Nat) : Int) * KK))) = ke tm td cs Wg u := by kernel_rfl
theorem ike (tm : Array Value) (td : List Item) (cs : List Frame) (Wg : Nat) (u : Nat → Value) (w : World) : didL PP true 31 (aft (kl tm td cs Wg u) (.int .u64 (((0 : Nat) : Int) * KK))) w = askL PP true 31 (aft (kl tm td cs Wg u) (.int .u64 (((0 : Nat) : Int) * KK))) w := by kernel_rfl
theorem rke (tm : Array Value) (td : List Item) (cs : List Frame) (Wg : Nat) (u : Nat → Value) : (ke tm td cs Wg u).status = .running := by kernel_rfl
noncomputable def ke' (tm : Array Value) (td : List Item) (cs : List Frame) (Wg : Nat) (u : Nat → Value) : Goroutine := (nx PP true (ke tm td cs Wg u))
theorem ske (tm : Array Value) (td : List Item) (cs : List Frame) (Wg : Nat) (u : Nat → Value) (w : World) : stepG PP true (ke tm td cs Wg u) w = .go (ke' tm td cs Wg u) w #[mk .enable] := by kernel_rfl
noncomputable def kv (tm : Array Value) (td : List Item) (cs : List Frame) (Wg : Nat) (u : Nat → Value) : Goroutine := (nxs PP true 3 (ke' tm td cs Wg u))
theorem ekv (tm : Array Value) (td : List Item) (cs : List Frame) (Wg : Nat) (u : Nat → Value) : nxs PP true 3 (ke' tm td cs Wg u) = kv tm td cs Wg u := by kernel_rfl
theorem ikv (tm : Array Value) (td : List Item) (cs : List Frame) (Wg : Nat) (u : Nat → Value) (w : World) : didL PP true 3 (ke' tm td cs Wg u) w = askL PP true 3 (ke' tm td cs Wg u) w := by kernel_rfl
theorem akv (tm : Array Value) (td : List Item) (cs : List Frame) (Wg : Nat) (u : Nat → Value) : Stands (kv tm td cs Wg u) := ⟨by kernel_rfl, by kernel_rfl, by kernel_rfl, by kernel_rfl, by kernel_rfl, by kernel_rfl, by kernel_rfl, by kernel_rfl⟩
theorem xkv (tm : Array Value) (td : List Item) (cs : List Frame) (Wg : Nat) (u : Nat → Value) : semAt (kv tm td cs Wg u) = (convert (srcAt (kv tm td cs Wg u)) (dstAt (kv tm td cs Wg u)) (.pointer (some (stA Wg))) >>= fun v => pure (.value v)) := by kernel_rfl
theorem ukv (tm : Array Value) (td : List Item) (cs : List Frame) (Wg : Nat) (u : Nat → Value) : Try.prog.underlying (srcAt (kv tm td cs Wg u)) = some (.pointer (elemAt (kv tm td cs Wg u))) := by kernel_rfl
theorem vkv (tm : Array Value) (td : List Item) (cs : List Frame) (Wg : Nat) (u : Nat → Value) : Try.prog.underlying (dstAt (kv tm td cs Wg u)) = some .unsafePointer := by kernel_rfl
theorem zkv (tm : Array Value) (td : List Item) (cs : List Frame) (Wg : Nat) (u : Nat → Value) : (Try.prog.info? (elemAt (kv tm td cs Wg u))).map (fun i => decide (i.size = 0)) = some false := by kernel_rfl
theorem ykv (tm : Array Value) (td : List Item) (cs : List Frame) (Wg : Nat) (u : Nat → Value) : seen PP (kv tm td cs Wg u).frame.fn #[] = #[] := by kernel_rfl
noncomputable def kq (tm : Array Value) (td : List Item) (cs : List Frame) (Wg : Nat) (u : Nat → Value) : Goroutine := (aft (kv tm td cs Wg u) (.pointer (some (stA Wg))))
theorem ekq (tm : Array Value) (td : List Item) (cs : List Frame) (Wg : Nat) (u : Nat → Value) : aft (kv tm td cs Wg u) (.pointer (some (stA Wg))) = kq tm td cs Wg u := by kernel_rfl
theorem skv (tm : Array Value) (td : List Item) (cs : List Frame) (Wg : Nat) (u : Nat → Value) {ty : TypeId} {w : World} {st sm : Int} (h : WgAt ty Wg w st sm) : stepG PP true (kv tm td cs Wg u) w = .go (kq tm td cs Wg u) w #[] := by
  rw [← ekq]
  exact (akv tm td cs Wg u).value (by rw [xkv]; exact run_conv (ukv tm td cs Wg u) (vkv tm td cs Wg u) (zkv tm td cs Wg u) h.cellSt) (ykv tm td cs Wg u)
theorem rkq (tm : Array Value) (td : List Item) (cs : List Frame) (Wg : Nat) (u : Nat → Value) : (kq tm td cs Wg u).status = .running := by kernel_rfl
noncomputable def kq' (tm : Array Value) (td : List Item) (cs : List Frame) (Wg : Nat) (u : Nat → Value) : Goroutine := (nx PP true (kq tm td cs Wg u))
theorem skq (tm : Array Value) (td : List Item) (cs : List Frame) (Wg : Nat) (u : Nat → Value) (w : World) : stepG PP true (kq tm td cs Wg u) w = .go (kq' tm td cs Wg u) w #[mk (.acquire (stA Wg))] := by kernel_rfl
theorem ekz (tm : Array Value) (td : List Item) (cs : List Frame) (Wg : Nat) (u : Nat → Value) : nxs PP true 20 (kq' tm td cs Wg u) = G ((cf tm td).finish (.tuple #[])) cs := by kernel_rfl
theorem ikz (tm : Array Value) (td : List Item) (cs : List Frame) (Wg : Nat) (u : Nat → Value) (w : World) : didL PP true 20 (kq' tm td cs Wg u) w = askL PP true 20 (kq' tm td cs Wg u) w := by kernel_rfl
end Go.Proofs.Ytadngncbbbbapaa.Wgs
