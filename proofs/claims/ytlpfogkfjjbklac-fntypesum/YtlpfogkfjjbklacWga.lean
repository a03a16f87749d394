/-
  Add(1) of the group by the starter, from its entry to its return.
  Wait of the group by the starter, from its entry to the load, and, where nobody is there any more, to its return.
  Wait of the group by the starter, where some are there: the exchange, the semaphore, the second load, to its return.
  Wait of the group by the starter: the script.
-/
import Derived.Test.YtlpfogkfjjbklacWgd
import Derived.Conc.AtomicLaws2
namespace Go.Proofs.Ytlpfogkfjjbklac.Wgs
open Go.Conc Go.Proofs.Ytlpfogkfjjbklac.Crew
open Go.ConcR (KK wgBlock WgAt stA smA rd wr mk)
set_option linter.unusedVariables false
local notation "PP" => Try.prog
/-- The starter's frame. -/
def cf (tm : Array Value) (td : List Item) : Frame := { fn := 16, tmps := tm, todo := td, defers := [], mode := .run, kind := .normal }
noncomputable def gAdd (tm : Array Value) (td : List Item) (cs : List Frame) (Wg : Nat) : Goroutine := G (Frame.enter PP 22 #[.pointer (some ⟨Wg, 0, none⟩), .int .i64 1] .normal) (cf tm td :: cs)
noncomputable def d1 (tm : Array Value) (td : List Item) (cs : List Frame) (Wg : Nat) : Goroutine := (nxs PP true 12 (gAdd tm td cs Wg))
theorem ed1 (tm : Array Value) (td : List Item) (cs : List Frame) (Wg : Nat) : nxs PP true 12 (gAdd tm td cs Wg) = d1 tm td cs Wg := by kernel_rfl
theorem id1 (tm : Array Value) (td : List Item) (cs : List Frame) (Wg : Nat) (w : World) : didL PP true 12 (gAdd tm td cs Wg) w = askL PP true 12 (gAdd tm td cs Wg) w := by kernel_rfl
noncomputable def d1' (tm : Array Value) (td : List Item) (cs : List Frame) (Wg : Nat) : Goroutine := (nx PP true (d1 tm td cs Wg))
theorem sd1 (tm : Array Value) (td : List Item) (cs : List Frame) (Wg : Nat) (w : World) : stepG PP true (d1 tm td cs Wg) w = .go (d1' tm td cs Wg) w #[mk .disable] := by kernel_rfl
theorem rd1 (tm : Array Value) (td : List Item) (cs : List Frame) (Wg : Nat) : (d1 tm td cs Wg).status = .running := by kernel_rfl
noncomputable def d2 (tm : Array Value) (td : List Item) (cs : List Frame) (Wg : Nat) : Goroutine := (nxs PP true 34 (d1' tm td cs Wg))
theorem ed2 (tm : Array Value) (td : List Item) (cs : List Frame) (Wg : Nat) : nxs PP true 34 (d1' tm td cs Wg) = d2 tm td cs Wg := by kernel_rfl
theorem id2 (tm : Array Value) (td : List Item) (cs : List Frame) (Wg : Nat) (w : World) : didL PP true 34 (d1' tm td cs Wg) w = askL PP true 34 (d1' tm td cs Wg) w := by kernel_rfl
theorem ad2 (tm : Array Value) (td : List Item) (cs : List Frame) (Wg : Nat) : Stands (d2 tm td cs Wg) := ⟨by kernel_rfl, by kernel_rfl, by kernel_rfl, by kernel_rfl, by kernel_rfl, by kernel_rfl, by kernel_rfl, by kernel_rfl⟩
theorem xd2a (tm : Array Value) (td : List Item) (cs : List Frame) (Wg : Nat) : nf PP (semAt (d2 tm td cs Wg)) = .mark (.extern (xF PP (semAt (d2 tm td cs Wg)))) (xK PP (semAt (d2 tm td cs Wg))) := by kernel_rfl
theorem xd2b (tm : Array Value) (td : List Item) (cs : List Frame) (Wg : Nat) : xK PP (semAt (d2 tm td cs Wg)) = .load .atomic (stA Wg) (lK (xK PP (semAt (d2 tm td cs Wg)))) := by kernel_rfl
theorem xd2c (tm : Array Value) (td : List Item) (cs : List Frame) (Wg : Nat) : ∀ (v : Nat), v < 4 → nf PP (lK (xK PP (semAt (d2 tm td cs Wg))) (.int .u64 ((v : Int) * KK))) = .store .atomic (stA Wg) (.int .u64 (((v : Int) + 1) * KK)) (sK (nf PP (lK (xK PP (semAt (d2 tm td cs Wg))) (.int .u64 ((v : Int) * KK))))) ∧
    nf PP (sK (nf PP (lK (xK PP (semAt (d2 tm td cs Wg))) (.int .u64 ((v : Int) * KK))))) = .pure (.value (.int .u64 (((v : Int) + 1) * KK)))
  | 0, _ => ⟨by kernel_rfl, by kernel_rfl⟩
  | 1, _ => ⟨by kernel_rfl, by kernel_rfl⟩
  | 2, _ => ⟨by kernel_rfl, by kernel_rfl⟩
  | 3, _ => ⟨by kernel_rfl, by kernel_rfl⟩
  | _ + 4, h => by omega
theorem qd2 (tm : Array Value) (td : List Item) (cs : List Frame) (Wg : Nat) : seen PP (d2 tm td cs Wg).frame.fn #[mkx (xF PP (semAt (d2 tm td cs Wg))), rd (stA Wg), wr (stA Wg)] = #[rd (stA Wg), wr (stA Wg)] := by kernel_rfl
/-- The add. -/
theorem sd2 (tm : Array Value) (td : List Item) (cs : List Frame) (Wg : Nat) {ty : TypeId} {w : World} {v : Nat} (hv : v < 4) (h : WgAt ty Wg w ((v : Int) * KK) 0) : stepG PP true (d2 tm td cs Wg) w = .go (aft (d2 tm td cs Wg) (.int .u64 (((v : Int) + 1) * KK))) (w.setCell (stA Wg) (.int .u64 (((v : Int) + 1) * KK))) #[rd (stA Wg), wr (stA Wg)] :=
  (ad2 tm td cs Wg).value (run_rmw (xd2a tm td cs Wg) (xd2b tm td cs Wg) (xd2c tm td cs Wg v hv).1 (xd2c tm td cs Wg v hv).2 h.cellSt (h.thaw 0)) (qd2 tm td cs Wg)
/-! the count is 1 now: the group's semaphore is marked -/
noncomputable def d3 (tm : Array Value) (td : List Item) (cs : List Frame) (Wg : Nat) : Goroutine := (nxs PP true 52 (aft (d2 tm td cs Wg) (.int .u64 (((0 : Nat) + 1 : Int) * KK))))
theorem ed3 (tm : Array Value) (td : List Item) (cs : List Frame) (Wg : Nat) : nxs PP true 52 (aft (d2 tm td cs Wg) (.int .u64 (((0 : Nat) + 1 : Int) * KK))) = d3 tm td cs Wg := by kernel_rfl
theorem id3 (tm : Array Value) (td : List Item) (cs : List Frame) (Wg : Nat) (w : World) : didL PP true 52 (aft (d2 tm td cs Wg) (.int .u64 (((0 : Nat) + 1 : Int) * KK))) w = askL PP true 52 (aft (d2 tm td cs Wg) (.int .u64 (((0 : Nat) + 1 : Int) * KK))) w := by kernel_rfl
theorem ad3 (tm : Array Value) (td : List Item) (cs : List Frame) (Wg : Nat) : Stands (d3 tm td cs Wg) := ⟨by kernel_rfl, by kernel_rfl, by kernel_rfl, by kernel_rfl, by kernel_rfl, by kernel_rfl, by kernel_rfl, by kernel_rfl⟩
theorem xd3 (tm : Array Value) (td : List Item) (cs : List Frame) (Wg : Nat) : semAt (d3 tm td cs Wg) = (convert (srcAt (d3 tm td cs Wg)) (dstAt (d3 tm td cs Wg)) (.pointer (some (smA Wg))) >>= fun v => pure (.value v)) := by kernel_rfl
theorem ud3 (tm : Array Value) (td : List Item) (cs : List Frame) (Wg : Nat) : Try.prog.underlying (srcAt (d3 tm td cs Wg)) = some (.pointer (elemAt (d3 tm td cs Wg))) := by kernel_rfl
theorem vd3 (tm : Array Value) (td : List Item) (cs : List Frame) (Wg : Nat) : Try.prog.underlying (dstAt (d3 tm td cs Wg)) = some .unsafePointer := by kernel_rfl
theorem zd3 (tm : Array Value) (td : List Item) (cs : List Frame) (Wg : Nat) : (Try.prog.info? (elemAt (d3 tm td cs Wg))).map (fun i => decide (i.size = 0)) = some false := by kernel_rfl
theorem yd3 (tm : Array Value) (td : List Item) (cs : List Frame) (Wg : Nat) : seen PP (d3 tm td cs Wg).frame.fn #[] = #[] := by kernel_rfl
noncomputable def d4 (tm : Array Value) (td : List Item) (cs : List Frame) (Wg : Nat) : Goroutine := (aft (d3 tm td cs Wg) (.pointer (some (smA Wg))))
theorem ed4 (tm : Array Value) (td : List Item) (cs : List Frame) (Wg : Nat) : aft (d3 tm td cs Wg) (.pointer (some (smA Wg))) = d4 tm td cs Wg := by kernel_rfl
theorem sd3 (tm : Array Value) (td : List Item) (cs : List Frame) (Wg : Nat) {ty : TypeId} {w : World} {st sm : Int} (h : WgAt ty Wg w st sm) : stepG PP true (d3 tm td cs Wg) w = .go (d4 tm td cs Wg) w #[] := by
  rw [← ed4]
  exact (ad3 tm td cs Wg).value (by rw [xd3]; exact run_conv (ud3 tm td cs Wg) (vd3 tm td cs Wg) (zd3 tm td cs Wg) h.cellSm) (yd3 tm td cs Wg)
noncomputable def d4' (tm : Array Value) (td : List Item) (cs : List Frame) (Wg : Nat) : Goroutine := (nx PP true (d4 tm td cs Wg))
theorem sd4 (tm : Array Value) (td : List Item) (cs : List Frame) (Wg : Nat) (w : World) : stepG PP true (d4 tm td cs Wg) w = .go (d4' tm td cs Wg) w #[mk (.read (smA Wg))] := by kernel_rfl
theorem rd4 (tm : Array Value) (td : List Item) (cs : List Frame) (Wg : Nat) : (d4 tm td cs Wg).status = .running := by kernel_rfl
noncomputable def d5 (tm : Array Value) (td : List Item) (cs : List Frame) (Wg : Nat) : Goroutine := (nxs PP true 39 (d4' tm td cs Wg))
theorem ed5 (tm : Array Value) (td : List Item) (cs : List Frame) (Wg : Nat) : nxs PP true 39 (d4' tm td cs Wg) = d5 tm td cs Wg := by kernel_rfl
theorem id5 (tm : Array Value) (td : List Item) (cs : List Frame) (Wg : Nat) (w : World) : didL PP true 39 (d4' tm td cs Wg) w = askL PP true 39 (d4' tm td cs Wg) w := by kernel_rfl
theorem rd5 (tm : Array Value) (td : List Item) (cs : List Frame) (Wg : Nat) : (d5 tm td cs Wg).status = .running := by kernel_rfl
theorem sd5 (tm : Array Value) (td : List Item) (cs : List Frame) (Wg : Nat) (w : World) : stepG PP true (d5 tm td cs Wg) w = .go (nx PP true (d5 tm td cs Wg)) w #[mk .enable] := by kernel_rfl
theorem ed6 (tm : Array Value) (td : List Item) (cs : List Frame) (Wg : Nat) : nxs PP true 1 (nx PP true (d5 tm td cs Wg)) = G ((cf tm td).finish (.tuple #[])) cs := by kernel_rfl
theorem id6 (tm : Array Value) (td : List Item) (cs : List Frame) (Wg : Nat) (w : World) : didL PP true 1 (nx PP true (d5 tm td cs Wg)) w = askL PP true 1 (nx PP true (d5 tm td cs Wg)) w := by kernel_rfl
/-! the count is more -/
noncomputable def d7 (tm : Array Value) (td : List Item) (cs : List Frame) (Wg : Nat) (v : Nat) : Goroutine := nxs PP true 87 (aft (d2 tm td cs Wg) (.int .u64 (((v : Int) + 1) * KK)))
theorem id7 (tm : Array Value) (td : List Item) (cs : List Frame) (Wg : Nat) : ∀ (v : Nat), v < 4 → v ≠ 0 → ∀ w, didL PP true 87 (aft (d2 tm td cs Wg) (.int .u64 (((v : Int) + 1) * KK))) w = askL PP true 87 (aft (d2 tm td cs Wg) (.int .u64 (((v : Int) + 1) * KK))) w
  | 0, _, h => absurd rfl h
  | 1, _, _ => fun w => by kernel_rfl
  | 2, _, _ => fun w => by kernel_rfl
  | 3, _, _ => fun w => by kernel_rfl
  | _ + 4, h, _ => by omega
theorem sd7 (tm : Array Value) (td : List Item) (cs : List Frame) (Wg : Nat) : ∀ (v : Nat), v < 4 → v ≠ 0 → (d7 tm td cs Wg v).status = .running ∧ ∀ w, stepG PP true (d7 tm td cs Wg v) w = .go (nx PP true (d7 tm td cs Wg v)) w #[mk .enable] ∧ nxs PP true 1 (nx PP true (d7 tm td cs Wg v)) = G ((cf tm td).finish (.tuple #[])) cs ∧ didL PP true 1 (nx PP true (d7 tm td cs Wg v)) w = askL PP true 1 (nx PP true (d7 tm td cs Wg v)) w
  | 0, _, h => absurd rfl h
  | 1, _, _ => ⟨by kernel_rfl, fun w => ⟨by kernel_rfl, by kernel_rfl, by kernel_rfl⟩⟩
  | 2, _, _ => ⟨by kernel_rfl, fun w => ⟨by kernel_rfl, by kernel_rfl, by kernel_rfl⟩⟩
  | 3, _, _ => ⟨by kernel_rfl, fun w => ⟨by kernel_rfl, by kernel_rfl, by kernel_rfl⟩⟩
  | _ + 4, h, _ => by omega
/-! ### the script -/
/-- What is asked of the starter's rely and guarantee. -/
structure Hires (C : Crew) (j : Nat) (F : World → Prop) : Prop where
  trans : ∀ a b c, C.RC a b → C.RC b c → C.RC a c
  refl : ∀ w, C.RC w w
  idle : ∀ w, C.DC j w w #[]
  mark : ∀ w, C.DC j w w #[mk (.read (smA C.Wg))]
  live : ∀ w w', C.RC w w' → Live C w → Live C w'
  keep : ∀ w w', C.RC w w' → F w → F w'
  isLive : ∀ w, F w → Live C w
  set : ∀ w x st, F w → WgAt C.ty C.Wg w st 0 → F (w.setCell (stA C.Wg) (.int .u64 x))
section
variable {C : Crew} (hP : C.P = PP) (hm : C.many ≤ 4) (tm : Array Value) (td : List Item) (cs : List Frame) {j : Nat} {Next : Goroutine → World → Prop} {F : World → Prop} (H : Hires C j F) {M : Nat} (hgo : ∀ w, F w → Goes C.P true C.RC (C.DC j) (AtGo C j Next) M (G ((cf tm td).finish (.tuple #[])) cs) w)
include hP H hgo
theorem en5 {w : World} (hF : F w) : AtEn C j Next (d5 tm td cs C.Wg) w := by
  refine ⟨rd5 tm td cs C.Wg, _, by rw [hP]; exact sd5 tm td cs C.Wg w, M + 1, ?_⟩
  rw [hP] at hgo ⊢
  refine goes_nxs (n := 1) (m := M) H.trans H.idle (id6 tm td cs C.Wg) ?_
  rw [ed6]
  exact hgo _ hF
include hm
theorem en7 {w : World} {v : Nat} (hv : v < C.many) (h0 : v ≠ 0) (hF : F w) : AtEn C j Next (d7 tm td cs C.Wg v) w := by
  have h := sd7 tm td cs C.Wg v (by omega) h0
  refine ⟨h.1, _, by rw [hP]; exact (h.2 w).1, M + 1, ?_⟩
  rw [hP] at hgo ⊢
  refine goes_nxs (n := 1) (m := M) H.trans H.idle (fun w => (h.2 w).2.2) ?_
  rw [(h.2 w).2.1]
  exact hgo _ hF
theorem add2 {w : World} (hF : F w) : AtAdd C j Next (d2 tm td cs C.Wg) w := by
  refine ⟨(ad2 tm td cs C.Wg).run, fun v hv hw => ⟨_, by rw [hP]; exact sd2 tm td cs C.Wg (by omega) hw, ?_⟩⟩
  have hF' := H.set w ((v + 1) * KK) _ hF hw
  by_cases h0 : v = 0
  · subst h0
    refine ⟨0 + 39 + 1 + 1 + 52, ?_⟩
    have key : ∀ w, F w → Goes C.P true C.RC (C.DC j) (AtEn C j Next) (0 + 39) (d4' tm td cs C.Wg) w := fun w hF => by
      rw [hP]
      refine goes_nxs (n := 39) (m := 0) H.trans H.idle (id5 tm td cs C.Wg) ?_
      rw [ed5]
      exact fun w₁ hr => en5 hP tm td cs H hgo (H.keep _ _ hr hF)
    rw [hP] at key ⊢
    refine goes_nxs (n := 52) (m := 0 + 39 + 1 + 1) H.trans H.idle (id3 tm td cs C.Wg) ?_
    rw [ed3]
    refine goes_one (m := 0 + 39 + 1) (ad3 tm td cs C.Wg).run fun w₁ hr => ?_
    have hF₁ := H.keep _ _ hr hF'
    obtain ⟨st, sm, hw₁⟩ := H.isLive _ hF₁
    exact ⟨_, _, sd3 tm td cs C.Wg hw₁, H.idle w₁, goes_one (m := 0 + 39) (rd4 tm td cs C.Wg) fun w₂ hr₂ => ⟨_, _, sd4 tm td cs C.Wg w₂, H.mark w₂, key _ (H.keep _ _ hr₂ hF₁)⟩⟩
  · refine ⟨0 + 87, ?_⟩
    have h7 := id7 tm td cs C.Wg v (by omega) h0
    have hen : ∀ w, F w → AtEn C j Next (d7 tm td cs C.Wg v) w := fun w hF => en7 hP hm tm td cs H hgo hv h0 hF
    rw [hP]
    refine goes_nxs (n := 87) (m := 0) H.trans H.idle h7 ?_
    exact fun w₁ hr => hen _ (H.keep _ _ hr hF')
theorem add1 {w : World} (hF : F w) : AtDi C j Next (d1 tm td cs C.Wg) w := by
  refine ⟨rd1 tm td cs C.Wg, _, by rw [hP]; exact sd1 tm td cs C.Wg w, 0 + 34, ?_⟩
  have h2 : ∀ w, F w → AtAdd C j Next (d2 tm td cs C.Wg) w := fun w hF => add2 hP hm tm td cs H hgo hF
  rw [hP]
  refine goes_nxs (n := 34) (m := 0) H.trans H.idle (id2 tm td cs C.Wg) ?_
  rw [ed2]
  exact fun w₁ hr => h2 _ (H.keep _ _ hr hF)
/-- From the entry of Add(1). -/
theorem add_goes {w : World} (hF : F w) : Goes C.P true C.RC (C.DC j) (AtDi C j Next) 12 (gAdd tm td cs C.Wg) w := by
  have h1 : ∀ w, F w → AtDi C j Next (d1 tm td cs C.Wg) w := fun w hF => add1 hP hm tm td cs H hgo hF
  rw [hP]
  refine goes_nxs (n := 12) (m := 0) H.trans H.idle (id1 tm td cs C.Wg) ?_
  rw [ed1]
  exact fun w₁ hr => h1 _ (H.keep _ _ hr hF)
end
end Go.Proofs.Ytlpfogkfjjbklac.Wgs
namespace Go.Proofs.Ytlpfogkfjjbklac.Wgs
open Go.Conc Go.Proofs.Ytlpfogkfjjbklac.Crew
open Go.ConcR (KK wgBlock WgAt stA smA rd wr mk)
set_option linter.unusedVariables false
local notation "PP" => Try.prog
noncomputable def gWait (tm : Array Value) (td : List Item) (cs : List Frame) (Wg : Nat) : Goroutine := G (Frame.enter PP 26 #[.pointer (some ⟨Wg, 0, none⟩)] .normal) (cf tm td :: cs)
noncomputable def k1 (tm : Array Value) (td : List Item) (cs : List Frame) (Wg : Nat) : Goroutine := (nxs PP true 3 (gWait tm td cs Wg))
theorem ek1 (tm : Array Value) (td : List Item) (cs : List Frame) (Wg : Nat) : nxs PP true 3 (gWait tm td cs Wg) = k1 tm td cs Wg := by kernel_rfl
theorem ik1 (tm : Array Value) (td : List Item) (cs : List Frame) (Wg : Nat) (w : World) : didL PP true 3 (gWait tm td cs Wg) w = askL PP true 3 (gWait tm td cs Wg) w := by kernel_rfl
theorem rk1 (tm : Array Value) (td : List Item) (cs : List Frame) (Wg : Nat) : (k1 tm td cs Wg).status = .running := by kernel_rfl
noncomputable def k1' (tm : Array Value) (td : List Item) (cs : List Frame) (Wg : Nat) : Goroutine := (nx PP true (k1 tm td cs Wg))
theorem sk1 (tm : Array Value) (td : List Item) (cs : List Frame) (Wg : Nat) (w : World) : stepG PP true (k1 tm td cs Wg) w = .go (k1' tm td cs Wg) w #[mk .disable] := by kernel_rfl
/-- The temporaries of Wait: the group, and whatever else. -/
def TT (Wg : Nat) (u : Nat → Value) : Array Value := #[.pointer (some ⟨Wg, 0, none⟩), u 1, u 2, u 3, u 4, u 5, u 6, u 7, u 8, u 9, u 10, u 11, u 12, u 13, u 14, u 15, u 16, u 17, u 18, u 19, u 20, u 21, u 22, u 23, u 24, u 25, u 26, u 27, u 28, u 29, u 30, u 31, u 32, u 33, u 34, u 35, u 36, u 37, u 38, u 39, u 40, u 41, u 42, u 43, u 44, u 45, u 46, u 47, u 48, u 49, u 50, u 51, u 52, u 53, u 54, u 55, u 56, u 57, u 58, u 59, u 60, u 61, u 62, u 63, u 64, u 65, u 66, u 67, u 68, u 69, u 70, u 71, u 72, u 73, u 74, u 75, u 76, u 77, u 78, u 79, u 80, u 81, u 82, u 83]
noncomputable def hTodo : List Item := (nxs PP true 3 (k1' #[] [] [] 0)).frame.todo
/-- At the head of the loop. -/
noncomputable def hd (tm : Array Value) (td : List Item) (cs : List Frame) (Wg : Nat) (u : Nat → Value) : Goroutine := G { fn := 26, tmps := TT Wg u, todo := hTodo, defers := [], mode := .run, kind := .normal } (cf tm td :: cs)
theorem ek2 (tm : Array Value) (td : List Item) (cs : List Frame) (Wg : Nat) : nxs PP true 3 (k1' tm td cs Wg) = hd tm td cs Wg (fun i => (nxs PP true 3 (k1' tm td cs Wg)).frame.tmps.getD i undef) := by kernel_rfl
theorem ik2 (tm : Array Value) (td : List Item) (cs : List Frame) (Wg : Nat) (w : World) : didL PP true 3 (k1' tm td cs Wg) w = askL PP true 3 (k1' tm td cs Wg) w := by kernel_rfl
theorem rhd (tm : Array Value) (td : List Item) (cs : List Frame) (Wg : Nat) (u : Nat → Value) : (hd tm td cs Wg u).status = .running := by kernel_rfl
noncomputable def kl (tm : Array Value) (td : List Item) (cs : List Frame) (Wg : Nat) (u : Nat → Value) : Goroutine := (nxs PP true 16 (hd tm td cs Wg u))
theorem ekl (tm : Array Value) (td : List Item) (cs : List Frame) (Wg : Nat) (u : Nat → Value) : nxs PP true 16 (hd tm td cs Wg u) = kl tm td cs Wg u := by kernel_rfl
theorem ikl (tm : Array Value) (td : List Item) (cs : List Frame) (Wg : Nat) (u : Nat → Value) (w : World) : didL PP true 16 (hd tm td cs Wg u) w = askL PP true 16 (hd tm td cs Wg u) w := by kernel_rfl
theorem akl (tm : Array Value) (td : List Item) (cs : List Frame) (Wg : Nat) (u : Nat → Value) : Stands (kl tm td cs Wg u) := ⟨by kernel_rfl, by kernel_rfl, by kernel_rfl, by kernel_rfl, by kernel_rfl, by kernel_rfl, by kernel_rfl, by kernel_rfl⟩
theorem xkla (tm : Array Value) (td : List Item) (cs : List Frame) (Wg : Nat) (u : Nat → Value) : nf PP (semAt (kl tm td cs Wg u)) = .mark (.extern (xF PP (semAt (kl tm td cs Wg u)))) (xK PP (semAt (kl tm td cs Wg u))) := by kernel_rfl
theorem xklb (tm : Array Value) (td : List Item) (cs : List Frame) (Wg : Nat) (u : Nat → Value) : xK PP (semAt (kl tm td cs Wg u)) = .load .atomic (stA Wg) (lK (xK PP (semAt (kl tm td cs Wg u)))) := by kernel_rfl
theorem ykl (tm : Array Value) (td : List Item) (cs : List Frame) (Wg : Nat) (u : Nat → Value) : seen PP (kl tm td cs Wg u).frame.fn #[mkx (xF PP (semAt (kl tm td cs Wg u))), rd (stA Wg)] = #[rd (stA Wg)] := by kernel_rfl
theorem xklc (tm : Array Value) (td : List Item) (cs : List Frame) (Wg : Nat) (u : Nat → Value) : ∀ v : Nat, v ≤ 4 → nf PP (lK (xK PP (semAt (kl tm td cs Wg u))) (.int .u64 ((v : Int) * KK))) = .pure (.value (.int .u64 ((v : Int) * KK)))
  | 0, _ => by kernel_rfl
  | 1, _ => by kernel_rfl
  | 2, _ => by kernel_rfl
  | 3, _ => by kernel_rfl
  | 4, _ => by kernel_rfl
  | _ + 5, h => by omega
/-- The load. -/
theorem skl (tm : Array Value) (td : List Item) (cs : List Frame) (Wg : Nat) (u : Nat → Value) {ty : TypeId} {w : World} {v : Nat} (hv : v ≤ 4) (h : WgAt ty Wg w ((v : Int) * KK) 0) : stepG PP true (kl tm td cs Wg u) w = .go (aft (kl tm td cs Wg u) (.int .u64 ((v : Int) * KK))) w #[rd (stA Wg)] :=
  (akl tm td cs Wg u).value (run_ld (xkla tm td cs Wg u) (xklb tm td cs Wg u) (xklc tm td cs Wg u v hv) h.cellSt) (ykl tm td cs Wg u)
/-! nobody is there any more -/
noncomputable def ke (tm : Array Value) (td : List Item) (cs : List Frame) (Wg : Nat) (u : Nat → Value) : Goroutine := (nxs PP true 31 (aft (kl tm td cs Wg u) (.int .u64 (((0 : Nat) : Int) * KK))))
theorem eke (tm : Array Value) (td : List Item) (cs : List Frame) (Wg : Nat) (u : Nat → Value) : nxs PP true 31 (aft (kl tm td cs Wg u) (.int .u64 (((0 : Nat) : Int) * KK))) = ke tm td cs Wg u := by kernel_rfl
theorem ike (tm : Array Value) (td : List Item) (cs : List Frame) (Wg : Nat) (u : Nat → Value) (w : World) : didL PP true 31 (aft (kl tm td cs Wg u) (.int .u64 (((0 : Nat) : Int) * KK))) w = askL PP true 31 (aft (kl tm td cs Wg u) (.int .u64 (((0 : Nat) : Int) * KK))) w := by kernel_rfl
theorem rke (tm : Array Value) (td : List Item) (cs : List Frame) (Wg : Nat) (u : Nat → Value) : (ke tm td cs Wg u).status = .running := by kernel_rfl
noncomputable def ke' (tm : Array Value) (td : List Item) (cs : List Frame) (Wg : Nat) (u : Nat → Value) : Goroutine := (nx PP true (ke tm td cs Wg u))
theorem ske (tm : Array Value) (td : List Item) (cs : List Frame) (Wg : Nat) (u : Nat → Value) (w : World) : stepG PP true (ke tm td cs Wg u) w = .go (ke' tm td cs Wg u) w #[mk .enable] := by kernel_rfl
noncomputable def kv (tm : Array Value) (td : List Item) (cs : List Frame) (Wg : Nat) (u : Nat → Value) : Goroutine := (nxs PP true 3 (ke' tm td cs Wg u))
theorem ekv (tm : Array Value) (td : List Item) (cs : List Frame) (Wg : Nat) (u : Nat → Value) : nxs PP true 3 (ke' tm td cs Wg u) = kv tm td cs Wg u := by kernel_rfl
theorem ikv (tm : Array Value) (td : List Item) (cs : List Frame) (Wg : Nat) (u : Nat → Value) (w : World) : didL PP true 3 (ke' tm td cs Wg u) w = askL PP true 3 (ke' tm td cs Wg u) w := by kernel_rfl
theorem akv (tm : Array Value) (td : List Item) (cs : List Frame) (Wg : Nat) (u : Nat → Value) : Stands (kv tm td cs Wg u) := ⟨by kernel_rfl, by kernel_rfl, by kernel_rfl, by kernel_rfl, by kernel_rfl, by kernel_rfl, by kernel_rfl, by kernel_rfl⟩
theorem xkv (tm : Array Value) (td : List Item) (cs : List Frame) (Wg : Nat) (u : Nat → Value) : semAt (kv tm td cs Wg u) = (convert (srcAt (kv tm td cs Wg u)) (dstAt (kv tm td cs Wg u)) (.pointer (some (stA Wg))) >>= fun v => pure (.value v)) := by kernel_rfl
theorem ukv (tm : Array Value) (td : List Item) (cs : List Frame) (Wg : Nat) (u : Nat → Value) : Try.prog.underlying (srcAt (kv tm td cs Wg u)) = some (.pointer (elemAt (kv tm td cs Wg u))) := by kernel_rfl
theorem vkv (tm : Array Value) (td : List Item) (cs : List Frame) (Wg : Nat) (u : Nat → Value) : Try.prog.underlying (dstAt (kv tm td cs Wg u)) = some .unsafePointer := by kernel_rfl
theorem zkv (tm : Array Value) (td : List Item) (cs : List Frame) (Wg : Nat) (u : Nat → Value) : (Try.prog.info? (elemAt (kv tm td cs Wg u))).map (fun i => decide (i.size = 0)) = some false := by kernel_rfl
theorem ykv (tm : Array Value) (td : List Item) (cs : List Frame) (Wg : Nat) (u : Nat → Value) : seen PP (kv tm td cs Wg u).frame.fn #[] = #[] := by kernel_rfl
noncomputable def kq (tm : Array Value) (td : List Item) (cs : List Frame) (Wg : Nat) (u : Nat → Value) : Goroutine := (aft (kv tm td cs Wg u) (.pointer (some (stA Wg))))
theorem ekq (tm : Array Value) (td : List Item) (cs : List Frame) (Wg : Nat) (u : Nat → Value) : aft (kv tm td cs Wg u) (.pointer (some (stA Wg))) = kq tm td cs Wg u := by kernel_rfl
theorem skv (tm : Array Value) (td : List Item) (cs : List Frame) (Wg : Nat) (u : Nat → Value) {ty : TypeId} {w : World} {st sm : Int} (h : WgAt ty Wg w st sm) : stepG PP true (kv tm td cs Wg u) w = .go (kq tm td cs Wg u) w #[] := by
  rw [← ekq]
  exact (akv tm td cs Wg u).value (by rw [xkv]; exact run_conv (ukv tm td cs Wg u) (vkv tm td cs Wg u) (zkv tm td cs Wg u) h.cellSt) (ykv tm td cs Wg u)
theorem rkq (tm : Array Value) (td : List Item) (cs : List Frame) (Wg : Nat) (u : Nat → Value) : (kq tm td cs Wg u).status = .running := by kernel_rfl
noncomputable def kq' (tm : Array Value) (td : List Item) (cs : List Frame) (Wg : Nat) (u : Nat → Value) : Goroutine := (nx PP true (kq tm td cs Wg u))
theorem skq (tm : Array Value) (td : List Item) (cs : List Frame) (Wg : Nat) (u : Nat → Value) (w : World) : stepG PP true (kq tm td cs Wg u) w = .go (kq' tm td cs Wg u) w #[mk (.acquire (stA Wg))] := by kernel_rfl
theorem ekz (tm : Array Value) (td : List Item) (cs : List Frame) (Wg : Nat) (u : Nat → Value) : nxs PP true 20 (kq' tm td cs Wg u) = G ((cf tm td).finish (.tuple #[])) cs := by kernel_rfl
theorem ikz (tm : Array Value) (td : List Item) (cs : List Frame) (Wg : Nat) (u : Nat → Value) (w : World) : didL PP true 20 (kq' tm td cs Wg u) w = askL PP true 20 (kq' tm td cs Wg u) w := by kernel_rfl
end Go.Proofs.Ytlpfogkfjjbklac.Wgs
namespace Go.Proofs.Ytlpfogkfjjbklac.Wgs
open Go.Conc Go.Proofs.Ytlpfogkfjjbklac.Crew
open Go.ConcR (KK wgBlock WgAt stA smA rd wr mk)
set_option linter.unusedVariables false
local notation "PP" => Try.prog
theorem run_cas_hit {P : Program} {e : Sem Next} {f : FuncId} {k : IntKind} {ad : Addr} {v n : Int} {w : World} (h : nf P e = .mark (.extern f) (casBody k ad v n >>= fun v => pure (.value v))) (hc : w.cell? ad = some (.int k v)) (hz : w.frozen? ad = false) :
    e.runT P w #[] = (.ok (.value (.bool true)) (w.setCell ad (.int k n)), #[mkx f, rd ad, wr ad]) := by
  rw [← nf_run, h, Sem.runT, Sem.runT_eq, Sem.events_bind, Sem.run_bind, run_cas_hit_entry hc hz, events_cas_hit_entry hc hz]
  rfl
theorem run_cas_miss {P : Program} {e : Sem Next} {f : FuncId} {k : IntKind} {ad : Addr} {v old n : Int} {w : World} (h : nf P e = .mark (.extern f) (casBody k ad old n >>= fun v => pure (.value v))) (hc : w.cell? ad = some (.int k v)) (hz : w.frozen? ad = false) (hne : ¬ v = old) :
    e.runT P w #[] = (.ok (.value (.bool false)) w, #[mkx f, rd ad]) := by
  rw [← nf_run, h, Sem.runT, Sem.runT_eq, Sem.events_bind, Sem.run_bind, run_cas_miss_entry hc hz hne, events_cas_miss_entry hc hz hne]
  rfl
noncomputable def kc (tm : Array Value) (td : List Item) (cs : List Frame) (Wg : Nat) (u : Nat → Value) (v : Nat) : Goroutine := nxs PP true 48 (aft (kl tm td cs Wg u) (.int .u64 ((v : Int) * KK)))
noncomputable def kc1 (tm : Array Value) (td : List Item) (cs : List Frame) (Wg : Nat) (u : Nat → Value) : Goroutine := kc tm td cs Wg u 1
noncomputable def cTodo : List Item := (nxs PP true 4 (aft (kc1 #[] [] [] 0 (fun _ => undef)) (.bool true))).frame.todo
/-- Behind the exchange. -/
noncomputable def gC (tm : Array Value) (td : List Item) (cs : List Frame) (Wg : Nat) (u : Nat → Value) (s : Int) (b : Bool) : Goroutine := G { fn := 26, tmps := #[.pointer (some ⟨Wg, 0, none⟩), u 1, .int .u64 s, u 3, .int .u32 0, u 5, u 6, u 7, u 8, u 9, u 10, u 11, u 12, u 13, u 14, u 15, u 16, u 17, u 18, u 19, u 20, u 21, u 22, u 23, u 24, u 25, u 26, u 27, u 28, u 29, u 30, u 31, u 32, u 33, u 34, u 35, u 36, u 37, u 38, u 39, u 40, u 41, u 42, u 43, u 44, u 45, u 46, u 47, .bool b, u 49, u 50, u 51, u 52, u 53, u 54, u 55, u 56, u 57, u 58, u 59, u 60, u 61, u 62, u 63, u 64, u 65, u 66, u 67, u 68, u 69, u 70, u 71, u 72, u 73, u 74, u 75, u 76, u 77, u 78, u 79, u 80, u 81, u 82, u 83], todo := cTodo, defers := [], mode := .run, kind := .normal } (cf tm td :: cs)
def cFacts (tm : Array Value) (td : List Item) (cs : List Frame) (Wg : Nat) (u : Nat → Value) (v : Nat) : Prop := (∀ w, didL PP true 48 (aft (kl tm td cs Wg u) (.int .u64 ((v : Int) * KK))) w = askL PP true 48 (aft (kl tm td cs Wg u) (.int .u64 ((v : Int) * KK))) w) ∧ Stands (kc tm td cs Wg u v) ∧
  nf PP (semAt (kc tm td cs Wg u v)) = .mark (.extern (xF PP (semAt (kc tm td cs Wg u v)))) (casBody .u64 (stA Wg) ((v : Int) * KK) ((v : Int) * KK + 1) >>= fun v => pure (.value v)) ∧
  seen PP (kc tm td cs Wg u v).frame.fn #[mkx (xF PP (semAt (kc tm td cs Wg u v))), rd (stA Wg), wr (stA Wg)] = #[rd (stA Wg), wr (stA Wg)] ∧ seen PP (kc tm td cs Wg u v).frame.fn #[mkx (xF PP (semAt (kc tm td cs Wg u v))), rd (stA Wg)] = #[rd (stA Wg)]
def bFacts (tm : Array Value) (td : List Item) (cs : List Frame) (Wg : Nat) (u : Nat → Value) (v : Nat) (b : Bool) : Prop := nxs PP true 4 (aft (kc tm td cs Wg u v) (.bool b)) = gC tm td cs Wg (fun i => (nxs PP true 4 (aft (kc tm td cs Wg u v) (.bool b))).frame.tmps.getD i undef) ((v : Int) * KK) b ∧ (∀ w, didL PP true 4 (aft (kc tm td cs Wg u v) (.bool b)) w = askL PP true 4 (aft (kc tm td cs Wg u v) (.bool b)) w)
theorem fc1 (tm : Array Value) (td : List Item) (cs : List Frame) (Wg : Nat) (u : Nat → Value) : cFacts tm td cs Wg u 1 := ⟨fun w => by kernel_rfl, ⟨by kernel_rfl, by kernel_rfl, by kernel_rfl, by kernel_rfl, by kernel_rfl, by kernel_rfl, by kernel_rfl, by kernel_rfl⟩, by kernel_rfl, by kernel_rfl, by kernel_rfl⟩
theorem fb1 (tm : Array Value) (td : List Item) (cs : List Frame) (Wg : Nat) (u : Nat → Value) : ∀ b, bFacts tm td cs Wg u 1 b
  | true => ⟨by kernel_rfl, fun w => by kernel_rfl⟩
  | false => ⟨by kernel_rfl, fun w => by kernel_rfl⟩
theorem fc2 (tm : Array Value) (td : List Item) (cs : List Frame) (Wg : Nat) (u : Nat → Value) : cFacts tm td cs Wg u 2 := ⟨fun w => by kernel_rfl, ⟨by kernel_rfl, by kernel_rfl, by kernel_rfl, by kernel_rfl, by kernel_rfl, by kernel_rfl, by kernel_rfl, by kernel_rfl⟩, by kernel_rfl, by kernel_rfl, by kernel_rfl⟩
theorem fb2 (tm : Array Value) (td : List Item) (cs : List Frame) (Wg : Nat) (u : Nat → Value) : ∀ b, bFacts tm td cs Wg u 2 b
  | true => ⟨by kernel_rfl, fun w => by kernel_rfl⟩
  | false => ⟨by kernel_rfl, fun w => by kernel_rfl⟩
theorem fc3 (tm : Array Value) (td : List Item) (cs : List Frame) (Wg : Nat) (u : Nat → Value) : cFacts tm td cs Wg u 3 := ⟨fun w => by kernel_rfl, ⟨by kernel_rfl, by kernel_rfl, by kernel_rfl, by kernel_rfl, by kernel_rfl, by kernel_rfl, by kernel_rfl, by kernel_rfl⟩, by kernel_rfl, by kernel_rfl, by kernel_rfl⟩
theorem fb3 (tm : Array Value) (td : List Item) (cs : List Frame) (Wg : Nat) (u : Nat → Value) : ∀ b, bFacts tm td cs Wg u 3 b
  | true => ⟨by kernel_rfl, fun w => by kernel_rfl⟩
  | false => ⟨by kernel_rfl, fun w => by kernel_rfl⟩
theorem fc4 (tm : Array Value) (td : List Item) (cs : List Frame) (Wg : Nat) (u : Nat → Value) : cFacts tm td cs Wg u 4 := ⟨fun w => by kernel_rfl, ⟨by kernel_rfl, by kernel_rfl, by kernel_rfl, by kernel_rfl, by kernel_rfl, by kernel_rfl, by kernel_rfl, by kernel_rfl⟩, by kernel_rfl, by kernel_rfl, by kernel_rfl⟩
theorem fb4 (tm : Array Value) (td : List Item) (cs : List Frame) (Wg : Nat) (u : Nat → Value) : ∀ b, bFacts tm td cs Wg u 4 b
  | true => ⟨by kernel_rfl, fun w => by kernel_rfl⟩
  | false => ⟨by kernel_rfl, fun w => by kernel_rfl⟩
theorem fc (tm : Array Value) (td : List Item) (cs : List Frame) (Wg : Nat) (u : Nat → Value) : ∀ v : Nat, v ≤ 4 → v ≠ 0 → cFacts tm td cs Wg u v ∧ ∀ b, bFacts tm td cs Wg u v b
  | 0, _, h => absurd rfl h
  | 1, _, _ => ⟨fc1 tm td cs Wg u, fb1 tm td cs Wg u⟩
  | 2, _, _ => ⟨fc2 tm td cs Wg u, fb2 tm td cs Wg u⟩
  | 3, _, _ => ⟨fc3 tm td cs Wg u, fb3 tm td cs Wg u⟩
  | 4, _, _ => ⟨fc4 tm td cs Wg u, fb4 tm td cs Wg u⟩
  | _ + 5, h, _ => by omega
/-! it has failed -/
theorem ekf (tm : Array Value) (td : List Item) (cs : List Frame) (Wg : Nat) (u : Nat → Value) (s : Int) : nxs PP true 5 (gC tm td cs Wg u s false) = hd tm td cs Wg (fun i => (nxs PP true 5 (gC tm td cs Wg u s false)).frame.tmps.getD i undef) := by kernel_rfl
theorem ikf (tm : Array Value) (td : List Item) (cs : List Frame) (Wg : Nat) (u : Nat → Value) (s : Int) (w : World) : didL PP true 5 (gC tm td cs Wg u s false) w = askL PP true 5 (gC tm td cs Wg u s false) w := by kernel_rfl
/-! it has been made -/
noncomputable def km (tm : Array Value) (td : List Item) (cs : List Frame) (Wg : Nat) (u : Nat → Value) (s : Int) : Goroutine := (nxs PP true 15 (gC tm td cs Wg u s true))
theorem ekm (tm : Array Value) (td : List Item) (cs : List Frame) (Wg : Nat) (u : Nat → Value) (s : Int) : nxs PP true 15 (gC tm td cs Wg u s true) = km tm td cs Wg u s := by kernel_rfl
theorem ikm (tm : Array Value) (td : List Item) (cs : List Frame) (Wg : Nat) (u : Nat → Value) (s : Int) (w : World) : didL PP true 15 (gC tm td cs Wg u s true) w = askL PP true 15 (gC tm td cs Wg u s true) w := by kernel_rfl
theorem akm (tm : Array Value) (td : List Item) (cs : List Frame) (Wg : Nat) (u : Nat → Value) (s : Int) : Stands (km tm td cs Wg u s) := ⟨by kernel_rfl, by kernel_rfl, by kernel_rfl, by kernel_rfl, by kernel_rfl, by kernel_rfl, by kernel_rfl, by kernel_rfl⟩
theorem xkm (tm : Array Value) (td : List Item) (cs : List Frame) (Wg : Nat) (u : Nat → Value) (s : Int) : semAt (km tm td cs Wg u s) = (convert (srcAt (km tm td cs Wg u s)) (dstAt (km tm td cs Wg u s)) (.pointer (some (smA Wg))) >>= fun v => pure (.value v)) := by kernel_rfl
theorem ukm (tm : Array Value) (td : List Item) (cs : List Frame) (Wg : Nat) (u : Nat → Value) (s : Int) : Try.prog.underlying (srcAt (km tm td cs Wg u s)) = some (.pointer (elemAt (km tm td cs Wg u s))) := by kernel_rfl
theorem vkm (tm : Array Value) (td : List Item) (cs : List Frame) (Wg : Nat) (u : Nat → Value) (s : Int) : Try.prog.underlying (dstAt (km tm td cs Wg u s)) = some .unsafePointer := by kernel_rfl
theorem zkm (tm : Array Value) (td : List Item) (cs : List Frame) (Wg : Nat) (u : Nat → Value) (s : Int) : (Try.prog.info? (elemAt (km tm td cs Wg u s))).map (fun i => decide (i.size = 0)) = some false := by kernel_rfl
theorem ykm (tm : Array Value) (td : List Item) (cs : List Frame) (Wg : Nat) (u : Nat → Value) (s : Int) : seen PP (km tm td cs Wg u s).frame.fn #[] = #[] := by kernel_rfl
noncomputable def kn (tm : Array Value) (td : List Item) (cs : List Frame) (Wg : Nat) (u : Nat → Value) (s : Int) : Goroutine := (aft (km tm td cs Wg u s) (.pointer (some (smA Wg))))
theorem ekn (tm : Array Value) (td : List Item) (cs : List Frame) (Wg : Nat) (u : Nat → Value) (s : Int) : aft (km tm td cs Wg u s) (.pointer (some (smA Wg))) = kn tm td cs Wg u s := by kernel_rfl
theorem skm (tm : Array Value) (td : List Item) (cs : List Frame) (Wg : Nat) (u : Nat → Value) (s : Int) {ty : TypeId} {w : World} {st sm : Int} (h : WgAt ty Wg w st sm) : stepG PP true (km tm td cs Wg u s) w = .go (kn tm td cs Wg u s) w #[] := by
  rw [← ekn]
  exact (akm tm td cs Wg u s).value (by rw [xkm]; exact run_conv (ukm tm td cs Wg u s) (vkm tm td cs Wg u s) (zkm tm td cs Wg u s) h.cellSm) (ykm tm td cs Wg u s)
theorem rkn (tm : Array Value) (td : List Item) (cs : List Frame) (Wg : Nat) (u : Nat → Value) (s : Int) : (kn tm td cs Wg u s).status = .running := by kernel_rfl
noncomputable def kn' (tm : Array Value) (td : List Item) (cs : List Frame) (Wg : Nat) (u : Nat → Value) (s : Int) : Goroutine := (nx PP true (kn tm td cs Wg u s))
theorem skn (tm : Array Value) (td : List Item) (cs : List Frame) (Wg : Nat) (u : Nat → Value) (s : Int) (w : World) : stepG PP true (kn tm td cs Wg u s) w = .go (kn' tm td cs Wg u s) w #[mk (.write (smA Wg))] := by kernel_rfl
noncomputable def aTodo : List Item := (nxs PP true 23 (kn' #[] [] [] 0 (fun _ => undef) ((1 : Int) * KK))).frame.todo
/-- At the semaphore. -/
noncomputable def ka (tm : Array Value) (td : List Item) (cs : List Frame) (Wg : Nat) (u : Nat → Value) : Goroutine := G { fn := 26, tmps := #[.pointer (some ⟨Wg, 0, none⟩), u 1, u 2, u 3, u 4, u 5, u 6, u 7, u 8, u 9, u 10, u 11, u 12, u 13, u 14, u 15, u 16, u 17, u 18, u 19, u 20, u 21, u 22, u 23, u 24, u 25, u 26, u 27, u 28, u 29, u 30, u 31, u 32, u 33, u 34, u 35, u 36, u 37, u 38, u 39, u 40, u 41, u 42, u 43, u 44, u 45, u 46, u 47, u 48, u 49, u 50, u 51, u 52, u 53, u 54, u 55, u 56, u 57, u 58, u 59, u 60, u 61, u 62, u 63, u 64, u 65, u 66, u 67, u 68, u 69, .pointer (some (smA Wg)), .bool false, u 72, u 73, u 74, u 75, u 76, u 77, u 78, u 79, u 80, u 81, u 82, u 83], todo := aTodo, defers := [], mode := .run, kind := .normal } (cf tm td :: cs)
def aFacts (tm : Array Value) (td : List Item) (cs : List Frame) (Wg : Nat) (u : Nat → Value) (s : Int) : Prop := nxs PP true 23 (kn' tm td cs Wg u s) = ka tm td cs Wg (fun i => (nxs PP true 23 (kn' tm td cs Wg u s)).frame.tmps.getD i undef) ∧ (∀ w, didL PP true 23 (kn' tm td cs Wg u s) w = askL PP true 23 (kn' tm td cs Wg u s) w)
theorem fa1 (tm : Array Value) (td : List Item) (cs : List Frame) (Wg : Nat) (u : Nat → Value) : aFacts tm td cs Wg u ((1 : Nat) * KK) := ⟨by kernel_rfl, fun w => by kernel_rfl⟩
theorem fa2 (tm : Array Value) (td : List Item) (cs : List Frame) (Wg : Nat) (u : Nat → Value) : aFacts tm td cs Wg u ((2 : Nat) * KK) := ⟨by kernel_rfl, fun w => by kernel_rfl⟩
theorem fa3 (tm : Array Value) (td : List Item) (cs : List Frame) (Wg : Nat) (u : Nat → Value) : aFacts tm td cs Wg u ((3 : Nat) * KK) := ⟨by kernel_rfl, fun w => by kernel_rfl⟩
theorem fa4 (tm : Array Value) (td : List Item) (cs : List Frame) (Wg : Nat) (u : Nat → Value) : aFacts tm td cs Wg u ((4 : Nat) * KK) := ⟨by kernel_rfl, fun w => by kernel_rfl⟩
theorem fa (tm : Array Value) (td : List Item) (cs : List Frame) (Wg : Nat) (u : Nat → Value) : ∀ v : Nat, v ≤ 4 → v ≠ 0 → aFacts tm td cs Wg u ((v : Int) * KK)
  | 0, _, h => absurd rfl h
  | 1, _, _ => fa1 tm td cs Wg u
  | 2, _, _ => fa2 tm td cs Wg u
  | 3, _, _ => fa3 tm td cs Wg u
  | 4, _, _ => fa4 tm td cs Wg u
  | _ + 5, h, _ => by omega
theorem aka (tm : Array Value) (td : List Item) (cs : List Frame) (Wg : Nat) (u : Nat → Value) : Stands (ka tm td cs Wg u) := ⟨by kernel_rfl, by kernel_rfl, by kernel_rfl, by kernel_rfl, by kernel_rfl, by kernel_rfl, by kernel_rfl, by kernel_rfl⟩
theorem xka1 (tm : Array Value) (td : List Item) (cs : List Frame) (Wg : Nat) (u : Nat → Value) : nf PP (semAt (ka tm td cs Wg u)) = .mark (.extern (xF PP (semAt (ka tm td cs Wg u)))) (xK PP (semAt (ka tm td cs Wg u))) := by kernel_rfl
theorem xka2 (tm : Array Value) (td : List Item) (cs : List Frame) (Wg : Nat) (u : Nat → Value) : nf PP (xK PP (semAt (ka tm td cs Wg u))) = .mark .disable (xK PP (xK PP (semAt (ka tm td cs Wg u)))) := by kernel_rfl
theorem xka3 (tm : Array Value) (td : List Item) (cs : List Frame) (Wg : Nat) (u : Nat → Value) : xK PP (xK PP (semAt (ka tm td cs Wg u))) = .load .atomic (smA Wg) (lK (xK PP (xK PP (semAt (ka tm td cs Wg u))))) := by kernel_rfl
theorem xka4 (tm : Array Value) (td : List Item) (cs : List Frame) (Wg : Nat) (u : Nat → Value) : nf PP (lK (xK PP (xK PP (semAt (ka tm td cs Wg u)))) (.int .u32 1)) = .store .atomic (smA Wg) (.int .u32 0) (sK (nf PP (lK (xK PP (xK PP (semAt (ka tm td cs Wg u)))) (.int .u32 1)))) := by kernel_rfl
theorem xka5 (tm : Array Value) (td : List Item) (cs : List Frame) (Wg : Nat) (u : Nat → Value) : nf PP (sK (nf PP (lK (xK PP (xK PP (semAt (ka tm td cs Wg u)))) (.int .u32 1)))) = .mark .enable (xK PP (sK (nf PP (lK (xK PP (xK PP (semAt (ka tm td cs Wg u)))) (.int .u32 1))))) := by kernel_rfl
theorem xka6 (tm : Array Value) (td : List Item) (cs : List Frame) (Wg : Nat) (u : Nat → Value) : xK PP (sK (nf PP (lK (xK PP (xK PP (semAt (ka tm td cs Wg u)))) (.int .u32 1)))) = .pure (.value (.tuple #[])) := by kernel_rfl
theorem xka0 (tm : Array Value) (td : List Item) (cs : List Frame) (Wg : Nat) (u : Nat → Value) : nf PP (lK (xK PP (xK PP (semAt (ka tm td cs Wg u)))) (.int .u32 0)) = .halt .blocked := by kernel_rfl
theorem yka (tm : Array Value) (td : List Item) (cs : List Frame) (Wg : Nat) (u : Nat → Value) : seen PP (ka tm td cs Wg u).frame.fn (#[mkx (xF PP (semAt (ka tm td cs Wg u)))] ++ semEvents (smA Wg)) = semEvents (smA Wg) := by kernel_rfl
theorem oka (tm : Array Value) (td : List Item) (cs : List Frame) (Wg : Nat) (u : Nat → Value) : (ka tm td cs Wg u).offers = none := by kernel_rfl
/-- The semaphore has been given to: it is taken. -/
theorem ska (tm : Array Value) (td : List Item) (cs : List Frame) (Wg : Nat) (u : Nat → Value) {ty : TypeId} {w : World} {st : Int} (h : WgAt ty Wg w st 1) : stepG PP true (ka tm td cs Wg u) w = .go (aft (ka tm td cs Wg u) (.tuple #[])) (w.setCell (smA Wg) (.int .u32 0)) (semEvents (smA Wg)) :=
  (aka tm td cs Wg u).value (run_sem (xka1 tm td cs Wg u) (xka2 tm td cs Wg u) (xka3 tm td cs Wg u) (xka4 tm td cs Wg u) (xka5 tm td cs Wg u) (xka6 tm td cs Wg u) h.cellSm (h.thaw _)) (yka tm td cs Wg u)
theorem Stands.blocks {P : Program} {main : Bool} {g : Goroutine} (h : Stands g) {w : World} {es : Array Event} (hr : (semAt g).runT P w #[] = (.halt .blocked w, es)) (ho : g.offers = none) : stepG P main g w = .go { g with status := .blocked } w #[] := by
  rw [h.step w]
  simp only [stepG.apply, if_true, hr]
  obtain ⟨_, _, _, _, h5, _, h7, _⟩ := h
  obtain ⟨fr, callers, status, dying, offers⟩ := g
  simp only at h5 h7 ho
  subst h5 h7 ho
  simp [GStep.after, seen_none]
/-- .. it has not: the starter is parked. -/
theorem ska0 (tm : Array Value) (td : List Item) (cs : List Frame) (Wg : Nat) (u : Nat → Value) {ty : TypeId} {w : World} {st : Int} (h : WgAt ty Wg w st 0) : stepG PP true (ka tm td cs Wg u) w = .go { (ka tm td cs Wg u) with status := .blocked } w #[] := by
  refine (aka tm td cs Wg u).blocks (es := #[mkx (xF PP (semAt (ka tm td cs Wg u))), mk .disable, rd (smA Wg)]) ?_ (oka tm td cs Wg u)
  rw [← nf_run, xka1, Sem.runT, ← nf_run, xka2, Sem.runT, xka3, Sem.runT, h.cellSm]
  simp only
  rw [← nf_run, xka0]
  rfl
noncomputable def kb (tm : Array Value) (td : List Item) (cs : List Frame) (Wg : Nat) (u : Nat → Value) : Goroutine := (nxs PP true 16 (aft (ka tm td cs Wg u) (.tuple #[])))
theorem ekb (tm : Array Value) (td : List Item) (cs : List Frame) (Wg : Nat) (u : Nat → Value) : nxs PP true 16 (aft (ka tm td cs Wg u) (.tuple #[])) = kb tm td cs Wg u := by kernel_rfl
theorem ikb (tm : Array Value) (td : List Item) (cs : List Frame) (Wg : Nat) (u : Nat → Value) (w : World) : didL PP true 16 (aft (ka tm td cs Wg u) (.tuple #[])) w = askL PP true 16 (aft (ka tm td cs Wg u) (.tuple #[])) w := by kernel_rfl
theorem akb (tm : Array Value) (td : List Item) (cs : List Frame) (Wg : Nat) (u : Nat → Value) : Stands (kb tm td cs Wg u) := ⟨by kernel_rfl, by kernel_rfl, by kernel_rfl, by kernel_rfl, by kernel_rfl, by kernel_rfl, by kernel_rfl, by kernel_rfl⟩
theorem xkba (tm : Array Value) (td : List Item) (cs : List Frame) (Wg : Nat) (u : Nat → Value) : nf PP (semAt (kb tm td cs Wg u)) = .mark (.extern (xF PP (semAt (kb tm td cs Wg u)))) (xK PP (semAt (kb tm td cs Wg u))) := by kernel_rfl
theorem xkbb (tm : Array Value) (td : List Item) (cs : List Frame) (Wg : Nat) (u : Nat → Value) : xK PP (semAt (kb tm td cs Wg u)) = .load .atomic (stA Wg) (lK (xK PP (semAt (kb tm td cs Wg u)))) := by kernel_rfl
theorem ykb (tm : Array Value) (td : List Item) (cs : List Frame) (Wg : Nat) (u : Nat → Value) : seen PP (kb tm td cs Wg u).frame.fn #[mkx (xF PP (semAt (kb tm td cs Wg u))), rd (stA Wg)] = #[rd (stA Wg)] := by kernel_rfl
theorem xkbc (tm : Array Value) (td : List Item) (cs : List Frame) (Wg : Nat) (u : Nat → Value) : nf PP (lK (xK PP (semAt (kb tm td cs Wg u))) (.int .u64 0)) = .pure (.value (.int .u64 0)) := by kernel_rfl
theorem skb (tm : Array Value) (td : List Item) (cs : List Frame) (Wg : Nat) (u : Nat → Value) {ty : TypeId} {w : World} (h : WgAt ty Wg w 0 0) : stepG PP true (kb tm td cs Wg u) w = .go (aft (kb tm td cs Wg u) (.int .u64 0)) w #[rd (stA Wg)] :=
  (akb tm td cs Wg u).value (run_ld (xkba tm td cs Wg u) (xkbb tm td cs Wg u) (xkbc tm td cs Wg u) h.cellSt) (ykb tm td cs Wg u)
noncomputable def kf_ (tm : Array Value) (td : List Item) (cs : List Frame) (Wg : Nat) (u : Nat → Value) : Goroutine := (nxs PP true 11 (aft (kb tm td cs Wg u) (.int .u64 0)))
theorem ekf_ (tm : Array Value) (td : List Item) (cs : List Frame) (Wg : Nat) (u : Nat → Value) : nxs PP true 11 (aft (kb tm td cs Wg u) (.int .u64 0)) = kf_ tm td cs Wg u := by kernel_rfl
theorem ikf_ (tm : Array Value) (td : List Item) (cs : List Frame) (Wg : Nat) (u : Nat → Value) (w : World) : didL PP true 11 (aft (kb tm td cs Wg u) (.int .u64 0)) w = askL PP true 11 (aft (kb tm td cs Wg u) (.int .u64 0)) w := by kernel_rfl
theorem rkf_ (tm : Array Value) (td : List Item) (cs : List Frame) (Wg : Nat) (u : Nat → Value) : (kf_ tm td cs Wg u).status = .running := by kernel_rfl
noncomputable def kf_' (tm : Array Value) (td : List Item) (cs : List Frame) (Wg : Nat) (u : Nat → Value) : Goroutine := (nx PP true (kf_ tm td cs Wg u))
theorem skf_ (tm : Array Value) (td : List Item) (cs : List Frame) (Wg : Nat) (u : Nat → Value) (w : World) : stepG PP true (kf_ tm td cs Wg u) w = .go (kf_' tm td cs Wg u) w #[mk .enable] := by kernel_rfl
noncomputable def kg (tm : Array Value) (td : List Item) (cs : List Frame) (Wg : Nat) (u : Nat → Value) : Goroutine := (nxs PP true 3 (kf_' tm td cs Wg u))
theorem ekg (tm : Array Value) (td : List Item) (cs : List Frame) (Wg : Nat) (u : Nat → Value) : nxs PP true 3 (kf_' tm td cs Wg u) = kg tm td cs Wg u := by kernel_rfl
theorem ikg (tm : Array Value) (td : List Item) (cs : List Frame) (Wg : Nat) (u : Nat → Value) (w : World) : didL PP true 3 (kf_' tm td cs Wg u) w = askL PP true 3 (kf_' tm td cs Wg u) w := by kernel_rfl
theorem akg (tm : Array Value) (td : List Item) (cs : List Frame) (Wg : Nat) (u : Nat → Value) : Stands (kg tm td cs Wg u) := ⟨by kernel_rfl, by kernel_rfl, by kernel_rfl, by kernel_rfl, by kernel_rfl, by kernel_rfl, by kernel_rfl, by kernel_rfl⟩
theorem xkg (tm : Array Value) (td : List Item) (cs : List Frame) (Wg : Nat) (u : Nat → Value) : semAt (kg tm td cs Wg u) = (convert (srcAt (kg tm td cs Wg u)) (dstAt (kg tm td cs Wg u)) (.pointer (some (stA Wg))) >>= fun v => pure (.value v)) := by kernel_rfl
theorem ukg (tm : Array Value) (td : List Item) (cs : List Frame) (Wg : Nat) (u : Nat → Value) : Try.prog.underlying (srcAt (kg tm td cs Wg u)) = some (.pointer (elemAt (kg tm td cs Wg u))) := by kernel_rfl
theorem vkg (tm : Array Value) (td : List Item) (cs : List Frame) (Wg : Nat) (u : Nat → Value) : Try.prog.underlying (dstAt (kg tm td cs Wg u)) = some .unsafePointer := by kernel_rfl
theorem zkg (tm : Array Value) (td : List Item) (cs : List Frame) (Wg : Nat) (u : Nat → Value) : (Try.prog.info? (elemAt (kg tm td cs Wg u))).map (fun i => decide (i.size = 0)) = some false := by kernel_rfl
theorem ykg (tm : Array Value) (td : List Item) (cs : List Frame) (Wg : Nat) (u : Nat → Value) : seen PP (kg tm td cs Wg u).frame.fn #[] = #[] := by kernel_rfl
noncomputable def kh (tm : Array Value) (td : List Item) (cs : List Frame) (Wg : Nat) (u : Nat → Value) : Goroutine := (aft (kg tm td cs Wg u) (.pointer (some (stA Wg))))
theorem ekh (tm : Array Value) (td : List Item) (cs : List Frame) (Wg : Nat) (u : Nat → Value) : aft (kg tm td cs Wg u) (.pointer (some (stA Wg))) = kh tm td cs Wg u := by kernel_rfl
theorem skg (tm : Array Value) (td : List Item) (cs : List Frame) (Wg : Nat) (u : Nat → Value) {ty : TypeId} {w : World} {st sm : Int} (h : WgAt ty Wg w st sm) : stepG PP true (kg tm td cs Wg u) w = .go (kh tm td cs Wg u) w #[] := by
  rw [← ekh]
  exact (akg tm td cs Wg u).value (by rw [xkg]; exact run_conv (ukg tm td cs Wg u) (vkg tm td cs Wg u) (zkg tm td cs Wg u) h.cellSt) (ykg tm td cs Wg u)
theorem rkh (tm : Array Value) (td : List Item) (cs : List Frame) (Wg : Nat) (u : Nat → Value) : (kh tm td cs Wg u).status = .running := by kernel_rfl
noncomputable def kh' (tm : Array Value) (td : List Item) (cs : List Frame) (Wg : Nat) (u : Nat → Value) : Goroutine := (nx PP true (kh tm td cs Wg u))
theorem skh (tm : Array Value) (td : List Item) (cs : List Frame) (Wg : Nat) (u : Nat → Value) (w : World) : stepG PP true (kh tm td cs Wg u) w = .go (kh' tm td cs Wg u) w #[mk (.acquire (stA Wg))] := by kernel_rfl
theorem ekx (tm : Array Value) (td : List Item) (cs : List Frame) (Wg : Nat) (u : Nat → Value) : nxs PP true 10 (kh' tm td cs Wg u) = G ((cf tm td).finish (.tuple #[])) cs := by kernel_rfl
theorem ikx (tm : Array Value) (td : List Item) (cs : List Frame) (Wg : Nat) (u : Nat → Value) (w : World) : didL PP true 10 (kh' tm td cs Wg u) w = askL PP true 10 (kh' tm td cs Wg u) w := by kernel_rfl
theorem rka (tm : Array Value) (td : List Item) (cs : List Frame) (Wg : Nat) (u : Nat → Value) : (ka tm td cs Wg u).status = .running := by kernel_rfl
end Go.Proofs.Ytlpfogkfjjbklac.Wgs
namespace Go.Proofs.Ytlpfogkfjjbklac.Wgs
open Go.Conc Go.Proofs.Ytlpfogkfjjbklac.Crew
open Go.ConcR (KK wgBlock WgAt stA smA rd wr mk)
set_option linter.unusedVariables false
set_option linter.unusedSectionVars false
local notation "PP" => Try.prog
structure Awaits (C : Crew) (F : World → Prop) : Prop extends Hires C C.last F where
  markW : ∀ w, C.DC C.last w w #[mk (.write (smA C.Wg))]
  setSm : ∀ w x st sm, F w → WgAt C.ty C.Wg w st sm → F (w.setCell (smA C.Wg) (.int .u32 x))
def HeadW (C : Crew) (Pt : Array Value → Prop) (td : List Item) (cs : List Frame) (F : World → Prop) (g : Goroutine) (w : World) : Prop := (∃ tm, Pt tm ∧ ∃ u, g = hd tm td cs C.Wg u) ∧ F w
def AnchW (Pt : Array Value → Prop) (td : List Item) (cs : List Frame) (F : World → Prop) (g : Goroutine) (w : World) : Prop := (∃ tm, Pt tm ∧ g = G ((cf tm td).finish (.tuple #[])) cs) ∧ F w
section
variable {C : Crew} (hP : C.P = PP) (hm : C.many ≤ 4) (tm : Array Value) (td : List Item) (cs : List Frame) {F : World → Prop} {Pt : Array Value → Prop} (hT : Pt tm) (H : Awaits C F)
local notation "AN" => AnchW Pt td cs F
local notation "HD" => HeadW C Pt td cs F
local notation "GN" => Goes C.P true C.RC (C.DC C.last)
include hP H
theorem goN {Stop : Goroutine → World → Prop} {n m : Nat} {g : Goroutine} {w : World} (h : ∀ w, didL PP true n g w = askL PP true n g w) (hs : GN Stop m (nxs PP true n g) w) : GN Stop (m + n) g w := by
  rw [hP] at hs ⊢
  exact goes_nxs H.trans H.idle h hs
theorem goS {Stop : Goroutine → World → Prop} {m : Nat} {g : Goroutine} {w : World} (hr : g.status = .running) (h : ∀ w₁, C.RC w w₁ → ∃ g' es, stepG PP true g w₁ = .go g' w₁ es ∧ C.DC C.last w₁ w₁ es ∧ GN Stop m g' w₁) : GN Stop (m + 1) g w := by
  refine .inr ⟨hr, fun w₁ r => ?_⟩
  obtain ⟨g', es, h1, h2, h3⟩ := h w₁ r
  rw [hP, h1]
  rw [hP] at h3
  exact ⟨h2, h3⟩
include hT
theorem at_kq (u : Nat → Value) {w : World} (hF : F w) : AtAcq C AN (kq tm td cs C.Wg u) w := by
  refine ⟨rkq .., _, by rw [hP]; exact skq tm td cs C.Wg u w, 0 + 20, goN hP H (ikz tm td cs C.Wg u) ?_⟩
  rw [ekz]
  exact fun w₁ r => ⟨⟨tm, hT, rfl⟩, H.keep _ _ r hF⟩
theorem at_kh (u : Nat → Value) {w : World} (hF : F w) : AtAcq C AN (kh tm td cs C.Wg u) w := by
  refine ⟨rkh .., _, by rw [hP]; exact skh tm td cs C.Wg u w, 0 + 10, goN hP H (ikx tm td cs C.Wg u) ?_⟩
  rw [ekx]
  exact fun w₁ r => ⟨⟨tm, hT, rfl⟩, H.keep _ _ r hF⟩
theorem at_ke (u : Nat → Value) {w : World} (hF : F w) : AtKe C AN (ke tm td cs C.Wg u) w := by
  refine ⟨rke .., _, by rw [hP]; exact ske tm td cs C.Wg u w, 0 + 1 + 3, goN hP H (ikv tm td cs C.Wg u) ?_⟩
  rw [ekv]
  refine goS hP H (akv tm td cs C.Wg u).run fun w₁ r => ?_
  have hF₁ := H.keep _ _ r hF
  obtain ⟨st, sm, hw⟩ := H.isLive _ hF₁
  exact ⟨_, _, skv tm td cs C.Wg u hw, H.idle _, fun w₂ r₂ => at_kq hP tm td cs hT H u (H.keep _ _ r₂ hF₁)⟩
theorem at_kf (u : Nat → Value) {w : World} (hF : F w) : AtKe C AN (kf_ tm td cs C.Wg u) w := by
  refine ⟨rkf_ .., _, by rw [hP]; exact skf_ tm td cs C.Wg u w, 0 + 1 + 3, goN hP H (ikg tm td cs C.Wg u) ?_⟩
  rw [ekg]
  refine goS hP H (akg tm td cs C.Wg u).run fun w₁ r => ?_
  have hF₁ := H.keep _ _ r hF
  obtain ⟨st, sm, hw⟩ := H.isLive _ hF₁
  exact ⟨_, _, skg tm td cs C.Wg u hw, H.idle _, fun w₂ r₂ => at_kh hP tm td cs hT H u (H.keep _ _ r₂ hF₁)⟩
theorem at_kb (u : Nat → Value) {w : World} (hF : F w) : AtW4 C AN (kb tm td cs C.Wg u) w := by
  refine ⟨(akb tm td cs C.Wg u).run, fun hw => ⟨_, by rw [hP]; exact skb tm td cs C.Wg u hw, 0 + 11, goN hP H (ikf_ tm td cs C.Wg u) ?_⟩⟩
  rw [ekf_]
  exact fun w₁ r => at_kf hP tm td cs hT H u (H.keep _ _ r hF)
theorem at_ka (u : Nat → Value) {w : World} (hF : F w) : AtW3 C AN (ka tm td cs C.Wg u) w := by
  refine ⟨rka .., oka .., fun ⟨st, hw⟩ => by rw [hP]; exact ska0 tm td cs C.Wg u hw, fun hw => ⟨_, by rw [hP]; exact ska tm td cs C.Wg u hw, 0 + 16, goN hP H (ikb tm td cs C.Wg u) ?_⟩⟩
  rw [ekb]
  exact fun w₁ r => at_kb hP tm td cs hT H u (H.keep _ _ r (H.setSm _ _ _ _ hF hw))
include hm
theorem at_kc (u : Nat → Value) {vs : Nat} (hv : vs ≤ C.many) (h0 : vs ≠ 0) {w : World} (hF : F w) : AtW2 C HD AN vs (kc tm td cs C.Wg u vs) w := by
  obtain ⟨⟨c1, c2, c3, c4, c5⟩, hb⟩ := fc tm td cs C.Wg u vs (by omega) h0
  refine ⟨c2.run, fun v hv' hw => ⟨fun e => ?_, fun e => ?_⟩⟩
  · subst e
    have hF' := H.set _ ((v : Int) * KK + 1) _ hF hw
    obtain ⟨b1, b2⟩ := hb true
    refine ⟨_, by rw [hP]; exact c2.value (run_cas_hit c3 hw.cellSt (hw.thaw 0)) c4, 0 + 23 + 1 + 1 + 15 + 4, goN hP H b2 ?_⟩
    rw [b1]
    generalize (fun i => (nxs PP true 4 (aft (kc tm td cs C.Wg u v) (.bool true))).frame.tmps.getD i undef) = u'
    obtain ⟨f1, f2⟩ := fa tm td cs C.Wg u' v (by omega) h0
    refine goN hP H (ikm tm td cs C.Wg u' _) ?_
    rw [ekm]
    refine goS hP H (akm tm td cs C.Wg u' _).run fun w₁ r => ?_
    have hF₁ := H.keep _ _ r hF'
    obtain ⟨st, sm, hw₁⟩ := H.isLive _ hF₁
    refine ⟨_, _, skm tm td cs C.Wg u' _ hw₁, H.idle _, goS hP H (rkn ..) fun w₂ r₂ => ⟨_, _, skn tm td cs C.Wg u' _ w₂, H.markW _, goN hP H f2 ?_⟩⟩
    rw [f1]
    exact fun w₃ r₃ => at_ka hP tm td cs hT H _ (H.keep _ _ r₃ (H.keep _ _ r₂ hF₁))
  · obtain ⟨b1, b2⟩ := hb false
    have hne : ¬ ((v : Int) * KK = (vs : Int) * KK) := by unfold KK; omega
    refine ⟨_, by rw [hP]; exact c2.value (run_cas_miss c3 hw.cellSt (hw.thaw 0) hne) c5, 0 + 5 + 4, goN hP H b2 ?_⟩
    rw [b1]
    refine goN hP H (ikf tm td cs C.Wg _ _) ?_
    rw [ekf]
    exact fun w₁ r => ⟨⟨tm, hT, _, rfl⟩, H.keep _ _ r hF⟩
theorem at_kl (u : Nat → Value) {w : World} (hF : F w) : AtW1 C HD AN (kl tm td cs C.Wg u) w := by
  refine ⟨(akl tm td cs C.Wg u).run, fun v hv hw => ⟨_, by rw [hP]; exact skl tm td cs C.Wg u (by omega) hw, fun e => ?_, fun e => ?_⟩⟩
  · subst e
    refine ⟨0 + 31, goN hP H (ike tm td cs C.Wg u) ?_⟩
    rw [eke]
    exact fun w₁ r => at_ke hP tm td cs hT H u (H.keep _ _ r hF)
  · obtain ⟨⟨c1, _⟩, _⟩ := fc tm td cs C.Wg u v (by omega) e
    exact ⟨0 + 48, goN hP H c1 fun w₁ r => at_kc hP hm tm td cs hT H u hv e (H.keep _ _ r hF)⟩
omit hT in
theorem round_ {g : Goroutine} {w : World} (h : HD g w) : ∃ m, GN (AtW1 C HD AN) m g w := by
  obtain ⟨⟨tm, hT, u, rfl⟩, hF⟩ := h
  refine ⟨0 + 16, goN hP H (ikl tm td cs C.Wg u) ?_⟩
  rw [ekl]
  exact fun w₁ r => at_kl hP hm tm td cs hT H u (H.keep _ _ r hF)
omit hm in
/-- From the entry of Wait. -/
theorem wait_goes {w : World} (hF : F w) : GN (AtKd C HD) (0 + 3) (gWait tm td cs C.Wg) w := by
  refine goN hP H (ik1 tm td cs C.Wg) ?_
  rw [ek1]
  refine fun w₁ r => ⟨rk1 .., _, by rw [hP]; exact sk1 tm td cs C.Wg w₁, 0 + 3, goN hP H (ik2 tm td cs C.Wg) ?_⟩
  rw [ek2]
  exact fun w₂ r₂ => ⟨⟨tm, hT, _, rfl⟩, H.keep _ _ r₂ (H.keep _ _ r hF)⟩
end
theorem head_run {C : Crew} {Pt : Array Value → Prop} {td : List Item} {cs : List Frame} {F : World → Prop} (g : Goroutine) (w : World) (h : HeadW C Pt td cs F g w) : g.status = .running := by
  obtain ⟨⟨tm, _, u, rfl⟩, _⟩ := h
  exact rhd ..
theorem anch_run {Pt : Array Value → Prop} {td : List Item} {cs : List Frame} {F : World → Prop} (g : Goroutine) (w : World) (h : AnchW Pt td cs F g w) : g.status = .running := by
  obtain ⟨⟨tm, _, rfl⟩, _⟩ := h
  rfl
end Go.Proofs.Ytlpfogkfjjbklac.Wgs
