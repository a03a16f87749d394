/-
  Add(1) of the group by the starter, from its entry to its return.
-/
import Derived.Test.YtadngncbbbbapaaWgf
namespace Go.Proofs.Ytadngncbbbbapaa.Wgs
open Go.Conc Go.Proofs.Ytadngncbbbbapaa.Crew
open Go.ConcR (KK wgBlock WgAt stA smA rd wr mk)
set_option linter.unusedVariables false
local notation "PP" => Try.prog
/-- The starter's frame. -/
def cf (tm : Array Value) (td : List Item) : Frame := { fn := 40, tmps := tm, todo := td, defers := [], mode := .run, kind := .normal }
noncomputable def gAdd (tm : Array Value) (td : List Item) (cs : List Frame) (Wg : Nat) : Goroutine := G (Frame.enter PP 56 #[.pointer (some ⟨Wg, 0, none⟩), .int .i64 1] .normal) (cf tm td :: cs)
noncomputable def d1 (tm : Array Value) (td : List Item) (cs : List Frame) (Wg : Nat) : Goroutine := (nxs PP true 12 (gAdd tm td cs Wg))
theorem ed1 (tm : Array Value) (td : List Item) (cs : List Frame) (Wg : Nat) : nxs PP true 12 (gAdd tm td cs Wg) = d1 tm td cs Wg := by kernel_rfl
theorem id1 (tm : Array Value) (td : List Item) (cs : List Frame) (Wg : Nat) (w : World) : didL PP true 12 (gAdd tm td cs Wg) w = askL PP true 12 (gAdd tm td cs Wg) w := by kernel_rfl
noncomputable def d1' (tm : Array Value) (td : List Item) (cs : List Frame) (Wg : Nat) : Goroutine := (nx PP true (d1 tm td cs Wg))
theorem sd1 (tm : Array Value) (td : List Item) (cs : List Frame) (Wg : Nat) (w : World) : stepG PP true (d1 tm td cs Wg) w = .go (d1' tm td cs Wg) w #[mk .disable] := by kernel_rfl
theorem rd1 (tm : Array Value) (td : List Item) (cs : List Frame) (Wg : Nat) : (d1 tm td cs Wg).status = .running := by kernel_rfl
noncomputable def d2 (tm : Array Value) (td : List Item) (cs : List Frame) (Wg : Nat) : Goroutine := (nxs PP true 34 (d1' tm td cs Wg))
theorem ed2 (tm : Array Value) (td : List Item) (cs : List Frame) (Wg : Nat) : nxs PP true 34 (d1' tm td cs Wg) = d2 tm td cs Wg := by kernel_rfl
theorem id2 (tm : Array Value) (td : List Item) (cs : List Frame) (Wg : Nat) (w : World) : didL PP true 34 (d1' tm td cs Wg) w = askL PP true 34 (d1' tm td cs Wg) w := by kernel_rfl
theorem ad2 (tm : Array Value) (td : List Item) (cs : List Frame) (Wg : Nat) : Stands (d2 tm td cs Wg) := ⟨by kernel_rfl, by kernel_rfl, by kernel_rfl, by kernel_rfl, by kernel_rfl, by kernel_rfl, by kernel_rfl, by kernel_rfl⟩
theorem xd2a (tm : Array Value) (td : List Item) (cs : List Frame) (Wg : Nat) : nf PP (semAt (d2 tm td cs Wg)) = .mark (.extern (xF PP (semAt (d2 tm td cs Wg)))) (xK PP (semAt (d2 tm td cs Wg))) := by kernel_rfl
theorem xd2b (tm : Array Value) (td : List Item) (cs : List Frame) (Wg : Nat) : xK PP (semAt (d2 tm td cs Wg)) = .load .atomic (stA Wg) (lK (xK PP (semAt (d2 tm td cs Wg)))) := by kernel_rfl
theorem xd2c (tm : Array Value) (td : List Item) (cs : List Frame) (Wg : Nat) : ∀ (v : Nat), v < 4 → nf PP (lK (xK PP (semAt (d2 tm td cs Wg))) (.int .u64 ((v : Int) * KK))) = .store .atomic (stA Wg) (.int .u64 (((v : Int) + 1) * KK)) (sK (nf PP (lK (xK PP (semAt (d2 tm td cs Wg))) (.int .u64 ((v : Int) * KK))))) ∧
    nf PP (sK (nf PP (lK (xK PP (semAt (d2 tm td cs Wg))) (.int .u64 ((v : Int) * KK))))) = .pure (.value (.int .u64 (((v : Int) + 1) * KK)))
  | 0, _ => ⟨by kernel_rfl, by kernel_rfl⟩
  | 1, _ => ⟨by kernel_rfl, by kernel_rfl⟩
  | 2, _ => ⟨by kernel_rfl, by kernel_rfl⟩
  | 3, _ => ⟨by kernel_rfl, by kernel_rfl⟩
  | _ + 4, h => by omega
theorem qd2 (tm : Array Value) (td : List Item) (cs : List Frame) (Wg : Nat) : seen PP (d2 tm td cs Wg).frame.fn #[mkx (xF PP (semAt (d2 tm td cs Wg))), rd (stA Wg), wr (stA Wg)] = #[rd (stA Wg), wr (stA Wg)] := by kernel_rfl
/-- The add. -/
theorem sd2 (tm : Array Value) (td : List Item) (cs : List Frame) (Wg : Nat) {ty : TypeId} {w : World} {v : Nat} (hv : v < 4) (h : WgAt ty Wg w ((v : Int) * KK) 0) : stepG PP true (d2 tm td cs Wg) w = .go (aft (d2 tm td cs Wg) (.int .u64 (((v : Int) + 1) * KK))) (w.setCell (stA Wg) (.int .u64 (((v : Int) + 1) * KK))) #[rd (stA Wg), wr (stA Wg)] :=
  (ad2 tm td cs Wg).value (run_rmw (xd2a tm td cs Wg) (xd2b tm td cs Wg) (xd2c tm td cs Wg v hv).1 (xd2c tm td cs Wg v hv).2 h.cellSt (h.thaw 0)) (qd2 tm td cs Wg)
/-! the count is 1 now: the group's semaphore is marked -/
noncomputable def d3 (tm : Array Value) (td : List Item) (cs : List Frame) (Wg : Nat) : Goroutine := (nxs PP true 52 (aft (d2 tm td cs Wg) (.int .u64 (((0 : Nat) + 1 : Int) * KK))))
theorem ed3 (tm : Array Value) (td : List Item) (cs : List Frame) (Wg : Nat) : nxs PP true 52 (aft (d2 tm td cs Wg) (.int .u64 (((0 : Nat) + 1 : Int) * KK))) = d3 tm td cs Wg := by kernel_rfl
theorem id3 (tm : Array Value) (td : List Item) (cs : List Frame) (Wg : Nat) (w : World) : didL PP true 52 (aft (d2 tm td cs Wg) (.int .u64 (((0 : Nat) + 1 : Int) * KK))) w = askL PP true 52 (aft (d2 tm td cs Wg) (.int .u64 (((0 : Nat) + 1 : Int) * KK))) w := by kernel_rfl
theorem ad3 (tm : Array Value) (td : List Item) (cs : List Frame) (Wg : Nat) : Stands (d3 tm td cs Wg) := ⟨by kernel_rfl, by kernel_rfl, by kernel_rfl, by kernel_rfl, by kernel_rfl, by kernel_rfl, by kernel_rfl, by kernel_rfl⟩
theorem xd3 (tm : Array Value) (td : List Item) (cs : List Frame) (Wg : Nat) : semAt (d3 tm td cs Wg) = (convert (srcAt (d3 tm td cs Wg)) (dstAt (d3 tm td cs Wg)) (.pointer (some (smA Wg))) >>= fun v => pure (.value v)) := by kernel_rfl
theorem ud3 (tm : Array Value) (td : List Item) (cs : List Frame) (Wg : Nat) : Try.prog.underlying (srcAt (d3 tm td cs Wg)) = some (.pointer (elemAt (d3 tm td cs Wg))) := by kernel_rfl
theorem vd3 (tm : Array Value) (td : List Item) (cs : List Frame) (Wg : Nat) : Try.prog.underlying (dstAt (d3 tm td cs Wg)) = some .unsafePointer := by kernel_rfl
theorem zd3 (tm : Array Value) (td : List Item) (cs : List Frame) (Wg : Nat) : (Try.prog.info? (elemAt (d3 tm td cs Wg))).map (fun i => decide (i.size = 0)) = some false := by kernel_rfl
theorem yd3 (tm : Array Value) (td : List Item) (cs : List Frame) (Wg : Nat) : seen PP (d3 tm td cs Wg).frame.fn #[] = #[] := by kernel_rfl
noncomputable def d4 (tm : Array Value) (td : List Item) (cs : List Frame) (Wg : Nat) : Goroutine := (aft (d3 tm td cs Wg) (.pointer (some (smA Wg))))
theorem ed4 (tm : Array Value) (td : List Item) (cs : List Frame) (Wg : Nat) : aft (d3 tm td cs Wg) (.pointer (some (smA Wg))) = d4 tm td cs Wg := by kernel_rfl
theorem sd3 (tm : Array Value) (td : List Item) (cs : List Frame) (Wg : Nat) {ty : TypeId} {w : World} {st sm : Int} (h : WgAt ty Wg w st sm) : stepG PP true (d3 tm td cs Wg) w = .go (d4 tm td cs Wg) w #[] := by
  rw [← ed4]
  exact (ad3 tm td cs Wg).value (by rw [xd3]; exact run_conv (ud3 tm td cs Wg) (vd3 tm td cs Wg) (zd3 tm td cs Wg) h.cellSm) (yd3 tm td cs Wg)
noncomputable def d4' (tm : Array Value) (td : List Item) (cs : List Frame) (Wg : Nat) : Goroutine := (nx PP true (d4 tm td cs Wg))
theorem sd4 (tm : Array Value) (td : List Item) (cs : List Frame) (Wg : Nat) (w : World) : stepG PP true (d4 tm td cs Wg) w = .go (d4' tm td cs Wg) w #[mk (.read (smA Wg))] := by kernel_rfl
theorem rd4 (tm : Array Value) (td : List Item) (cs : List Frame) (Wg : Nat) : (d4 tm td cs Wg).status = .running := by kernel_rfl
noncomputable def d5 (tm : Array Value) (td : List Item) (cs : List Frame) (Wg : Nat) : Goroutine := (nxs PP true 39 (d4' tm td cs Wg))
theorem ed5 (tm : Array Value) (td : List Item) (cs : List Frame) (Wg : Nat) : nxs PP true 39 (d4' tm td cs Wg) = d5 tm td cs Wg := by kernel_rfl
theorem id5 (tm : Array Value) (td : List Item) (cs : List Frame) (Wg : Nat) (w : World) : didL PP true 39 (d4' tm td cs Wg) w = askL PP true 39 (d4' tm td cs Wg) w := by kernel_rfl
theorem rd5 (tm : Array Value) (td : List Item) (cs : List Frame) (Wg : Nat) : (d5 tm td cs Wg).status = .running := by kernel_rfl
theorem sd5 (tm : Array Value) (td : List Item) (cs : List Frame) (Wg : Nat) (w : World) : stepG PP true (d5 tm td cs Wg) w = .go (nx PP true (d5 tm td cs Wg)) w #[mk .enable] := by kernel_rfl
theorem ed6 (tm : Array Value) (td : List Item) (cs : List Frame) (Wg : Nat) : nxs PP true 1 (nx PP true (d5 tm td cs Wg)) = G ((cf tm td).finish (.tuple #[])) cs := by kernel_rfl
theorem id6 (tm : Array Value) (td : List Item) (cs : List Frame) (Wg : Nat) (w : World) : didL PP true 1 (nx PP true (d5 tm td cs Wg)) w = askL PP true 1 (nx PP true (d5 tm td cs Wg)) w := by kernel_rfl
/-! the count is more -/
noncomputable def d7 (tm : Array Value) (td : List Item) (cs : List Frame) (Wg : Nat) (v : Nat) : Goroutine := nxs PP true 87 (aft (d2 tm td cs Wg) (.int .u64 (((v : Int) + 1) * KK)))
theorem id7 (tm : Array Value) (td : List Item) (cs : List Frame) (Wg : Nat) : ∀ (v : Nat), v < 4 → v ≠ 0 → ∀ w, didL PP true 87 (aft (d2 tm td cs Wg) (.int .u64 (((v : Int) + 1) * KK))) w = askL PP true 87 (aft (d2 tm td cs Wg) (.int .u64 (((v : Int) + 1) * KK))) w
  | 0, _, h => absurd rfl h
  | 1, _, _ => fun w => by kernel_rfl
  | 2, _, _ => fun w => by kernel_rfl
  | 3, _, _ => fun w => by kernel_rfl
  | _ + 4, h, _ => by omega
theorem sd7 (tm : Array Value) (td : List Item) (cs : List Frame) (Wg : Nat) : ∀ (v : Nat), v < 4 → v ≠ 0 → (d7 tm td cs Wg v).status = .running ∧ ∀ w, stepG PP true (d7 tm td cs Wg v) w = .go (nx PP true (d7 tm td cs Wg v)) w #[mk .enable] ∧ nxs PP true 1 (nx PP true (d7 tm td cs Wg v)) = G ((cf tm td).finish (.tuple #[])) cs ∧ didL PP true 1 (nx PP true (d7 tm td cs Wg v)) w = askL PP true 1 (nx PP true (d7 tm td cs Wg v)) w
  | 0, _, h => absurd rfl h
  | 1, _, _ => ⟨by kernel_rfl, fun w => ⟨by kernel_rfl, by kernel_rfl, by kernel_rfl⟩⟩
  | 2, _, _ => ⟨by kernel_rfl, fun w => ⟨by kernel_rfl, by kernel_rfl, by kernel_rfl⟩⟩
  | 3, _, _ => ⟨by kernel_rfl, fun w => ⟨by kernel_rfl, by kernel_rfl, by kernel_rfl⟩⟩
  | _ + 4, h, _ => by omega
/-! ### the script -/
/-- What is asked of the starter's rely and guarantee. -/
structure Hires (C : Crew) (j : Nat) (F : World → Prop) : Prop where
  trans : ∀ a b c, C.RC a b → C.RC b c → C.RC a c
  refl : ∀ w, C.RC w w
  idle : ∀ w, C.DC j w w #[]
  mark : ∀ w, C.DC j w w #[mk (.read (smA C.Wg))]
  live : ∀ w w', C.RC w w' → Live C w → Live C w'
  keep : ∀ w w', C.RC w w' → F w → F w'
  isLive : ∀ w, F w → Live C w
  set : ∀ w x st, F w → WgAt C.ty C.Wg w st 0 → F (w.setCell (stA C.Wg) (.int .u64 x))
section
variable {C : Crew} (hP : C.P = PP) (hm : C.many ≤ 4) (tm : Array Value) (td : List Item) (cs : List Frame) {j : Nat} {Next : Goroutine → World → Prop} {F : World → Prop} (H : Hires C j F) {M : Nat} (hgo : ∀ w, F w → Goes C.P true C.RC (C.DC j) (AtGo C j Next) M (G ((cf tm td).finish (.tuple #[])) cs) w)
include hP H hgo
theorem en5 {w : World} (hF : F w) : AtEn C j Next (d5 tm td cs C.Wg) w := by
  refine ⟨rd5 tm td cs C.Wg, _, by rw [hP]; exact sd5 tm td cs C.Wg w, M + 1, ?_⟩
  rw [hP] at hgo ⊢
  refine goes_nxs (n := 1) (m := M) H.trans H.idle (id6 tm td cs C.Wg) ?_
  rw [ed6]
  exact hgo _ hF
include hm
theorem en7 {w : World} {v : Nat} (hv : v < C.many) (h0 : v ≠ 0) (hF : F w) : AtEn C j Next (d7 tm td cs C.Wg v) w := by
  have h := sd7 tm td cs C.Wg v (by omega) h0
  refine ⟨h.1, _, by rw [hP]; exact (h.2 w).1, M + 1, ?_⟩
  rw [hP] at hgo ⊢
  refine goes_nxs (n := 1) (m := M) H.trans H.idle (fun w => (h.2 w).2.2) ?_
  rw [(h.2 w).2.1]
  exact hgo _ hF
theorem add2 {w : World} (hF : F w) : AtAdd C j Next (d2 tm td cs C.Wg) w := by
  refine ⟨(ad2 tm td cs C.Wg).run, fun v hv hw => ⟨_, by rw [hP]; exact sd2 tm td cs C.Wg (by omega) hw, ?_⟩⟩
  have hF' := H.set w ((v + 1) * KK) _ hF hw
  by_cases h0 : v = 0
  · subst h0
    refine ⟨0 + 39 + 1 + 1 + 52, ?_⟩
    have key : ∀ w, F w → Goes C.P true C.RC (C.DC j) (AtEn C j Next) (0 + 39) (d4' tm td cs C.Wg) w := fun w hF => by
      rw [hP]
      refine goes_nxs (n := 39) (m := 0) H.trans H.idle (id5 tm td cs C.Wg) ?_
      rw [ed5]
      exact fun w₁ hr => en5 hP tm td cs H hgo (H.keep _ _ hr hF)
    rw [hP] at key ⊢
    refine goes_nxs (n := 52) (m := 0 + 39 + 1 + 1) H.trans H.idle (id3 tm td cs C.Wg) ?_
    rw [ed3]
    refine goes_one (m := 0 + 39 + 1) (ad3 tm td cs C.Wg).run fun w₁ hr => ?_
    have hF₁ := H.keep _ _ hr hF'
    obtain ⟨st, sm, hw₁⟩ := H.isLive _ hF₁
    exact ⟨_, _, sd3 tm td cs C.Wg hw₁, H.idle w₁, goes_one (m := 0 + 39) (rd4 tm td cs C.Wg) fun w₂ hr₂ => ⟨_, _, sd4 tm td cs C.Wg w₂, H.mark w₂, key _ (H.keep _ _ hr₂ hF₁)⟩⟩
  · refine ⟨0 + 87, ?_⟩
    have h7 := id7 tm td cs C.Wg v (by omega) h0
    have hen : ∀ w, F w → AtEn C j Next (d7 tm td cs C.Wg v) w := fun w hF => en7 hP hm tm td cs H hgo hv h0 hF
    rw [hP]
    refine goes_nxs (n := 87) (m := 0) H.trans H.idle h7 ?_
    exact fun w₁ hr => hen _ (H.keep _ _ hr hF')
theorem add1 {w : World} (hF : F w) : AtDi C j Next (d1 tm td cs C.Wg) w := by
  refine ⟨rd1 tm td cs C.Wg, _, by rw [hP]; exact sd1 tm td cs C.Wg w, 0 + 34, ?_⟩
  have h2 : ∀ w, F w → AtAdd C j Next (d2 tm td cs C.Wg) w := fun w hF => add2 hP hm tm td cs H hgo hF
  rw [hP]
  refine goes_nxs (n := 34) (m := 0) H.trans H.idle (id2 tm td cs C.Wg) ?_
  rw [ed2]
  exact fun w₁ hr => h2 _ (H.keep _ _ hr hF)
/-- From the entry of Add(1). -/
theorem add_goes {w : World} (hF : F w) : Goes C.P true C.RC (C.DC j) (AtDi C j Next) 12 (gAdd tm td cs C.Wg) w := by
  have h1 : ∀ w, F w → AtDi C j Next (d1 tm td cs C.Wg) w := fun w hF => add1 hP hm tm td cs H hgo hF
  rw [hP]
  refine goes_nxs (n := 12) (m := 0) H.trans H.idle (id1 tm td cs C.Wg) ?_
  rw [ed1]
  exact fun w₁ hr => h1 _ (H.keep _ _ hr hF)
end
end Go.Proofs.Ytadngncbbbbapaa.Wgs
