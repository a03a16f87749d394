/-
  Wait of the group by the starter: the script.
-/
import Derived.Test.YtadngncbbbbapaaWgx
namespace Go.Proofs.Ytadngncbbbbapaa.Wgs
open Go.Conc Go.Proofs.Ytadngncbbbbapaa.Crew
open Go.ConcR (KK wgBlock WgAt stA smA rd wr mk)
set_option linter.unusedVariables false
set_option linter.unusedSectionVars false
local notation "PP" => Try.prog
structure Awaits (C : Crew) (F : World → Prop) : Prop extends Hires C C.last F where
  markW : ∀ w, C.DC C.last w w #[mk (.write (smA C.Wg))]
  setSm : ∀ w x st sm, F w → WgAt C.ty C.Wg w st sm → F (w.setCell (smA C.Wg) (.int .u32 x))
def HeadW (C : Crew) (Pt : Array Value → Prop) (td : List Item) (cs : List Frame) (F : World → Prop) (g : Goroutine) (w : World) : Prop := (∃ tm, Pt tm ∧ ∃ u, g = hd tm td cs C.Wg u) ∧ F w
def AnchW (Pt : Array Value → Prop) (td : List Item) (cs : List Frame) (F : World → Prop) (g : Goroutine) (w : World) : Prop := (∃ tm, Pt tm ∧ g = G ((cf tm td).finish (.tuple #[])) cs) ∧ F w
section
variable {C : Crew} (hP : C.P = PP) (hm : C.many ≤ 4) (tm : Array Value) (td : List Item) (cs : List Frame) {F : World → Prop} {Pt : Array Value → Prop} (hT : Pt tm) (H : Awaits C F)
local notation "AN" => AnchW Pt td cs F
local notation "HD" => HeadW C Pt td cs F
local notation "GN" => Goes C.P true C.RC (C.DC C.last)
include hP H
theorem goN {Stop : Goroutine → World → Prop} {n m : Nat} {g : Goroutine} {w : World} (h : ∀ w, didL PP true n g w = askL PP true n g w) (hs : GN Stop m (nxs PP true n g) w) : GN Stop (m + n) g w := by
  rw [hP] at hs ⊢
  exact goes_nxs H.trans H.idle h hs
theorem goS {Stop : Goroutine → World → Prop} {m : Nat} {g : Goroutine} {w : World} (hr : g.status = .running) (h : ∀ w₁, C.RC w w₁ → ∃ g' es, stepG PP true g w₁ = .go g' w₁ es ∧ C.DC C.last w₁ w₁ es ∧ GN Stop m g' w₁) : GN Stop (m + 1) g w := by
  refine .inr ⟨hr, fun w₁ r => ?_⟩
  obtain ⟨g', es, h1, h2, h3⟩ := h w₁ r
  rw [hP, h1]
  rw [hP] at h3
  exact ⟨h2, h3⟩
include hT
theorem at_kq (u : Nat → Value) {w : World} (hF : F w) : AtAcq C AN (kq tm td cs C.Wg u) w := by
  refine ⟨rkq .., _, by rw [hP]; exact skq tm td cs C.Wg u w, 0 + 20, goN hP H (ikz tm td cs C.Wg u) ?_⟩
  rw [ekz]
  exact fun w₁ r => ⟨⟨tm, hT, rfl⟩, H.keep _ _ r hF⟩
theorem at_kh (u : Nat → Value) {w : World} (hF : F w) : AtAcq C AN (kh tm td cs C.Wg u) w := by
  refine ⟨rkh .., _, by rw [hP]; exact skh tm td cs C.Wg u w, 0 + 10, goN hP H (ikx tm td cs C.Wg u) ?_⟩
  rw [ekx]
  exact fun w₁ r => ⟨⟨tm, hT, rfl⟩, H.keep _ _ r hF⟩
theorem at_ke (u : Nat → Value) {w : World} (hF : F w) : AtKe C AN (ke tm td cs C.Wg u) w := by
  refine ⟨rke .., _, by rw [hP]; exact ske tm td cs C.Wg u w, 0 + 1 + 3, goN hP H (ikv tm td cs C.Wg u) ?_⟩
  rw [ekv]
  refine goS hP H (akv tm td cs C.Wg u).run fun w₁ r => ?_
  have hF₁ := H.keep _ _ r hF
  obtain ⟨st, sm, hw⟩ := H.isLive _ hF₁
  exact ⟨_, _, skv tm td cs C.Wg u hw, H.idle _, fun w₂ r₂ => at_kq hP tm td cs hT H u (H.keep _ _ r₂ hF₁)⟩
theorem at_kf (u : Nat → Value) {w : World} (hF : F w) : AtKe C AN (kf_ tm td cs C.Wg u) w := by
  refine ⟨rkf_ .., _, by rw [hP]; exact skf_ tm td cs C.Wg u w, 0 + 1 + 3, goN hP H (ikg tm td cs C.Wg u) ?_⟩
  rw [ekg]
  refine goS hP H (akg tm td cs C.Wg u).run fun w₁ r => ?_
  have hF₁ := H.keep _ _ r hF
  obtain ⟨st, sm, hw⟩ := H.isLive _ hF₁
  exact ⟨_, _, skg tm td cs C.Wg u hw, H.idle _, fun w₂ r₂ => at_kh hP tm td cs hT H u (H.keep _ _ r₂ hF₁)⟩
theorem at_kb (u : Nat → Value) {w : World} (hF : F w) : AtW4 C AN (kb tm td cs C.Wg u) w := by
  refine ⟨(akb tm td cs C.Wg u).run, fun hw => ⟨_, by rw [hP]; exact skb tm td cs C.Wg u hw, 0 + 11, goN hP H (ikf_ tm td cs C.Wg u) ?_⟩⟩
  rw [ekf_]
  exact fun w₁ r => at_kf hP tm td cs hT H u (H.keep _ _ r hF)
theorem at_ka (u : Nat → Value) {w : World} (hF : F w) : AtW3 C AN (ka tm td cs C.Wg u) w := by
  refine ⟨rka .., oka .., fun ⟨st, hw⟩ => by rw [hP]; exact ska0 tm td cs C.Wg u hw, fun hw => ⟨_, by rw [hP]; exact ska tm td cs C.Wg u hw, 0 + 16, goN hP H (ikb tm td cs C.Wg u) ?_⟩⟩
  rw [ekb]
  exact fun w₁ r => at_kb hP tm td cs hT H u (H.keep _ _ r (H.setSm _ _ _ _ hF hw))
include hm
theorem at_kc (u : Nat → Value) {vs : Nat} (hv : vs ≤ C.many) (h0 : vs ≠ 0) {w : World} (hF : F w) : AtW2 C HD AN vs (kc tm td cs C.Wg u vs) w := by
  obtain ⟨⟨c1, c2, c3, c4, c5⟩, hb⟩ := fc tm td cs C.Wg u vs (by omega) h0
  refine ⟨c2.run, fun v hv' hw => ⟨fun e => ?_, fun e => ?_⟩⟩
  · subst e
    have hF' := H.set _ ((v : Int) * KK + 1) _ hF hw
    obtain ⟨b1, b2⟩ := hb true
    refine ⟨_, by rw [hP]; exact c2.value (run_cas_hit c3 hw.cellSt (hw.thaw 0)) c4, 0 + 23 + 1 + 1 + 15 + 4, goN hP H b2 ?_⟩
    rw [b1]
    generalize (fun i => (nxs PP true 4 (aft (kc tm td cs C.Wg u v) (.bool true))).frame.tmps.getD i undef) = u'
    obtain ⟨f1, f2⟩ := fa tm td cs C.Wg u' v (by omega) h0
    refine goN hP H (ikm tm td cs C.Wg u' _) ?_
    rw [ekm]
    refine goS hP H (akm tm td cs C.Wg u' _).run fun w₁ r => ?_
    have hF₁ := H.keep _ _ r hF'
    obtain ⟨st, sm, hw₁⟩ := H.isLive _ hF₁
    refine ⟨_, _, skm tm td cs C.Wg u' _ hw₁, H.idle _, goS hP H (rkn ..) fun w₂ r₂ => ⟨_, _, skn tm td cs C.Wg u' _ w₂, H.markW _, goN hP H f2 ?_⟩⟩
    rw [f1]
    exact fun w₃ r₃ => at_ka hP tm td cs hT H _ (H.keep _ _ r₃ (H.keep _ _ r₂ hF₁))
  · obtain ⟨b1, b2⟩ := hb false
    have hne : ¬ ((v : Int) * KK = (vs : Int) * KK) := by unfold KK; omega
    refine ⟨_, by rw [hP]; exact c2.value (run_cas_miss c3 hw.cellSt (hw.thaw 0) hne) c5, 0 + 5 + 4, goN hP H b2 ?_⟩
    rw [b1]
    refine goN hP H (ikf tm td cs C.Wg _ _) ?_
    rw [ekf]
    exact fun w₁ r => ⟨⟨tm, hT, _, rfl⟩, H.keep _ _ r hF⟩
theorem at_kl (u : Nat → Value) {w : World} (hF : F w) : AtW1 C HD AN (kl tm td cs C.Wg u) w := by
  refine ⟨(akl tm td cs C.Wg u).run, fun v hv hw => ⟨_, by rw [hP]; exact skl tm td cs C.Wg u (by omega) hw, fun e => ?_, fun e => ?_⟩⟩
  · subst e
    refine ⟨0 + 31, goN hP H (ike tm td cs C.Wg u) ?_⟩
    rw [eke]
    exact fun w₁ r => at_ke hP tm td cs hT H u (H.keep _ _ r hF)
  · obtain ⟨⟨c1, _⟩, _⟩ := fc tm td cs C.Wg u v (by omega) e
    exact ⟨0 + 48, goN hP H c1 fun w₁ r => at_kc hP hm tm td cs hT H u hv e (H.keep _ _ r hF)⟩
omit hT in
theorem round_ {g : Goroutine} {w : World} (h : HD g w) : ∃ m, GN (AtW1 C HD AN) m g w := by
  obtain ⟨⟨tm, hT, u, rfl⟩, hF⟩ := h
  refine ⟨0 + 16, goN hP H (ikl tm td cs C.Wg u) ?_⟩
  rw [ekl]
  exact fun w₁ r => at_kl hP hm tm td cs hT H u (H.keep _ _ r hF)
omit hm in
/-- From the entry of Wait. -/
theorem wait_goes {w : World} (hF : F w) : GN (AtKd C HD) (0 + 3) (gWait tm td cs C.Wg) w := by
  refine goN hP H (ik1 tm td cs C.Wg) ?_
  rw [ek1]
  refine fun w₁ r => ⟨rk1 .., _, by rw [hP]; exact sk1 tm td cs C.Wg w₁, 0 + 3, goN hP H (ik2 tm td cs C.Wg) ?_⟩
  rw [ek2]
  exact fun w₂ r₂ => ⟨⟨tm, hT, _, rfl⟩, H.keep _ _ r₂ (H.keep _ _ r hF)⟩
end
theorem head_run {C : Crew} {Pt : Array Value → Prop} {td : List Item} {cs : List Frame} {F : World → Prop} (g : Goroutine) (w : World) (h : HeadW C Pt td cs F g w) : g.status = .running := by
  obtain ⟨⟨tm, _, u, rfl⟩, _⟩ := h
  exact rhd ..
theorem anch_run {Pt : Array Value → Prop} {td : List Item} {cs : List Frame} {F : World → Prop} (g : Goroutine) (w : World) (h : AnchW Pt td cs F g w) : g.status = .running := by
  obtain ⟨⟨tm, _, rfl⟩, _⟩ := h
  rfl
end Go.Proofs.Ytadngncbbbbapaa.Wgs
