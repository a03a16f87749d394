/-
  The starter's loop: from its head to the wait.
-/
import Derived.Test.YtadngncbbbbapaaStard
namespace Go.Proofs.Ytadngncbbbbapaa.Lift
open Go.Conc Go.Proofs.Ytadngncbbbbapaa.Crew Go.RowKit
open Go.Proofs.Ytadngncbbbbapaa.Wgs (cf gAdd gWait goes_nxs nxs didL askL Hires Awaits HeadW AnchW add_goes wait_goes)
open Go.ConcR (KK WgAt stA smA)
set_option linter.unusedVariables false
section
variable {J : Job} {H : Hdr} {w0 : World} {g : Int → Int → Int} {ab ao bb bo : Nat} {xs ys : Nat → Int} {cs : List Frame}
theorem goR {c : Code} {Q : Exit → Act → World → Prop} {n m j : Nat} {tm : Array Value} {k : List Item} {Stop : Goroutine → World → Prop} {w : World} (h : c.wpC Try.prog true J.RC (J.DC j) 40 n Q ⟨tm, []⟩ w)
    (hc : ∀ e a' w', Q e a' w' → e = .normal ∧ Goes Try.prog true J.RC (J.DC j) Stop m (G ((base 40).at a' k) cs) w') : Goes Try.prog true J.RC (J.DC j) Stop (m + n) (gAt tm (.code c :: k) cs) w :=
  wpC_goes h rfl (by simp [base]) fun e a' w' q => by
    obtain ⟨rfl, hg⟩ := hc e a' w' q
    exact hg
variable (J H w0 cs) in
def PtC : Array Value → Prop := fun tm => ∃ u, tm = TS H J.Wg (J.Wg + 1 + 2 * J.cnt) u
variable (J w0) in
def FLC : World → Prop := SF J w0 (J.Wg + 2 + 2 * J.cnt) (J.Wg + 1 + 2 * J.cnt) ((5 * J.cnt : Nat) : Int)
variable (J H w0 cs) in
def HDC : Goroutine → World → Prop := HeadW J.crew (PtC J H) tdW cs (FLC J w0)
variable (J H w0 cs) in
def ANC : Goroutine → World → Prop := AnchW (PtC J H) tdW cs (FLC J w0)
variable (J H w0 cs) in
def StopR : Nat → Goroutine → World → Prop
  | 0 => AtKd J.crew (HDC J H w0 cs)
  | r + 1 => AtDi J.crew (J.crew.last - (r + 1)) (Spawns J.crew (Waits J.crew (HDC J H w0 cs)) r)
theorem spawns_of {r m : Nat} {gr : Goroutine} {w : World} (h : Goes J.crew.P true J.crew.RC (J.crew.DC (J.crew.last - r)) (StopR J H w0 cs r) m gr w) : Spawns J.crew (Waits J.crew (HDC J H w0 cs)) r gr w := by
  cases r with
  | zero => exact ⟨m, h⟩
  | succ r => exact ⟨m, h⟩
variable (D : Dat J H w0 g ab ao bb bo xs ys)
include D
/-- From behind 'go' to the head of the loop. -/
theorem aft_goes {r i M : Nat} (hi : i + 1 ≤ J.cnt) (ih : ∀ u w, SF J w0 (J.Wg + 2 + 2 * (i + 1)) (J.Wg + 1 + 2 * (i + 1)) ((5 * (i + 1) : Nat) : Int) w → Goes Try.prog true J.RC (J.DC (J.old + (i + 1))) (StopR J H w0 cs r) M (gAt (TS H J.Wg (J.Wg + 1 + 2 * (i + 1)) u) hdT cs) w) :
    ∃ M', ∀ u w, SF J w0 (J.Wg + 3 + 2 * i) (J.Wg + 1 + 2 * i) ((5 * i : Nat) : Int) w → Goes Try.prog true J.RC (J.DC (J.old + (i + 1))) (StopR J H w0 cs r) M' (gAt (TS H J.Wg (J.Wg + 1 + 2 * i) u) (.inRegion ops10 [] :: .inBlock 1 :: .code rest2 :: lpT) cs) w := by
  have hI := D.I
  have hc := D.cnt
  have hn := hI.n
  have T := J.termsC (J.old + (i + 1))
  have ht : J.top (J.old + (i + 1)) = J.Wg + 3 + 2 * i := by unfold Job.top; omega
  obtain ⟨n1, r1⟩ := reg11 (J := J) (H := H) (w0 := w0) (sz := J.Wg + 3 + 2 * i) (fb := J.Wg + 1 + 2 * i) (fv := ((5 * i : Nat) : Int)) (j := J.old + (i + 1)) hI (by omega) (by omega)
  obtain ⟨n2, r2⟩ := reg12 (J := J) (H := H) (w0 := w0) (sz := J.Wg + 3 + 2 * i) (fb := J.Wg + 1 + 2 * i) (fv := ((5 * i : Nat) : Int)) (j := J.old + (i + 1)) hI (by omega) (by omega)
  obtain ⟨n3, r3⟩ := reg7 (J := J) (H := H) (w0 := w0) (sz := J.Wg + 3 + 2 * i + 1) (fb := J.Wg + 3 + 2 * i) (fv := ((5 * i : Nat) : Int)) (j := J.old + (i + 1)) hI (by omega) (by omega) (by omega) (by omega)
  refine ⟨M + 1 + n3 + n2 + n1 + 4, fun u w hF => ?_⟩
  refine goes_nxs (n := 4) T.trans T.idle (fun w => i8 _ _ w) ?_
  rw [e8]
  refine goR (r1 u w hF) fun e a' w' ⟨he, hT, h43, hF1⟩ => ⟨he, ?_⟩
  obtain ⟨u1, rfl⟩ := hT.form
  refine goR (r2 u1 w' h43 hF1) fun e a' w' ⟨he, hT, hF2⟩ => ⟨he, ?_⟩
  obtain ⟨u2, rfl⟩ := hT.form
  refine goR (r3 u2 w' hF2) fun e a' w' ⟨he, hT, hF3⟩ => ⟨he, ?_⟩
  obtain ⟨u3, rfl⟩ := hT.form
  refine goes_nxs (n := 1) (g := gAt (TS H J.Wg (J.Wg + 3 + 2 * i) u3) lpT cs) T.trans T.idle (fun w => i9 _ _ w) ?_
  rw [e9]
  have q1 : J.Wg + 3 + 2 * i = J.Wg + 1 + 2 * (i + 1) := by omega
  have q2 : J.Wg + 3 + 2 * i + 1 = J.Wg + 2 + 2 * (i + 1) := by omega
  have q3 : ((5 * i : Nat) : Int) + 5 = ((5 * (i + 1) : Nat) : Int) := by omega
  rw [q2, q1, q3] at hF3
  rw [q1]
  exact ih u3 w' hF3
theorem head_goes : ∀ r i, i + r = J.cnt → ∃ M, ∀ u w, SF J w0 (J.Wg + 2 + 2 * i) (J.Wg + 1 + 2 * i) ((5 * i : Nat) : Int) w → Goes Try.prog true J.RC (J.DC (J.old + i)) (StopR J H w0 cs r) M (gAt (TS H J.Wg (J.Wg + 1 + 2 * i) u) hdT cs) w := by
  have hI := D.I
  have hc := D.cnt
  have hn := hI.n
  have hP : J.crew.P = Try.prog := D.P
  have hm : J.crew.many ≤ 4 := by show J.cnt ≤ 4; omega
  intro r
  induction r with
  | zero =>
    intro i hi
    obtain rfl : i = J.cnt := by omega
    have T := J.termsC (J.old + J.cnt)
    have ht : J.top (J.old + J.cnt) = J.Wg + 1 + 2 * J.cnt := by unfold Job.top; omega
    obtain ⟨n1, r1⟩ := reg6 (J := J) (H := H) (w0 := w0) (sz := J.Wg + 2 + 2 * J.cnt) (fb := J.Wg + 1 + 2 * J.cnt) (fv := ((5 * J.cnt : Nat) : Int)) (j := J.old + J.cnt) hI (by omega) (by omega)
    refine ⟨0 + 3 + 4 + 1 + n1 + 2, fun u w hF => ?_⟩
    refine goes_nxs (n := 2) T.trans T.idle (fun w => i3 _ _ w) ?_
    rw [e3]
    refine goR (r1 u w hF) fun e a' w' ⟨he, hT, h33, hF1⟩ => ⟨he, ?_⟩
    obtain ⟨u1, rfl⟩ := hT.form
    have hf : decide (((5 * J.cnt : Nat) : Int) < (J.n : Int)) = false := by simp; omega
    rw [hf] at h33
    refine Goes.step rfl fun w₁ r₁ => ?_
    have h33' : (⟨TS H J.Wg (J.Wg + 1 + 2 * J.cnt) u1, []⟩ : Act).eval (.tmp 33) = .bool false := h33
    rw [stepG_cond (t := false) h33']
    refine ⟨T.idle _, ?_⟩
    refine goes_nxs (n := 4) (g := gAt (TS H J.Wg (J.Wg + 1 + 2 * J.cnt) u1) (.code (.exit 0) :: .code rest1 :: lpT) cs) T.trans T.idle (fun w => i6 _ _ _ _ _ w) ?_
    rw [e6]
    have hw := wait_goes hP (TS H J.Wg (J.Wg + 1 + 2 * J.cnt) u1) tdW cs (Pt := PtC J H) ⟨u1, rfl⟩ (D.awaits (J.Wg + 2 + 2 * J.cnt) (J.Wg + 1 + 2 * J.cnt) ((5 * J.cnt : Nat) : Int)) (hF1.rely hI r₁)
    rw [hP] at hw
    exact hw
  | succ r ih =>
    intro i hi
    have hlt : i < J.cnt := by omega
    obtain ⟨M1, h1⟩ := ih (i + 1) (by omega)
    obtain ⟨M2, h2⟩ := aft_goes D (r := r) (by omega) h1
    obtain ⟨N, hwk⟩ := D.worker (sz := J.Wg + 3 + 2 * i) hlt
    have T := J.termsC (J.old + i)
    have ht : J.top (J.old + i) = J.Wg + 1 + 2 * i := by unfold Job.top; omega
    obtain ⟨n1, r1⟩ := reg6 (J := J) (H := H) (w0 := w0) (sz := J.Wg + 2 + 2 * i) (fb := J.Wg + 1 + 2 * i) (fv := ((5 * i : Nat) : Int)) (j := J.old + i) hI (by omega) (by omega)
    obtain ⟨n2, r2⟩ := reg8 (J := J) (H := H) (w0 := w0) (sz := J.Wg + 2 + 2 * i) (fb := J.Wg + 1 + 2 * i) (fv := ((5 * i : Nat) : Int)) (j := J.old + i) hI (by omega) (by omega) (by omega) (5 * i) rfl (by omega)
    have hlast : J.crew.last - (r + 1) = J.old + i := by show J.old + J.cnt - (r + 1) = _; omega
    have hlast' : J.crew.last - r = J.old + (i + 1) := by show J.old + J.cnt - r = _; omega
    refine ⟨12 + 3 + n2 + 4 + 1 + n1 + 2, fun u w hF => ?_⟩
    refine goes_nxs (n := 2) T.trans T.idle (fun w => i3 _ _ w) ?_
    rw [e3]
    refine goR (r1 u w hF) fun e a' w' ⟨he, hT, h33, hF1⟩ => ⟨he, ?_⟩
    obtain ⟨u1, rfl⟩ := hT.form
    have hf : decide (((5 * i : Nat) : Int) < (J.n : Int)) = true := by simp; omega
    rw [hf] at h33
    refine Goes.step rfl fun w₁ r₁ => ?_
    have h33' : (⟨TS H J.Wg (J.Wg + 1 + 2 * i) u1, []⟩ : Act).eval (.tmp 33) = .bool true := h33
    rw [stepG_cond (t := true) h33']
    refine ⟨T.idle _, ?_⟩
    refine goes_nxs (n := 4) (g := gAt (TS H J.Wg (J.Wg + 1 + 2 * i) u1) (.code .skip :: .code rest1 :: lpT) cs) T.trans T.idle (fun w => i4 _ _ w) ?_
    rw [e4]
    refine goR (r2 u1 w₁ (hF1.rely hI r₁)) fun e a' w2 ⟨he, hT, h11, hF2⟩ => ⟨he, ?_⟩
    obtain ⟨u2, rfl⟩ := hT.form
    refine goes_nxs (n := 3) (g := gAt (TS H J.Wg (J.Wg + 1 + 2 * i) u2) (.code c910 :: .inBlock 1 :: .code rest2 :: lpT) cs) T.trans T.idle (fun w => i5 _ _ _ _ _ w) ?_
    rw [e5]
    have h11' : u2 11 = .pointer (some ⟨J.Wg + 2 + 2 * i, 0, none⟩) := h11
    have hadd := add_goes (C := J.crew) hP hm (TS H J.Wg (J.Wg + 1 + 2 * i) u2) tdA cs (j := J.old + i) (Next := Spawns J.crew (Waits J.crew (HDC J H w0 cs)) r) (D.hires (J.old + i) (J.Wg + 2 + 2 * i + 1) (J.Wg + 1 + 2 * i) (J.Wg + 2 + 2 * i) ((5 * i : Nat) : Int) ((min (5 * i + 5) J.n : Nat) : Int)) (M := 0 + 3) (fun w hF => by
      rw [hP, ts1 h11']
      refine goes_nxs (n := 3) T.trans T.idle (fun w => i7 _ _ _ _ _ _ w) ?_
      refine fun w₁ r₁ => ⟨r7 .., _, _, by rw [hP]; exact s7 .., ⟨N, ?_⟩, ?_⟩
      · have hs : J.Wg + 2 + 2 * i + 1 = J.Wg + 3 + 2 * i := by omega
        have hF' := hF.rely hI r₁
        rw [hs] at hF'
        exact hwk w₁ hF'
      · refine spawns_of (m := M2) ?_
        rw [hP, hlast']
        have hs : J.Wg + 2 + 2 * i + 1 = J.Wg + 3 + 2 * i := by omega
        have hF' := (hF.rely hI r₁).toSF
        rw [hs] at hF'
        exact h2 _ w₁ hF') hF2
    rw [hP] at hadd
    have e0 : StopR J H w0 cs (r + 1) = AtDi J.crew (J.old + i) (Spawns J.crew (Waits J.crew (HDC J H w0 cs)) r) := by
      show AtDi J.crew (J.crew.last - (r + 1)) _ = _
      rw [hlast]
    rw [e0]
    exact hadd
end
end Go.Proofs.Ytadngncbbbbapaa.Lift
