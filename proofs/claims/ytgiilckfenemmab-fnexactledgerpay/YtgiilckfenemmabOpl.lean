/-
  Opening a ledger that came in: a struct of a fraction and a slice of fractions.
-/
import Derived.Test.YtgiilckfenemmabRows
import Derived.Test.YtgiilckfenemmabFs
import Derived.Lib.SmallJoins
import Derived.Deep.Slices
import Derived.ChangeSame
namespace Go.Proofs.Ytgiilckfenemmab
open Go.RowKit Go.ChangeShapes Go.WideShapes Go.Deep Go.Joins
set_option linter.unusedVariables false
set_option linter.unusedSimpArgs false
set_option maxRecDepth 20000
/-- The number in a cell. -/
def numAt (w : World) (a : Addr) : Int := match w.cell? a with
  | some (.int _ n) => n
  | _ => 0
section
variable {H : Type} {enc : TypeId × Value → H} {w : World} {base : Nat} {spare : Nat → Bool} {held : Bool}
theorem open_two {fuel : Nat} {cs : List Value} {x : DataW H × List MemPlace} (h : DataW.trod enc Try.prog w base spare held fuel 23 cs = some x) (hl : cs.length = 2) : ∃ u v : Int, cs = [.int .i64 u, .int .i64 v] ∧ (Lit.int .i64 u).wf = true ∧ (Lit.int .i64 v).wf = true := by
  match cs, hl with
  | [c0, c1], _ =>
    obtain ⟨y0, y1, n, _, _, h0, h1⟩ := trod_struct2 Try.underlying23 h
    have k : Try.prog.cellsOf 3 = 1 := by kernel_rfl
    simp only [k] at h0 h1
    obtain ⟨u, e0, -, wu⟩ := DataW.trod_int Try.underlying3 h0
    obtain ⟨v, e1, -, wv⟩ := DataW.trod_int Try.underlying3 h1
    simp at e0 e1
    exact ⟨u, v, by rw [e0, e1], wu, wv⟩
theorem open_fracs {fuel : Nat} {cs : List Value} {x : DataW H × List MemPlace} (h : DataW.trod enc Try.prog w base spare held fuel 24 cs = some x) : ∃ (a : Option Addr) (n cap : Nat) (fs : List (Int × Int)), cs = [.slice a n cap] ∧ n ≤ cap ∧ cap ≤ maxLen ∧ Sf w a n fs := by
  rcases open_slice Try.underlying24 h with ⟨rfl, _⟩ | ⟨a, len, cap, m, n, D, Pl, rfl, hb, hl, hm, hmm, hx, hi⟩
  · exact ⟨none, 0, 0, [], rfl, Nat.le_refl _, Nat.zero_le _, Sf.nil _ _⟩
  · have k : Try.prog.cellsOf 23 = 2 := by kernel_rfl
    have hlm : len ≤ m := by rw [hmm]; split <;> omega
    have C : ∀ i, i < len → ∃ u v : Int, w.cell? (a.add (i * 2)) = some (.int .i64 u) ∧ w.cell? (a.add (i * 2 + 1)) = some (.int .i64 v) := by
      intro i hi'
      obtain ⟨cs', hc, ht⟩ := hi i (by omega)
      rw [k] at hc
      obtain ⟨_, hcl, hat⟩ := World.cells?_some hc
      obtain ⟨u, v, rfl, -, -⟩ := open_two ht hcl
      have a0 := hat 0 (by omega)
      have a1 := hat 1 (by omega)
      rw [Addr.add_add] at a0 a1
      exact ⟨u, v, a0, a1⟩
    by_cases h0 : len = 0
    · subst h0; exact ⟨some a, 0, cap, [], rfl, hl, hm, Sf.nil _ _⟩
    · obtain ⟨b, off, spot⟩ := a
      have hspot : spot = none := by
        obtain ⟨u, v, e0, -⟩ := C 0 (by omega)
        simpa [Addr.add] using World.cell?_spot e0
      subst hspot
      have fl : ∀ (m : Nat) (g : Nat → Int) (k : Nat), k < m → ((flat ((List.range m).map fun i => (g (2 * i), g (2 * i + 1)))).getD (2 * k) 0 = g (2 * k) ∧ (flat ((List.range m).map fun i => (g (2 * i), g (2 * i + 1)))).getD (2 * k + 1) 0 = g (2 * k + 1)) := by
        intro m g k hk
        obtain ⟨e1, e2⟩ := flat_get ((List.range m).map fun i => (g (2 * i), g (2 * i + 1))) k
        rw [e1, e2]
        simp [List.getD_eq_getElem?_getD, List.getElem?_range hk, hk]
      refine ⟨_, len, cap, (List.range len).map fun i => (numAt w ⟨b, off + 2 * i, none⟩, numAt w ⟨b, off + (2 * i + 1), none⟩), rfl, hl, hm, by simp, by simp [flat_len], fun _ => ⟨b, off, rfl, fun i hi' => ?_⟩⟩
      obtain ⟨q, hq⟩ : ∃ q, i = 2 * q ∨ i = 2 * q + 1 := ⟨i / 2, by omega⟩
      have hql : q < len := by omega
      obtain ⟨e1, e2⟩ := fl len (fun j => numAt w ⟨b, off + j, none⟩) q hql
      obtain ⟨u, v, c0, c1⟩ := C q hql
      rw [Addr.add_mid] at c0 c1
      rcases hq with rfl | rfl
      · rw [e1]
        rw [show off + q * 2 = off + 2 * q by omega] at c0
        simp only [numAt, c0]
      · rw [e2]
        rw [show off + (q * 2 + 1) = off + (2 * q + 1) by omega] at c1
        simp only [numAt, c1]
/-- The ledger, opened. -/
theorem open_ledger {r : Reach} {b0 : Nat} {v : Value} {d : DataW H} {p : List MemPlace} (hv : Value.okWide Try.prog w r b0 26 v) (h : DataW.Trod enc Try.prog w base spare held 26 v d p) :
    ∃ (x y : Int) (a : Option Addr) (n cap : Nat) (fs : List (Int × Int)), v = .agg #[.int .i64 x, .int .i64 y, .slice a n cap] ∧ n ≤ cap ∧ cap ≤ maxLen ∧ Sf w a n fs := by
  obtain ⟨cs, rfl, hsz⟩ := okWide_struct Try.underlying26 hv
  obtain ⟨c0, c1, c2, rfl⟩ := array3 (hsz.trans (by kernel_rfl : Try.prog.cellsOf 26 = 3))
  obtain ⟨fuel, hf⟩ := h
  obtain ⟨y0, y1, m, _, _, h0, h1⟩ := trod_struct2 Try.underlying26 hf
  have k0 : Try.prog.cellsOf 23 = 2 := by kernel_rfl
  have k1 : Try.prog.cellsOf 24 = 1 := by kernel_rfl
  simp only [k0] at h0
  simp only [k1] at h1
  obtain ⟨u, v, e, -, -⟩ := open_two h0 (by simp [Value.cells])
  obtain ⟨a, n, cap, fs, e', g1, g2, g3⟩ := open_fracs h1
  simp [Value.cells] at e e'
  obtain ⟨rfl, rfl⟩ := e
  exact ⟨u, v, a, n, cap, fs, by rw [e'], g1, g2, g3⟩
end
end Go.Proofs.Ytgiilckfenemmab
