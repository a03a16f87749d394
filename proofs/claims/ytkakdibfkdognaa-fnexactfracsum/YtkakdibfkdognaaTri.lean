/-
  Words for structs in memory: a block that is one struct, a result that is one.
-/
import Derived.Test.YtkakdibfkdognaaSl
namespace Go.Proofs.Ytkakdibfkdognaa
open Go.RowKit
set_option linter.unusedVariables false
set_option linter.unusedSimpArgs false
set_option maxRecDepth 20000
/-- The block holds just these cells. -/
def Tri (w : World) (g : Nat) (cs : List Value) (t : TypeId) : Prop := w.heap[g]? = some (.cells cs.toArray t)
theorem Tri.new (w : World) (cs : List Value) (t : TypeId) : Tri (w.alloc (.cells cs.toArray t)) w.heap.size cs t := heap_alloc_new w _
theorem Tri.below {w w' : World} {g B : Nat} {cs : List Value} {t : TypeId} (h : Tri w g cs t) (k : Below B w w') (hg : g < B) : Tri w' g cs t := (k.block g hg).trans h
theorem Tri.at_ {w : World} {g : Nat} {cs : List Value} {t : TypeId} (h : Tri w g cs t) (i : Nat) : w.cell? ⟨g, i, none⟩ = cs[i]? := by
  unfold World.cell?
  have h' : w.heap[g]? = some (.cells cs.toArray t) := h
  simp only [h']
  simp
theorem Tri.range {w : World} {g : Nat} {cs : List Value} {t : TypeId} (h : Tri w g cs t) : w.rangeAt g 0 cs := by
  intro j v hv
  rw [Nat.zero_add, h.at_, hv]
theorem Tri.there {w : World} {g : Nat} {cs : List Value} {t : TypeId} (h : Tri w g cs t) : w.there g 0 cs.length := by
  intro j hj
  rw [Nat.zero_add, h.at_, List.getElem?_eq_getElem hj]
  refine ⟨rfl, ?_⟩
  unfold World.frozen?
  have h' : w.heap[g]? = some (.cells cs.toArray t) := h
  simp only [h']
  simp
theorem own_cells {lo hi g : Nat} {a : Option Addr} {n cap : Nat} {zs : List Int} (hg : g < lo ∨ hi ≤ g) : ∀ (vs : List Value) (o : Nat) {w : World}, Own lo hi w a n cap zs → Own lo hi (w.setCells g o vs) a n cap zs
  | [], _, _, h => h
  | v :: r, o, _, h => own_cells hg r (o + 1) (h.far (q := ⟨g, o, none⟩) hg v)
/-- A result that lies in a variable of its own, and one in a slot. -/
theorem results_mid2 {P : Program} {fn : Func} {p q : Tmp} {ty : TypeId} (h : fn.results = #[.cell p ty, .tmp q]) (tmps : Array Value) (w : World) (g : Nat) (cs : List Value) (x : Value) (d : TypeDesc)
    (hp : tmps.getD p undef = .pointer (some ⟨g, 0, none⟩)) (hx : tmps.getD q undef = x) (hc : w.rangeAt g 0 cs) (hu : P.underlying ty = some d) (hd : d.isRow = true) (hi : (P.info? ty).map (·.size) = some cs.length) :
    (results fn tmps).run P w = .ok (.tuple #[.agg cs.toArray, x]) w := by
  have hp' : tmps[p]?.getD undef = .pointer (some ⟨g, 0, none⟩) := by simpa using hp
  have hx' : tmps[q]?.getD undef = x := by simpa using hx
  simp [results, h, hp', hx', asAddr, run_loadVar_mid w g 0 ty cs d hc hu hd hi]
/-- A result in a slot, one in a variable of its own, one in a slot. -/
theorem results_mid3 {P : Program} {fn : Func} {p q q' : Tmp} {ty : TypeId} (h : fn.results = #[.tmp q', .cell p ty, .tmp q]) (tmps : Array Value) (w : World) (g : Nat) (cs : List Value) (x x' : Value) (d : TypeDesc)
    (hp : tmps.getD p undef = .pointer (some ⟨g, 0, none⟩)) (hx : tmps.getD q undef = x) (hx0 : tmps.getD q' undef = x') (hc : w.rangeAt g 0 cs) (hu : P.underlying ty = some d) (hd : d.isRow = true) (hi : (P.info? ty).map (·.size) = some cs.length) :
    (results fn tmps).run P w = .ok (.tuple #[x', .agg cs.toArray, x]) w := by
  have hp' : tmps[p]?.getD undef = .pointer (some ⟨g, 0, none⟩) := by simpa using hp
  have hx' : tmps[q]?.getD undef = x := by simpa using hx
  have hx1 : tmps[q']?.getD undef = x' := by simpa using hx0
  simp [results, h, hp', hx', hx1, asAddr, run_loadVar_mid w g 0 ty cs d hc hu hd hi]
theorem size_alloc1 (w : World) (o : Obj) : (w.alloc o).heap.size = w.heap.size + 1 := by simp
theorem Tri.kb {b : Nat} {w w' : World} {g : Nat} {cs : List Value} {t : TypeId} (h : Tri w g cs t) (k : Kb b w w') (hg : g ≠ b) : Tri w' g cs t := by
  have hl : g < w.heap.size := by
    rcases Nat.lt_or_ge g w.heap.size with h' | h'
    · exact h'
    · unfold Tri at h; rw [Array.getElem?_eq_none h'] at h; cases h
  exact (k.block g hl hg).trans h
end Go.Proofs.Ytkakdibfkdognaa
