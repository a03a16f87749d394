/-
  Words for structs in memory: a block that is one struct, a result that is one.
-/
import Derived.Test.YtigeffgehckbpabSl
namespace Go.Proofs.Ytigeffgehckbpab
open Go.RowKit
set_option linter.unusedVariables false
set_option linter.unusedSimpArgs false
set_option maxRecDepth 20000
/-- The block holds just these cells. -/
def Tri (w : World) (g : Nat) (cs : List Value) (t : TypeId) : Prop := w.heap[g]? = some (.cells cs.toArray t)
theorem Tri.new (w : World) (cs : List Value) (t : TypeId) : Tri (w.alloc (.cells cs.toArray t)) w.heap.size cs t := heap_alloc_new w _
theorem Tri.below {w w' : World} {g B : Nat} {cs : List Value} {t : TypeId} (h : Tri w g cs t) (k : Below B w w') (hg : g < B) : Tri w' g cs t := (k.block g hg).trans h
theorem Tri.at_ {w : World} {g : Nat} {cs : List Value} {t : TypeId} (h : Tri w g cs t) (i : Nat) : w.cell? ⟨g, i, none⟩ = cs[i]? := by
  unfold World.cell?
  have h' : w.heap[g]? = some (.cells cs.toArray t) := h
  simp only [h']
  simp
theorem Tri.range {w : World} {g : Nat} {cs : List Value} {t : TypeId} (h : Tri w g cs t) : w.rangeAt g 0 cs := by
  intro j v hv
  rw [Nat.zero_add, h.at_, hv]
theorem Tri.there {w : World} {g : Nat} {cs : List Value} {t : TypeId} (h : Tri w g cs t) : w.there g 0 cs.length := by
  intro j hj
  rw [Nat.zero_add, h.at_, List.getElem?_eq_getElem hj]
  refine ⟨rfl, ?_⟩
  unfold World.frozen?
  have h' : w.heap[g]? = some (.cells cs.toArray t) := h
  simp only [h']
  simp
theorem own_cells {lo hi g : Nat} {a : Option Addr} {n cap : Nat} {zs : List Int} (hg : g < lo ∨ hi ≤ g) : ∀ (vs : List Value) (o : Nat) {w : World}, Own lo hi w a n cap zs → Own lo hi (w.setCells g o vs) a n cap zs
  | [], _, _, h => h
  | v :: r, o, _, h => own_cells hg r (o + 1) (h.far (q := ⟨g, o, none⟩) hg v)
/-- A result that lies in a variable of its own, and one in a slot. -/
theorem results_mid2 {P : Program} {fn : Func} {p q : Tmp} {ty : TypeId} (h : fn.results = #[.cell p ty, .tmp q]) (tmps : Array Value) (w : World) (g : Nat) (cs : List Value) (x : Value) (d : TypeDesc)
    (hp : tmps.getD p undef = .pointer (some ⟨g, 0, none⟩)) (hx : tmps.getD q undef = x) (hc : w.rangeAt g 0 cs) (hu : P.underlying ty = some d) (hd : d.isRow = true) (hi : (P.info? ty).map (·.size) = some cs.length) :
    (results fn tmps).run P w = .ok (.tuple #[.agg cs.toArray, x]) w := by
  have hp' : tmps[p]?.getD undef = .pointer (some ⟨g, 0, none⟩) := by simpa using hp
  have hx' : tmps[q]?.getD undef = x := by simpa using hx
  simp [results, h, hp', hx', asAddr, run_loadVar_mid w g 0 ty cs d hc hu hd hi]
/-- A result in a slot, one in a variable of its own, one in a slot. -/
theorem results_mid3 {P : Program} {fn : Func} {p q q' : Tmp} {ty : TypeId} (h : fn.results = #[.tmp q', .cell p ty, .tmp q]) (tmps : Array Value) (w : World) (g : Nat) (cs : List Value) (x x' : Value) (d : TypeDesc)
    (hp : tmps.getD p undef = .pointer (some ⟨g, 0, none⟩)) (hx : tmps.getD q undef = x) (hx0 : tmps.getD q' undef = x') (hc : w.rangeAt g 0 cs) (hu : P.underlying ty = some d) (hd : d.isRow = true) (hi : (P.info? ty).map (·.size) = some cs.length) :
    (results fn tmps).run P w = .ok (.tuple #[x', .agg cs.toArray, x]) w := by
  have hp' : tmps[p]?.getD undef = .pointer (some ⟨g, 0, none⟩) := by simpa using hp
  have hx' : tmps[q]?.getD undef = x := by simpa using hx
  have hx1 : tmps[q']?.getD undef = x' := by simpa using hx0
  simp [results, h, hp', hx', hx1, asAddr, run_loadVar_mid w g 0 ty cs d hc hu hd hi]
theorem size_alloc1 (w : World) (o : Obj) : (w.alloc o).heap.size = w.heap.size + 1 := by simp
theorem Tri.kb {b : Nat} {w w' : World} {g : Nat} {cs : List Value} {t : TypeId} (h : Tri w g cs t) (k : Kb b w w') (hg : g ≠ b) : Tri w' g cs t := by
  have hl : g < w.heap.size := by
    rcases Nat.lt_or_ge g w.heap.size with h' | h'
    · exact h'
    · unfold Tri at h; rw [Array.getElem?_eq_none h'] at h; cases h
  exact (k.block g hl hg).trans h
theorem Tri.set {w : World} {g i : Nat} {cs : List Value} {t : TypeId} (h : Tri w g cs t) (v : Value) : Tri (w.setCell ⟨g, i, none⟩ v) g (cs.set i v) t := by
  unfold Tri at h ⊢
  have hl : g < w.heap.size := by
    rcases Nat.lt_or_ge g w.heap.size with h' | h'
    · exact h'
    · rw [Array.getElem?_eq_none h'] at h; cases h
  simp [World.setCell, Array.getElem?_modify, h]
theorem Tri.far {w : World} {g : Nat} {p : Addr} {cs : List Value} {t : TypeId} (h : Tri w g cs t) (v : Value) (hp : p.block ≠ g) : Tri (w.setCell p v) g cs t := by
  unfold Tri at h ⊢
  rw [← h]
  simp [World.setCell, Array.getElem?_modify, hp]
/-- Nothing below is written, and the three cells at g are there. -/
def CutW (w w' : World) (g : Nat) : Prop := Below w.heap.size w w' ∧ w'.there g 0 3
theorem CutW.keep {w W W' : World} {g : Nat} (h : CutW w W g) (k : Below W.heap.size W W') : CutW w W' g := by
  have hg : g < W.heap.size := by
    rcases Nat.lt_or_ge g W.heap.size with h' | h'
    · exact h'
    · have := (h.2 0 (by omega)).1
      unfold World.cell? at this
      simp [Array.getElem?_eq_none h'] at this
  refine ⟨h.1.trans (k.mono h.1.size), fun j hj => ?_⟩
  rw [k.cell (p := ⟨g, 0 + j, none⟩) hg, World.frozen?_of_block (w := W) (k.block g hg)]
  exact h.2 j hj
theorem CutW.cells {w W : World} {g : Nat} (h : CutW w W g) (hg : w.heap.size ≤ g) (vs : List Value) : CutW w (W.setCells g 0 vs) g := ⟨below_cells hg vs 0 h.1, World.there_setCells h.2 _ _ _⟩
theorem cut_w {p R : Prop} (h : Hid p ∧ R) : p := h.1.out
theorem cut_bl {w W : World} {g : Nat} {R : Prop} (h : Hid (CutW w W g) ∧ R) : Below w.heap.size w W := h.1.out.1
theorem cut_th {w W : World} {g : Nat} {R : Prop} (h : Hid (CutW w W g) ∧ R) : W.there g 0 3 := h.1.out.2
/-- What the cell holds. -/
def was (w : World) (g i : Nat) : Value := (w.cell? ⟨g, i, none⟩).getD undef
theorem was_of {w : World} {g i : Nat} (h : (w.cell? ⟨g, i, none⟩).isSome = true) : w.cell? ⟨g, i, none⟩ = some (was w g i) := by
  obtain ⟨v, hv⟩ := Option.isSome_iff_exists.1 h
  rw [was, hv]; rfl
theorem CutW.lt {w W : World} {g : Nat} (h : CutW w W g) : g < W.heap.size := by
  rcases Nat.lt_or_ge g W.heap.size with h' | h'
  · exact h'
  · have := (h.2 0 (by omega)).1
    unfold World.cell? at this
    simp [Array.getElem?_eq_none h'] at this
theorem cut_lt {w W : World} {g : Nat} {R : Prop} (h : Hid (CutW w W g) ∧ R) : g + 1 ≤ W.heap.size := h.1.out.lt
end Go.Proofs.Ytigeffgehckbpab
