/-
  Words for structs in memory: a block that is one struct, a proof that is returned.
-/
import Derived.Test.YtmfmhhopnmglcaaDoorSl
import Derived.Test.YtmfmhhopnmglcaaDoorCat
import Derived.Test.YtmfmhhopnmglcaaDoorTym
namespace Go.Proofs.YtmfmhhopnmglcaaDoor
open Go.RowKit
set_option linter.unusedVariables false
set_option linter.unusedSimpArgs false
set_option maxRecDepth 20000
/-- The block holds just these cells. -/
def Tri (w : World) (g : Nat) (cs : List Value) (t : TypeId) : Prop := w.heap[g]? = some (.cells cs.toArray t)
theorem Tri.new (w : World) (cs : List Value) (t : TypeId) : Tri (w.alloc (.cells cs.toArray t)) w.heap.size cs t := heap_alloc_new w _
theorem Tri.below {w w' : World} {g B : Nat} {cs : List Value} {t : TypeId} (h : Tri w g cs t) (k : Below B w w') (hg : g < B) : Tri w' g cs t := (k.block g hg).trans h
theorem Tri.at_ {w : World} {g : Nat} {cs : List Value} {t : TypeId} (h : Tri w g cs t) (i : Nat) : w.cell? ⟨g, i, none⟩ = cs[i]? := by
  unfold World.cell?
  have h' : w.heap[g]? = some (.cells cs.toArray t) := h
  simp only [h']
  simp
theorem Tri.range {w : World} {g : Nat} {cs : List Value} {t : TypeId} (h : Tri w g cs t) : w.rangeAt g 0 cs := by
  intro j v hv
  rw [Nat.zero_add, h.at_, hv]
theorem Tri.there {w : World} {g : Nat} {cs : List Value} {t : TypeId} (h : Tri w g cs t) : w.there g 0 cs.length := by
  intro j hj
  rw [Nat.zero_add, h.at_, List.getElem?_eq_getElem hj]
  refine ⟨rfl, ?_⟩
  unfold World.frozen?
  have h' : w.heap[g]? = some (.cells cs.toArray t) := h
  simp only [h']
  simp
theorem own_cells {lo hi g : Nat} {a : Option Addr} {n cap : Nat} {zs : List Int} (hg : g < lo ∨ hi ≤ g) : ∀ (vs : List Value) (o : Nat) {w : World}, Own lo hi w a n cap zs → Own lo hi (w.setCells g o vs) a n cap zs
  | [], _, _, h => h
  | v :: r, o, _, h => own_cells hg r (o + 1) (h.far (q := ⟨g, o, none⟩) hg v)
/-- A result that lies in a variable of its own, and one in a slot. -/
theorem results_mid2 {P : Program} {fn : Func} {p q : Tmp} {ty : TypeId} (h : fn.results = #[.cell p ty, .tmp q]) (tmps : Array Value) (w : World) (g : Nat) (cs : List Value) (x : Value) (d : TypeDesc)
    (hp : tmps.getD p undef = .pointer (some ⟨g, 0, none⟩)) (hx : tmps.getD q undef = x) (hc : w.rangeAt g 0 cs) (hu : P.underlying ty = some d) (hd : d.isRow = true) (hi : (P.info? ty).map (·.size) = some cs.length) :
    (results fn tmps).run P w = .ok (.tuple #[.agg cs.toArray, x]) w := by
  have hp' : tmps[p]?.getD undef = .pointer (some ⟨g, 0, none⟩) := by simpa using hp
  have hx' : tmps[q]?.getD undef = x := by simpa using hx
  simp [results, h, hp', hx', asAddr, run_loadVar_mid w g 0 ty cs d hc hu hd hi]
/-- A result in a slot, one in a variable of its own, one in a slot. -/
theorem results_mid3 {P : Program} {fn : Func} {p q q' : Tmp} {ty : TypeId} (h : fn.results = #[.tmp q', .cell p ty, .tmp q]) (tmps : Array Value) (w : World) (g : Nat) (cs : List Value) (x x' : Value) (d : TypeDesc)
    (hp : tmps.getD p undef = .pointer (some ⟨g, 0, none⟩)) (hx : tmps.getD q undef = x) (hx0 : tmps.getD q' undef = x') (hc : w.rangeAt g 0 cs) (hu : P.underlying ty = some d) (hd : d.isRow = true) (hi : (P.info? ty).map (·.size) = some cs.length) :
    (results fn tmps).run P w = .ok (.tuple #[x', .agg cs.toArray, x]) w := by
  have hp' : tmps[p]?.getD undef = .pointer (some ⟨g, 0, none⟩) := by simpa using hp
  have hx' : tmps[q]?.getD undef = x := by simpa using hx
  have hx1 : tmps[q']?.getD undef = x' := by simpa using hx0
  simp [results, h, hp', hx', hx1, asAddr, run_loadVar_mid w g 0 ty cs d hc hu hd hi]
/-- The cells of a proof. -/
def prc (u v : Int) (a : Option Addr) (n cap : Nat) : List Value := [.int .i64 u, .int .i64 v, .slice a n cap]
theorem prc_one (u v : Int) (a : Option Addr) (n cap : Nat) : (prc u v a n cap).toArray.all (·.oneCell') = true :=
  all_oneCell_toArray (by intro x hx; simp only [prc, List.mem_cons, List.not_mem_nil, or_false] at hx; rcases hx with rfl | rfl | rfl <;> rfl)
/-- Returned: a proof whose row is its own. -/
def NewPrf (u v : Int) (zs : List Int) (w : World) (e : Ending) (w' : World) : Prop := ∃ a n cap, e = .returned (.agg #[.int .i64 u, .int .i64 v, .slice a n cap]) ∧ Own w.heap.size w'.heap.size w' a n cap zs ∧ Below w.heap.size w w'
/-- The same, and a bool behind it. -/
def NewPrfB (u v : Int) (zs : List Int) (t : Bool) (w : World) (e : Ending) (w' : World) : Prop := ∃ a n cap, e = .returned (.tuple #[.agg #[.int .i64 u, .int .i64 v, .slice a n cap], .bool t]) ∧ Own w.heap.size w'.heap.size w' a n cap zs ∧ Below w.heap.size w w'
/-- A row, a proof, a bool. -/
def NewRpB (xs : List Int) (u v : Int) (zs : List Int) (t : Bool) (w : World) (e : Ending) (w' : World) : Prop := ∃ m a n c a' n' c', e = .returned (.tuple #[.slice a n c, .agg #[.int .i64 u, .int .i64 v, .slice a' n' c'], .bool t]) ∧ w.heap.size ≤ m ∧ m ≤ w'.heap.size ∧ Own w.heap.size m w' a n c xs ∧ Own m w'.heap.size w' a' n' c' zs ∧ Below w.heap.size w w'
theorem size_alloc1 (w : World) (o : Obj) : (w.alloc o).heap.size = w.heap.size + 1 := by simp
/-- The last store into the struct that is returned. -/
theorem prf_end {g : Nat} {w w6 : World} {u v : Int} {a : Option Addr} {n cap : Nat} {zs : List Int} {lo hi : Nat} {t : TypeId} {cs : List Value} (T : Tri w6 g cs t) (h3 : cs.length = 3) (O : Own lo hi w6 a n cap zs) (hlo : g < lo) (hhi : hi ≤ w6.heap.size) (B : Below w.heap.size w w6) (hg : w.heap.size ≤ g := by omega) :
    (w6.setCells g 0 (prc u v a n cap)).rangeAt g 0 (prc u v a n cap) ∧ Own w.heap.size (w6.setCells g 0 (prc u v a n cap)).heap.size (w6.setCells g 0 (prc u v a n cap)) a n cap zs ∧ Below w.heap.size w (w6.setCells g 0 (prc u v a n cap)) := by
  have b := below_cells hg (prc u v a n cap) 0 B
  have b2 := below_cells (Nat.le_refl g) (prc u v a n cap) 0 (Below.refl g w6)
  refine ⟨World.rangeAt_setCells_same _ _ _ _ (by have := T.there; rw [h3] at this; exact this), (own_cells (.inl hlo) _ 0 O).more (by omega) ?_, b⟩
  exact Nat.le_trans hhi b2.size
theorem range_below {w w' : World} {g B : Nat} {cs : List Value} (h : w.rangeAt g 0 cs) (k : Below B w w') (hg : g < B) : w'.rangeAt g 0 cs := fun j v hv => (k.cell (p := ⟨g, 0 + j, none⟩) hg).trans (h j v hv)
theorem range_keep {p : Nat → Prop} {w w' : World} {g : Nat} {cs : List Value} (h : w.rangeAt g 0 cs) (k : Chg p w w') (hg : ¬ p g) : w'.rangeAt g 0 cs := by
  intro j v hv
  have h1 := h j v hv
  have hlt : g < w.heap.size := by
    rcases Nat.lt_or_ge g w.heap.size with h' | h'
    · exact h'
    · unfold World.cell? at h1; simp [Array.getElem?_eq_none h'] at h1
  exact (World.cell?_of_block (w := w) (k.block g hlt hg)).trans h1
/-- A struct that is returned, put into a variable. -/
theorem prf_hold (W : World) (u v : Int) (a : Option Addr) (n c : Nat) (t : TypeId) : ∃ A V, W.alloc (.cells #[.int .i64 0, .int .i64 0, .slice none 0 0] t) = A ∧ A.there W.heap.size 0 (prc u v a n c).toArray.size ∧ A.setCells W.heap.size 0 (prc u v a n c) = V ∧ Below W.heap.size W V ∧ V.rangeAt W.heap.size 0 (prc u v a n c) ∧ W.heap.size < V.heap.size := by
  have T : (W.alloc (.cells #[.int .i64 0, .int .i64 0, .slice none 0 0] t)).there W.heap.size 0 3 := (Tri.new W [.int .i64 0, .int .i64 0, .slice none 0 0] t).there
  have b := below_cells (Nat.le_refl W.heap.size) (prc u v a n c) 0 ((Below.refl W.heap.size W).alloc (Nat.le_refl _) (.cells #[.int .i64 0, .int .i64 0, .slice none 0 0] t))
  have z := (below_cells (Nat.le_refl W.heap.size) (prc u v a n c) 0 (Below.refl W.heap.size (W.alloc (.cells #[.int .i64 0, .int .i64 0, .slice none 0 0] t)))).size
  rw [size_alloc1] at z
  exact ⟨_, _, rfl, T, rfl, b, World.rangeAt_setCells_same _ _ _ _ T, z⟩
theorem prf_desc : ∃ d, Tryd.prog.underlying 28 = some d ∧ d.isRow = true ∧ (Tryd.prog.info? 28).map (·.size) = some 3 := ⟨_, Tryd.underlying28, rfl, by kernel_rfl⟩
theorem prf_desc' : ∃ d, Tryd.prog.underlying 58 = some d ∧ d.isRow = true ∧ (Tryd.prog.info? 58).map (·.size) = some 3 := ⟨_, Tryd.underlying58, rfl, by kernel_rfl⟩
theorem pair_desc : ∃ d, Tryd.prog.underlying 56 = some d ∧ d.isRow = true ∧ (Tryd.prog.info? 56).map (·.size) = some 2 := ⟨_, Tryd.underlying56, rfl, by kernel_rfl⟩
end Go.Proofs.YtmfmhhopnmglcaaDoor
