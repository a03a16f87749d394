/-
  The starter: what it holds of the world, and the regions of its loop.
-/
import Derived.Test.YtadngncbbbbapaaWorkf
namespace Go.Proofs.Ytadngncbbbbapaa.Lift
open Go.Conc Go.Proofs.Ytadngncbbbbapaa.Crew Go.RowKit
open Go.ConcR (WgAt stA smA)
set_option linter.unusedVariables false
set_option linter.unusedSimpArgs false
/-- The starter's variables: their boxes; the slices a and b. -/
structure Hdr where
  op : Nat
  a : Nat
  b : Nat
  ou : Nat
  ca : Nat
  cb : Nat
  pa : Option Addr
  pb : Option Addr
  f : FuncId
/-- In the world in which the group was made. -/
structure Hdr.In (J : Job) (H : Hdr) (w0 : World) : Prop where
  fit : J.Fit
  size : w0.heap.size = J.Wg
  opL : H.op < J.Wg
  aL : H.a < J.Wg
  bL : H.b < J.Wg
  ouL : H.ou < J.Wg
  opO : H.op ≠ J.Ob
  aO : H.a ≠ J.Ob
  bO : H.b ≠ J.Ob
  ouO : H.ou ≠ J.Ob
  opS : ¬ J.S H.op
  aS : ¬ J.S H.a
  bS : ¬ J.S H.b
  ouS : ¬ J.S H.ou
  cop : w0.cell? ⟨H.op, 0, none⟩ = some (.func (.func H.f) #[] #[])
  ca : w0.cell? ⟨H.a, 0, none⟩ = some (.slice H.pa J.n H.ca)
  cb : w0.cell? ⟨H.b, 0, none⟩ = some (.slice H.pb J.n H.cb)
  cou : w0.cell? ⟨H.ou, 0, none⟩ = some (.slice (some ⟨J.Ob, 0, none⟩) J.n J.n)
  n : J.n ≤ 20
  highS : ∀ b, J.Wg ≤ b → ¬ J.S b
/-- A box of an int. -/
def IBox (w : World) (b : Nat) (v : Int) : Prop := w.heap[b]? = some (.cells #[.int .i64 v] 3 (0, 0))
theorem IBox.cell {w : World} {b : Nat} {v : Int} (h : IBox w b v) : w.cell? ⟨b, 0, none⟩ = some (.int .i64 v) := by unfold IBox at h; simp [World.cell?, h]
theorem IBox.thaw {w : World} {b : Nat} {v : Int} (h : IBox w b v) : w.frozen? ⟨b, 0, none⟩ = false := by unfold IBox at h; simp [World.frozen?, h]
theorem IBox.lt {w : World} {b : Nat} {v : Int} (h : IBox w b v) : b < w.heap.size := (Array.getElem?_eq_some_iff.1 h).1
theorem IBox.set {w : World} {b : Nat} {v : Int} (h : IBox w b v) (v' : Int) : IBox (w.setCell ⟨b, 0, none⟩ (.int .i64 v')) b v' := by
  unfold IBox at *
  rw [setCell_eq_setRow w b 0 _ 3 (0, 0) _ h, setRow_heap w b _ _ 3 _ h]
  rfl
theorem IBox.new (w : World) : IBox (w.alloc (.cells #[.int .i64 0] 3)) w.heap.size 0 := heap_alloc_new w _
/-- What the starter holds. -/
structure SB (J : Job) (w0 w : World) : Prop where
  os : w.os = w0.os
  tape : w.tape = w0.tape
  output : w.output = w0.output
  live : J.Lv w
  block : ∀ b, b < J.Wg → b ≠ J.Ob → w.heap[b]? = w0.heap[b]?
  out : J.Shp w0 w
structure SF (J : Job) (w0 : World) (sz fb : Nat) (fv : Int) (w : World) : Prop extends SB J w0 w where
  size : w.heap.size = sz
  low : J.Wg < fb
  fr : IBox w fb fv
structure SG (J : Job) (w0 : World) (sz fb : Nat) (fv : Int) (tb : Nat) (tv : Int) (w : World) : Prop extends SF J w0 sz fb fv w where
  lowT : J.Wg < tb
  ne : tb ≠ fb
  to : IBox w tb tv
section
variable {J : Job} {H : Hdr} {w0 w w₁ : World} {sz fb tb : Nat} {fv tv : Int} {j : Nat}
theorem SB.rely (h : SB J w0 w) (r : J.RC w w₁) : SB J w0 w₁ := ⟨r.os.trans h.os, r.tape.trans h.tape, r.output.trans h.output, r.live h.live, fun b h1 h2 => (r.block b (by omega) h2).trans (h.block b h1 h2), fun cs hc => by
  obtain ⟨c1, h1, h2⟩ := h.out cs hc
  obtain ⟨cs', h3, h4⟩ := r.shp c1 h1
  exact ⟨cs', h3, h4.trans h2⟩⟩
theorem SF.rely (I : H.In J w0) (h : SF J w0 sz fb fv w) (r : J.RC w w₁) : SF J w0 sz fb fv w₁ := ⟨h.toSB.rely r, r.size.trans h.size, h.low, (r.block fb (by have := h.low; omega) (by have := h.low; have := I.fit.ob; omega)).trans h.fr⟩
theorem SG.rely (I : H.In J w0) (h : SG J w0 sz fb fv tb tv w) (r : J.RC w w₁) : SG J w0 sz fb fv tb tv w₁ := ⟨h.toSF.rely I r, h.lowT, h.ne, (r.block tb (by have := h.lowT; omega) (by have := h.lowT; have := I.fit.ob; omega)).trans h.to⟩
theorem SB.alloc (I : H.In J w0) (h : SB J w0 w) (hs : J.Wg < w.heap.size) (o : Obj) : SB J w0 (w.alloc o) := by
  have hb : ∀ b, b ≤ J.Wg → (w.alloc o).heap[b]? = w.heap[b]? := fun b hb => Below.heap_alloc _ _ _ (by omega)
  obtain ⟨st, sm, hl⟩ := h.live
  refine ⟨h.os, h.tape, h.output, ⟨st, sm, (hb _ (Nat.le_refl _)).trans hl⟩, fun b h1 h2 => (hb b (by omega)).trans (h.block b h1 h2), fun cs hc => ?_⟩
  obtain ⟨c1, h1, h2⟩ := h.out cs hc
  exact ⟨c1, (hb _ (by have := I.fit.ob; omega)).trans h1, h2⟩
theorem SB.set (I : H.In J w0) (h : SB J w0 w) {b : Nat} (hb : J.Wg < b) (v : Value) : SB J w0 (w.setCell ⟨b, 0, none⟩ v) := by
  have hs : ∀ c, c ≠ b → (w.setCell ⟨b, 0, none⟩ v).heap[c]? = w.heap[c]? := fun c hc => Below.heap_setCell _ _ _ _ hc
  obtain ⟨st, sm, hl⟩ := h.live
  refine ⟨h.os, h.tape, h.output, ⟨st, sm, (hs _ (by omega)).trans hl⟩, fun c h1 h2 => (hs c (by omega)).trans (h.block c h1 h2), fun cs hc => ?_⟩
  obtain ⟨c1, h1, h2⟩ := h.out cs hc
  exact ⟨c1, (hs _ (by have := I.fit.ob; omega)).trans h1, h2⟩
theorem SF.alloc (I : H.In J w0) (h : SF J w0 sz fb fv w) : SG J w0 (sz + 1) fb fv sz 0 (w.alloc (.cells #[.int .i64 0] 3)) := by
  have hlt := h.fr.lt
  have hsz := h.size
  have hlo := h.low
  refine ⟨⟨h.toSB.alloc I (by omega) _, by simp [hsz], h.low, (Below.heap_alloc _ _ _ hlt).trans h.fr⟩, by omega, by omega, ?_⟩
  rw [← hsz]
  exact IBox.new w
theorem SG.set (I : H.In J w0) (h : SG J w0 sz fb fv tb tv w) (v : Int) : SG J w0 sz fb fv tb v (w.setCell ⟨tb, 0, none⟩ (.int .i64 v)) :=
  ⟨⟨h.toSB.set I h.lowT _, by simpa [World.setCell] using h.size, h.low, (Below.heap_setCell _ _ _ _ (Ne.symm h.ne)).trans h.fr⟩, h.lowT, h.ne, h.to.set v⟩
theorem SF.set (I : H.In J w0) (h : SF J w0 sz fb fv w) (v : Int) : SF J w0 sz fb v (w.setCell ⟨fb, 0, none⟩ (.int .i64 v)) :=
  ⟨h.toSB.set I h.low _, by simpa [World.setCell] using h.size, h.low, h.fr.set v⟩
theorem SG.new (h : SG J w0 sz fb fv tb tv w) : SF J w0 sz tb tv w := ⟨h.toSB, h.size, h.lowT, h.to⟩
/-- The group alone turns. -/
theorem SB.grp (I : H.In J w0) (h : SB J w0 w) {ad : Addr} (ha : ad.block = J.Wg) {v : Value} (hl : J.Lv (w.setCell ad v)) : SB J w0 (w.setCell ad v) := by
  have hs : ∀ c, c ≠ J.Wg → (w.setCell ad v).heap[c]? = w.heap[c]? := fun c hc => Below.heap_setCell _ _ _ _ (by rw [ha]; exact hc)
  refine ⟨h.os, h.tape, h.output, hl, fun c h1 h2 => (hs c (by omega)).trans (h.block c h1 h2), fun cs hc => ?_⟩
  obtain ⟨c1, h1, h2⟩ := h.out cs hc
  exact ⟨c1, (hs _ (by have := I.fit.ob; omega)).trans h1, h2⟩
theorem SF.grp (I : H.In J w0) (h : SF J w0 sz fb fv w) {ad : Addr} (ha : ad.block = J.Wg) {v : Value} (hl : J.Lv (w.setCell ad v)) : SF J w0 sz fb fv (w.setCell ad v) :=
  ⟨h.toSB.grp I ha hl, by simpa [World.setCell] using h.size, h.low, (Below.heap_setCell _ _ _ _ (by rw [ha]; have := h.low; omega)).trans h.fr⟩
theorem SG.grp (I : H.In J w0) (h : SG J w0 sz fb fv tb tv w) {ad : Addr} (ha : ad.block = J.Wg) {v : Value} (hl : J.Lv (w.setCell ad v)) : SG J w0 sz fb fv tb tv (w.setCell ad v) :=
  ⟨h.toSF.grp I ha hl, h.lowT, h.ne, (Below.heap_setCell _ _ _ _ (by rw [ha]; have := h.lowT; omega)).trans h.to⟩
theorem SB.low (h : SB J w0 w) {b : Nat} (h1 : b < J.Wg) (h2 : b ≠ J.Ob) : w.cell? ⟨b, 0, none⟩ = w0.cell? ⟨b, 0, none⟩ := World.cell?_of_block (h.block b h1 h2)
/-! what the starter may do -/
theorem dcRead (w : World) {es : Array Event} (h : ∀ e ∈ es, Ev0 J.core j e) : J.DC j w w es := ⟨Nat.le_refl _, fun _ _ => rfl, h⟩
theorem dcAlloc {w : World} (h : J.top j ≤ w.heap.size) (o : Obj) {es : Array Event} (he : ∀ e ∈ es, Ev0 J.core j e) : J.DC j w (w.alloc o) es := ⟨by simp, fun b hb => Below.heap_alloc _ _ _ (by omega), he⟩
theorem dcSet {w : World} {b : Nat} (h : J.top j ≤ b) (v : Value) {es : Array Event} (he : ∀ e ∈ es, Ev0 J.core j e) : J.DC j w (w.setCell ⟨b, 0, none⟩ v) es := ⟨by simp [World.setCell], fun c hc => Below.heap_setCell _ _ _ _ (by show c ≠ b; omega), he⟩
theorem ev_low (I : H.In J w0) {b : Nat} (h1 : b < J.Wg) (h2 : b ≠ J.Ob) (h3 : ¬ J.S b) : Ev0 J.core j ⟨.cell ⟨b, 0, none⟩, false, false⟩ := J.ev0 I.fit false (by show b ≠ J.Wg; omega) h2 h3 (by show b < _; omega) (by simp)
theorem ev_high (I : H.In J w0) {b : Nat} (wr : Bool) (h1 : J.top j ≤ b) (h2 : b < J.Wg + 2 + 2 * J.cnt) : Ev0 J.core j ⟨.cell ⟨b, 0, none⟩, wr, false⟩ := by
  have : J.Wg < b := by unfold Job.top at h1; omega
  exact J.ev0 I.fit wr (by show b ≠ J.Wg; omega) (by show b ≠ J.Ob; have := I.fit.ob; omega) (I.highS b (by omega)) h2 (fun _ => h1)
end
/-- The starter's temporaries. -/
def TS (H : Hdr) (Wg fb : Nat) (u : Nat → Value) : Array Value := #[u 0, u 1, u 2, .pointer (some ⟨H.op, 0, none⟩), .pointer (some ⟨H.a, 0, none⟩), .pointer (some ⟨H.b, 0, none⟩), u 6, u 7, .pointer (some ⟨H.ou, 0, none⟩), .pointer (some ⟨Wg, 0, none⟩), .pointer (some ⟨fb, 0, none⟩), u 11, u 12, u 13, u 14, u 15, u 16, u 17, u 18, u 19, u 20, u 21, u 22, u 23, u 24, u 25, u 26, u 27, u 28, u 29, u 30, u 31, u 32, u 33, u 34, u 35, u 36, u 37, u 38, u 39, u 40, u 41, u 42, u 43, u 44, u 45]
end Go.Proofs.Ytadngncbbbbapaa.Lift
