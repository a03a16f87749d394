/-
  A region that asks the tape for its order, in company, whatever its operations: each, once what it waits for has come up, gives its own value. No program is named here.
  The arithmetic of the workers, in company: it touches no memory.
  Workers that fill stretches of five cells of one block, each its own: an instance of Crew. No program is named here.
  A worker's stretch: one round of fill, in company.
  One round of fill, in company.
  fill, in company: a stretch is filled.
  A worker: from its birth to its release.
  A worker, whole: from its birth to its release.
-/
import Derived.Test.YtlpfogkfjjbklacRows
import Derived.Test.YtlpfogkfjjbklacFp
import Derived.Test.YtlpfogkfjjbklacKay
import Derived.Test.YtlpfogkfjjbklacWgd
import Derived.Conc.CompanyMem
import Derived.RowKit
import Derived.WalkKit
import Derived.IntWalk
import Derived.Conc.WgWords
namespace Go.Proofs.Ytlpfogkfjjbklac.Lift
open Go.Conc
set_option linter.unusedVariables false
section
variable {P : Program} {main : Bool} {R : World → World → Prop} {D : World → World → Array Event → Prop} {fn : FuncId} {ops : Array Oper} {Q : Exit → Act → World → Prop} {md : Region.Mode}
/-- Operations wait for earlier ones alone. -/
def backB (ops : Array Oper) : Bool := (List.range ops.size).all fun i => ((ops[i]?).map fun o => o.after.all fun e => decide (e.on < i)).getD true
theorem back_spec (h : backB ops = true) {i : Nat} {o : Oper} (hi : ops[i]? = some o) : ∀ e ∈ o.after, e.on < i := by
  unfold backB at h
  rw [List.all_eq_true] at h
  have h1 := h i (by rw [List.mem_range]; exact (Array.getElem?_eq_some_iff.1 hi).1)
  rw [hi] at h1
  simp only [Option.map_some, Option.getD_some] at h1
  intro e he
  have := Array.all_eq_true'.1 h1 e he
  simpa using this
theorem all_of_none (hb : backB ops = true) {L : Array Bool} (hs : L.size = ops.size) (h : Region.ready md ops L = []) : ∀ i, i < ops.size → L.getD i true = true := by
  intro i
  induction i using Nat.strongRecOn with
  | _ i ih =>
    intro hi
    cases hx : L.getD i true with
    | true => rfl
    | false =>
      exfalso
      have ho : ops[i]? = some ops[i] := Array.getElem?_eq_getElem hi
      have : i ∈ Region.ready md ops L := mem_ready.2 ⟨hx, ops[i], ho, fun e he _ => by
        have hlt := back_spec hb ho e he
        have := ih e.on hlt (by omega)
        rw [Array.getD_eq_getD_getElem?] at this ⊢
        rw [Array.getElem?_eq_getElem (show e.on < L.size by omega)] at this ⊢
        simpa using this⟩
      rw [h] at this
      cases this
theorem count_set {L : Array Bool} {i : Nat} (h : L.getD i true = false) : (L.setIfInBounds i true).toList.count false + 1 = L.toList.count false := by
  have hlt : i < L.size := by
    rcases Nat.lt_or_ge i L.size with h' | h'
    · exact h'
    · rw [Array.getD_eq_getD_getElem?, Array.getElem?_eq_none h'] at h; cases h
  have hv : L[i] = false := by rw [Array.getD_eq_getD_getElem?, Array.getElem?_eq_getElem hlt] at h; simpa using h
  rw [Array.toList_setIfInBounds, List.count_set (by simpa using hlt)]
  have hp : 0 < L.toList.count false := List.count_pos_iff.2 (by rw [← hv]; exact Array.getElem_mem_toList hlt)
  have e1 : (L.toList[i]'(by simpa using hlt) == false) = true := by simp [hv]
  rw [if_pos e1, if_neg (by decide)]
  omega
theorem any_go (T : Terms R D) (hb : backB ops = true) {I : Array Bool → Act → World → Prop} {c : Nat}
    (hend : ∀ L a w, I L a w → (∀ i, i < ops.size → L.getD i true = true) → Q .normal a w)
    (hstep : ∀ L a w i, I L a w → i ∈ Region.ready md ops L → ∀ rest m, (∀ a' w', I (L.setIfInBounds i true) a' w' → OpsC P main R D fn ops rest m Q a' w') → OpsC P main R D fn ops (i :: rest) (m + c) Q a w) :
    ∀ (fuel t : Nat) (L : Array Bool) (a : Act) (w : World), I L a w → L.size = ops.size → L.toList.count false ≤ fuel → OpsC P main R D fn ops (Region.linearise.go md ops fuel t L []) (fuel * c + 1) Q a w := by
  intro fuel
  induction fuel with
  | zero =>
    intro t L a w hI hs hc
    have hall : ∀ i, i < ops.size → L.getD i true = true := fun i hi => by
      cases hx : L.getD i true with
      | true => rfl
      | false => have := count_set hx; omega
    simpa [Region.linearise.go] using opsC_nil T (hend L a w hI hall)
  | succ fuel ih =>
    intro t L a w hI hs hc
    simp only [Region.linearise.go]
    change OpsC P main R D fn ops (match (Region.ready md ops L)[t % (Region.ready md ops L).length]? with
      | some i => Region.linearise.go md ops fuel (t / (Region.ready md ops L).length) (L.setIfInBounds i true) [i]
      | none => [].reverse) ((fuel + 1) * c + 1) Q a w
    cases hi : (Region.ready md ops L)[t % (Region.ready md ops L).length]? with
    | none =>
      have hnil : Region.ready md ops L = [] := by
        cases hr : Region.ready md ops L with
        | nil => rfl
        | cons x xs =>
          rw [hr] at hi
          have hlt : t % (x :: xs).length < (x :: xs).length := Nat.mod_lt _ (by simp)
          simp at hi
          simp at hlt
          omega
      exact opsC_more (by simpa using opsC_nil T (hend L a w hI (all_of_none hb hs hnil))) (by omega)
    | some i =>
      simp only []
      rw [linearise_go_acc, List.reverse_singleton, List.singleton_append]
      have hm : i ∈ Region.ready md ops L := List.mem_of_getElem? hi
      have hun := (mem_ready.1 hm).1
      have := hstep L a w i hI hm (Region.linearise.go md ops fuel (t / (Region.ready md ops L).length) (L.setIfInBounds i true) []) (fuel * c + 1) fun a' w' hI' => ih _ _ a' w' hI' (by simpa using hs) (by have := count_set hun; omega)
      exact opsC_more this (by rw [Nat.succ_mul]; omega)
/-- The region. -/
theorem wpC_any (T : Terms R D) (hd : LetsDraw D) (hm : P.follows .mixedOrders = true) (hb : backB ops = true) {I : Array Bool → Act → World → Prop} {c id : Nat} {a : Act} {w : World}
    (hend : ∀ L a w, I L a w → (∀ i, i < ops.size → L.getD i true = true) → Q .normal a w)
    (hstep : ∀ L a w i, I L a w → i ∈ Region.ready .any ops L → ∀ rest m, (∀ a' w', I (L.setIfInBounds i true) a' w' → OpsC P main R D fn ops rest m Q a' w') → OpsC P main R D fn ops (i :: rest) (m + c) Q a w)
    (h : ∀ w₁, R w w₁ → I (Array.replicate ops.size false) a { w₁ with drawn := w₁.drawn + 1 }) : (Code.region id ops true).wpC P main R D fn (ops.size * c + 1 + 1) Q a w :=
  wpC_region_draw hd fun w₁ h₁ t => by
    simp only [Region.schedule, hm, Bool.true_or, if_true]
    exact any_go T hb hend hstep ops.size t _ a _ (h w₁ h₁) (by simp) (by simp)

/-! ### what has come up is there -/
/-- What has come up has left its value; the other temporaries are as they were; what has come up came up behind what it waits for. -/
structure Came (ops : Array Oper) (val : Nat → Value) (a₀ : Act) (L : Array Bool) (a : Act) : Prop where
  size : L.size = ops.size
  tmps : a.tmps.size = a₀.tmps.size
  defers : a.defers = a₀.defers
  done : ∀ i o d, ops[i]? = some o → L.getD i false = true → o.dst = some d → a.tmps[d]? = some (val i)
  kept : ∀ t, (∀ (i : Nat) (o : Oper), ops[i]? = some o → o.dst ≠ some t) → a.tmps[t]? = a₀.tmps[t]?
  closed : ∀ i o, ops[i]? = some o → L.getD i false = true → ∀ e ∈ o.after, Region.binds .any e = true → L.getD e.on false = true
/-- No two write one temporary; all are there. -/
def dstB (ops : Array Oper) (n : Nat) : Bool := (List.range ops.size).all fun i => ((ops[i]?).bind (·.dst)).all fun d => decide (d < n) && (List.range ops.size).all fun j => i == j || ((ops[j]?).bind (·.dst) != some d)
theorem dst_spec {n : Nat} (h : dstB ops n = true) {i : Nat} {o : Oper} {d : Tmp} (hi : ops[i]? = some o) (hd : o.dst = some d) : d < n ∧ ∀ j o', ops[j]? = some o' → o'.dst = some d → j = i := by
  unfold dstB at h
  rw [List.all_eq_true] at h
  have h1 := h i (by rw [List.mem_range]; exact (Array.getElem?_eq_some_iff.1 hi).1)
  rw [hi, Option.bind_some, hd] at h1
  simp only [Option.all_some, Bool.and_eq_true, decide_eq_true_eq] at h1
  refine ⟨h1.1, fun j o' hj hd' => ?_⟩
  have h2 := h1.2
  rw [List.all_eq_true] at h2
  have h3 := h2 j (by rw [List.mem_range]; exact (Array.getElem?_eq_some_iff.1 hj).1)
  rw [hj, Option.bind_some, hd'] at h3
  simp at h3
  exact h3.symm
theorem Came.start (val : Nat → Value) (a₀ : Act) : Came ops val a₀ (Array.replicate ops.size false) a₀ := by
  have hf : ∀ i, (Array.replicate ops.size false).getD i false = false := fun i => by
    rw [Array.getD_eq_getD_getElem?, Array.getElem?_replicate]
    split <;> rfl
  exact ⟨by simp, rfl, rfl, fun i o d _ hL => (by rw [hf] at hL; cases hL), fun _ _ => rfl, fun i o _ hL => (by rw [hf] at hL; cases hL)⟩
theorem getD_true_false {L : Array Bool} {i : Nat} (hi : i < L.size) : L.getD i true = L.getD i false := by
  rw [Array.getD_eq_getD_getElem?, Array.getD_eq_getD_getElem?, Array.getElem?_eq_getElem hi]; rfl
theorem getD_set {L : Array Bool} {i j : Nat} (h : (L.setIfInBounds i true).getD j false = true) : j = i ∨ L.getD j false = true := by
  by_cases e : j = i
  · exact .inl e
  · right
    rwa [Array.getD_eq_getD_getElem?, Array.getElem?_setIfInBounds_ne (Ne.symm e), ← Array.getD_eq_getD_getElem?] at h
theorem getD_set_mono {L : Array Bool} {i j : Nat} (h : L.getD j false = true) : (L.setIfInBounds i true).getD j false = true := by
  have hlt : j < L.size := by
    rcases Nat.lt_or_ge j L.size with h' | h'
    · exact h'
    · rw [Array.getD_eq_getD_getElem?, Array.getElem?_eq_none h'] at h; cases h
  by_cases e : j = i
  · subst e
    rw [Array.getD_eq_getD_getElem?, Array.getElem?_setIfInBounds_self_of_lt hlt]; rfl
  · rw [Array.getD_eq_getD_getElem?, Array.getElem?_setIfInBounds_ne (Ne.symm e), ← Array.getD_eq_getD_getElem?]; exact h
theorem Came.put {val : Nat → Value} {a₀ a : Act} {L : Array Bool} (hds : dstB ops a₀.tmps.size = true) (h : Came ops val a₀ L a) {i : Nat} (hr : i ∈ Region.ready .any ops L) {o : Oper} (ho : ops[i]? = some o) {d : Tmp} (hd : o.dst = some d) : Came ops val a₀ (L.setIfInBounds i true) (a.put o.dst (val i)) := by
  obtain ⟨hun, o', ho', haf⟩ := mem_ready.1 hr
  rw [ho] at ho'
  cases ho'
  obtain ⟨hlt, huniq⟩ := dst_spec hds ho hd
  rw [hd]
  refine ⟨by simpa using h.size, by simp [Act.put, h.tmps], h.defers, fun j oj dj hj hL hdj => ?_, fun t ht => ?_, fun j oj hj hL e he hbe => ?_⟩
  · by_cases hji : j = i
    · subst hji
      rw [ho] at hj
      cases hj
      rw [hd] at hdj
      cases hdj
      show (a.tmps.setIfInBounds d (val j))[d]? = _
      rw [Array.getElem?_setIfInBounds_self_of_lt (by rw [h.tmps]; exact hlt)]
    · have hne : d ≠ dj := fun e => hji (huniq j oj hj (e ▸ hdj))
      show (a.tmps.setIfInBounds d (val i))[dj]? = _
      rw [Array.getElem?_setIfInBounds_ne hne]
      exact h.done j oj dj hj ((getD_set hL).resolve_left hji) hdj
  · have hne : d ≠ t := fun e => ht i o ho (e ▸ hd)
    show (a.tmps.setIfInBounds d (val i))[t]? = _
    rw [Array.getElem?_setIfInBounds_ne hne]
    exact h.kept t ht
  · rcases getD_set hL with rfl | hL'
    · rw [ho] at hj
      cases hj
      exact getD_set_mono (haf e he hbe)
    · exact getD_set_mono (h.closed j oj hj hL' e he hbe)
/-- What a temporary holds. -/
theorem Came.at_ {val : Nat → Value} {a₀ a : Act} {L : Array Bool} (h : Came ops val a₀ L a) {i : Nat} {o : Oper} {d : Tmp} (ho : ops[i]? = some o) (hd : o.dst = some d) (hL : L.getD i false = true) : a.eval (.tmp d) = val i := by
  show a.tmps.getD d undef = _
  rw [Array.getD_eq_getD_getElem?, h.done i o d ho hL hd]; rfl
theorem Came.old {val : Nat → Value} {a₀ a : Act} {L : Array Bool} (h : Came ops val a₀ L a) {t : Tmp} (ht : (List.range ops.size).all (fun i => (ops[i]?).bind (·.dst) != some t) = true) : a.eval (.tmp t) = a₀.eval (.tmp t) := by
  show a.tmps.getD t undef = a₀.tmps.getD t undef
  rw [Array.getD_eq_getD_getElem?, Array.getD_eq_getD_getElem?, h.kept t fun i o ho e => by
    rw [List.all_eq_true] at ht
    have := ht i (by rw [List.mem_range]; exact (Array.getElem?_eq_some_iff.1 ho).1)
    rw [ho, Option.bind_some, e] at this
    simp at this]
/-- One that is ready: what it waits for has come up. -/
theorem ready_dep {L : Array Bool} {i : Nat} (hr : i ∈ Region.ready .any ops L) {o : Oper} (ho : ops[i]? = some o) {j : Nat} (hj : o.after.any (fun e => Region.binds .any e && e.on == j) = true) : L.getD j false = true := by
  obtain ⟨_, o', ho', haf⟩ := mem_ready.1 hr
  rw [ho] at ho'
  cases ho'
  obtain ⟨e, he, hb⟩ := Array.any_eq_true'.1 hj
  simp only [Bool.and_eq_true, beq_iff_eq] at hb
  exact hb.2 ▸ haf e he hb.1
theorem Came.dep {val : Nat → Value} {a₀ a : Act} {L : Array Bool} (h : Came ops val a₀ L a) {i : Nat} (hL : L.getD i false = true) {o : Oper} (ho : ops[i]? = some o) {j : Nat} (hj : o.after.any (fun e => Region.binds .any e && e.on == j) = true) : L.getD j false = true := by
  obtain ⟨e, he, hb⟩ := Array.any_eq_true'.1 hj
  simp only [Bool.and_eq_true, beq_iff_eq] at hb
  exact hb.2 ▸ h.closed i o ho hL e he hb.1
end
end Go.Proofs.Ytlpfogkfjjbklac.Lift
namespace Go.Proofs.Ytlpfogkfjjbklac.Lift
open Go.Conc Go.RowKit
set_option linter.unusedVariables false
set_option linter.unusedSimpArgs false
variable {main : Bool} {R : World → World → Prop} {D : World → World → Array Event → Prop}
set_option maxRecDepth 100000 in
set_option maxHeartbeats 2000000 in
theorem reduce_c (T : Terms R D) : ∃ n, ∀ (x : Int) (w : World), -1000 < x → x < 1000 → CallsC Try.prog main R D 27 #[.int .i64 x] n w fun v w' => v = .int .i64 (x % 31) ∧ Since R w w' := by
  co_apply Exists.intro
  intro x w h1 h2
  have lo := Fp.tmod_lo x
  have hi := Fp.tmod_hi x
  have e0 : IntKind.i64.wrap (x.tmod 31) = x.tmod 31 := by rw [IntKind.wrap_i64]; omega
  have e1 : IntKind.i64.wrap (x.tmod 31 + 31) = x.tmod 31 + 31 := by rw [IntKind.wrap_i64]; omega
  have hF : Since R w w := .refl w
  co_apply callsC_of_wpC Try.func27 (by rfl) rfl
  simp only [Try.ntmps27, List.size_toArray, List.length_cons, List.length_nil, Nat.reduceAdd, Nat.reduceSub, Array.replicate_succ, Array.replicate_zero, List.push_toArray, List.append_toArray, List.nil_append, List.cons_append]
  co_stmt T (Since.rely T) hF (co_quiet T)
  co_apply wpC_seq T
  co_reg T
  co_op (Since.rely T) hF (co_quiet T)
  co_op (Since.rely T) hF (co_quiet T)
  co_op (Since.rely T) hF (co_quiet T)
  co_apply opsC_nil T
  co_then
  co_apply wpC_seq_mid T (fun a' w' => Since R w w' ∧ ∃ v5 v6 v7 v8, a' = { tmps := #[.int .i64 (x % 31), undef, .int .i64 0, .int .i64 x, .int .i64 (x.tmod 31), v5, v6, v7, v8, undef], defers := [] })
  · co_go T (Since.rely T) hF (co_quiet T)
    co_split T (decide (x.tmod 31 < 0))
    · intro hx
      have hx' := of_decide_eq_true hx
      co_go T (Since.rely T) hF (co_quiet T)
      exact ⟨hF, _, _, _, _, by rw [← Fp.tmod_neg x hx']⟩
    · intro hx
      have hx' := of_decide_eq_false hx
      co_go T (Since.rely T) hF (co_quiet T)
      exact ⟨hF, _, _, _, _, by rw [← Fp.tmod_pos x (by omega)]⟩
  · rintro a' w' ⟨hF, v5, v6, v7, v8, rfl⟩
    co_go T (Since.rely T) hF (co_quiet T)
    exact ⟨rfl, _, resultsC_tmp (by rfl) _, by simp, hF⟩
set_option maxRecDepth 100000 in
set_option maxHeartbeats 2000000 in
theorem plus_c (T : Terms R D) : ∃ n, ∀ (x y : Int) (w : World), Fp.ok x = true → Fp.ok y = true → CallsC Try.prog main R D 17 #[.int .i64 x, .int .i64 y] n w fun v w' => v = .int .i64 ((x + y) % 31) ∧ Since R w w' := by
  obtain ⟨nr, hr⟩ := reduce_c (main := main) T
  co_apply Exists.intro
  intro x y w hx hy
  rw [Fp.ok_iff] at hx hy
  have e0 : IntKind.i64.wrap (x + y) = x + y := by rw [IntKind.wrap_i64]; omega
  have hF : Since R w w := .refl w
  co_apply callsC_of_wpC Try.func17 (by rfl) rfl
  simp only [Try.ntmps17, List.size_toArray, List.length_cons, List.length_nil, Nat.reduceAdd, Nat.reduceSub, Array.replicate_succ, Array.replicate_zero, List.push_toArray, List.append_toArray, List.nil_append, List.cons_append]
  co_go T (Since.rely T) hF (co_quiet T)
  co_apply opsC_call T rfl (by rfl) rfl
  · walk_nrm
    exact hr (x + y) _ (by omega) (by omega)
  rintro v w' ⟨rfl, hS⟩
  replace hF : Since R w w' := hS.elim (fun e => e ▸ hF) fun r => Since.rely T hF r
  try walk_nrm
  co_go T (Since.rely T) hF (co_quiet T)
  exact ⟨rfl, _, resultsC_tmp (by rfl) _, by simp, hF⟩
end Go.Proofs.Ytlpfogkfjjbklac.Lift
namespace Go.Proofs.Ytlpfogkfjjbklac.Lift
open Go.Conc Go.Proofs.Ytlpfogkfjjbklac.Crew
open Go.ConcN (Apart)
open Go.ConcR (KK wgBlock WgAt stA smA rd wr mk ofEvent_cell ofEvent_mk)
set_option linter.unusedVariables false
/-- The job: the group's block, the block that is filled, how many goroutines were there, how many cells, how many workers; what each cell is to hold; the blocks that nobody touches. -/
structure Job where
  P : Program
  ty : TypeId
  oty : TypeId
  Wg : Nat
  Ob : Nat
  old : Nat
  n : Nat
  cnt : Nat
  fx : Nat → Int
  S : Nat → Prop
variable (J : Job)
/-- Cell i is worker k's. -/
def Job.M (k i : Nat) : Prop := J.old < k ∧ 5 * (k - J.old - 1) ≤ i ∧ i < 5 * (k - J.old - 1) + 5 ∧ i < J.n
/-- The first block that was not there yet when worker k was started. -/
def Job.top (k : Nat) : Nat := J.Wg + 1 + 2 * (k - J.old)
def Job.Own (k : Nat) (l : Loc) : Prop := ∃ i, l = .cell ⟨J.Ob, i, none⟩ ∧ J.M k i
def Job.Rd (k : Nat) (l : Loc) : Prop := ∃ a : Addr, l = .cell a ∧ J.old < k ∧ a.block ≠ J.Wg ∧ a.block ≠ J.Ob ∧ ¬ J.S a.block ∧ a.block < J.top k
def Job.Sh (l : Loc) : Prop := shun J.S l ∨ ∃ ad : Addr, l = .cell ad ∧ ad.block = J.Wg
/-- The block that is filled stays one of so many cells. -/
def Job.Shp (w w' : World) : Prop := ∀ cs, w.heap[J.Ob]? = some (.cells cs J.oty (0, 0)) → ∃ cs', w'.heap[J.Ob]? = some (.cells cs' J.oty (0, 0)) ∧ cs'.size = cs.size
def Job.Lv (w : World) : Prop := ∃ st sm, WgAt J.ty J.Wg w st sm
structure Job.RW (k : Nat) (w w' : World) : Prop where
  size : w.heap.size ≤ w'.heap.size
  live : J.Lv w → J.Lv w'
  block : ∀ b, b ≠ J.Wg → b ≠ J.Ob → b < J.top k → w'.heap[b]? = w.heap[b]?
  cells : ∀ i, J.M k i → w'.cell? ⟨J.Ob, i, none⟩ = w.cell? ⟨J.Ob, i, none⟩ ∧ w'.frozen? ⟨J.Ob, i, none⟩ = w.frozen? ⟨J.Ob, i, none⟩
structure Job.RC (w w' : World) : Prop where
  os : w'.os = w.os
  tape : w'.tape = w.tape
  output : w'.output = w.output
  size : w'.heap.size = w.heap.size
  live : J.Lv w → J.Lv w'
  block : ∀ b, b ≠ J.Wg → b ≠ J.Ob → w'.heap[b]? = w.heap[b]?
  shp : J.Shp w w'
def Job.core : Crew where
  P := J.P
  ty := J.ty
  Wg := J.Wg
  many := J.cnt
  old := J.old
  last := J.old + J.cnt
  B := J.Wg + 2 + 2 * J.cnt
  Sh := J.Sh
  Own := J.Own
  Rd := J.Rd
  RW := J.RW
  DW := fun _ _ _ _ => False
  Fin := fun k w => ∀ i, J.M k i → w.cell? ⟨J.Ob, i, none⟩ = some (.int .i64 (J.fx i))
  RC := J.RC
  DC := fun _ _ _ _ => False
structure Job.DW (k : Nat) (w w' : World) (es : Array Event) : Prop where
  os : w'.os = w.os
  tape : w'.tape = w.tape
  output : w'.output = w.output
  size : w'.heap.size = w.heap.size
  block : ∀ b, b ≠ J.Ob → w'.heap[b]? = w.heap[b]?
  cells : ∀ i, ¬ J.M k i → w'.cell? ⟨J.Ob, i, none⟩ = w.cell? ⟨J.Ob, i, none⟩ ∧ w'.frozen? ⟨J.Ob, i, none⟩ = w.frozen? ⟨J.Ob, i, none⟩
  shp : J.Shp w w'
  evs : ∀ e ∈ es, EvW J.core k e
structure Job.DC (j : Nat) (w w' : World) (es : Array Event) : Prop where
  size : w.heap.size ≤ w'.heap.size
  block : ∀ b, b < J.top j → w'.heap[b]? = w.heap[b]?
  evs : ∀ e ∈ es, Ev0 J.core j e
def Job.crew : Crew := { J.core with DW := J.DW, DC := J.DC }
/-- What is asked of a job. -/
structure Job.Fit : Prop where
  ob : J.Ob < J.Wg
  obS : 0 < J.n → ¬ J.S J.Ob
variable {J}
theorem Job.ok (h : J.Fit) : Ok J.crew where
  oldLast := by show J.old ≤ J.old + J.cnt; omega
  enough := by show J.old + J.cnt ≤ J.old + J.cnt; omega
  apart := by
    refine ⟨?_, ?_, ?_, ?_⟩
    · rintro k k' l ⟨i, rfl, h1⟩ ⟨i', e, h2⟩
      have : i = i' := by injection e with e; injection e
      subst this
      obtain ⟨a1, a2, a3, a4⟩ := h1
      obtain ⟨b1, b2, b3, b4⟩ := h2
      omega
    · rintro k k' l ⟨i, rfl, h1⟩ ⟨a, e, _, _, h2, _⟩
      injection e with e
      subst e
      exact h2 rfl
    · rintro k l ⟨i, rfl, h1⟩ (⟨a, e, hs⟩ | ⟨a, e, hs⟩)
      · injection e with e
        subst e
        exact h.obS (by have := h1.2.2.2; omega) hs
      · injection e with e
        subst e
        have := h.ob
        simp at hs
        have hs' : J.Ob = J.Wg := hs
        omega
    · rintro k l ⟨a, rfl, _, h1, _, h2, _⟩ (⟨b, e, hs⟩ | ⟨b, e, hs⟩)
      · injection e with e
        subst e
        exact h2 hs
      · injection e with e
        subst e
        exact h1 hs
  wgB := by show J.Wg < J.Wg + 2 + 2 * J.cnt; omega
  wgSh := fun a ha => .inr ⟨a, rfl, ha⟩
  rwRefl := fun k w => ⟨Nat.le_refl _, id, fun _ _ _ _ => rfl, fun _ _ => ⟨rfl, rfl⟩⟩
  rwTrans := fun k a b c x y => ⟨Nat.le_trans x.size y.size, fun l => y.live (x.live l), fun i h1 h2 h3 => (y.block i h1 h2 h3).trans (x.block i h1 h2 h3), fun i hi => ⟨(y.cells i hi).1.trans (x.cells i hi).1, (y.cells i hi).2.trans (x.cells i hi).2⟩⟩
  rwAt := fun k w d => ⟨Nat.le_refl _, id, fun _ _ _ _ => rfl, fun _ _ => ⟨rfl, rfl⟩⟩
  rcRefl := fun w => ⟨rfl, rfl, rfl, rfl, id, fun _ _ _ => rfl, fun cs hc => ⟨cs, hc, rfl⟩⟩
  rcTrans := fun a b c x y => ⟨y.os.trans x.os, y.tape.trans x.tape, y.output.trans x.output, y.size.trans x.size, fun l => y.live (x.live l), fun i h1 h2 => (y.block i h1 h2).trans (x.block i h1 h2), fun cs hc => by
    obtain ⟨c1, h1, s1⟩ := x.shp cs hc
    obtain ⟨c2, h2, s2⟩ := y.shp c1 h1
    exact ⟨c2, h2, s2.trans s1⟩⟩
  rcAt := fun w d => ⟨rfl, rfl, rfl, rfl, id, fun _ _ _ => rfl, fun cs hc => ⟨cs, hc, rfl⟩⟩
  finRely := fun k w w' r hf i hi => (r.cells i hi).1.trans (hf i hi)
  dwRW := fun k k' w w' es d hne => ⟨by rw [d.size]; exact Nat.le_refl _, fun ⟨st, sm, hl⟩ => ⟨st, sm, (d.block _ (by have := h.ob; omega)).trans hl⟩, fun b h1 h2 h3 => d.block b h2, fun i hi => d.cells i fun hk => hne (by obtain ⟨a1, a2, a3, a4⟩ := hi; obtain ⟨b1, b2, b3, b4⟩ := hk; omega)⟩
  dwRC := fun k w w' es d => ⟨d.os, d.tape, d.output, d.size, fun ⟨st, sm, hl⟩ => ⟨st, sm, (d.block _ (by have := h.ob; omega)).trans hl⟩, fun b h1 h2 => d.block b h2, d.shp⟩
  dwWg := fun k w w' es d => d.block _ (by have := h.ob; show J.Wg ≠ J.Ob; omega)
  dwEv := fun k w w' es d => d.evs
  dcRW := fun j k w w' es d hk => by
    have hWg : J.Wg < J.top j := by unfold Job.top; omega
    have hOb : J.Ob < J.top j := by have := h.ob; omega
    exact ⟨d.size, fun ⟨st, sm, hl⟩ => ⟨st, sm, (d.block _ hWg).trans hl⟩, fun b h1 h2 h3 => d.block b (by unfold Job.top at *; omega), fun i hi => ⟨World.cell?_of_block (d.block _ hOb), World.frozen?_of_block (d.block _ hOb)⟩⟩
  dcWg := fun j w w' es d => d.block _ (by show J.Wg < J.top j; unfold Job.top; omega)
  dcEv := fun j w w' es d => d.evs
  wgRW := fun k w w' a hl hl' => by
    have hne : J.Ob ≠ J.Wg := by have := h.ob; omega
    exact ⟨by rw [a.size]; exact Nat.le_refl _, fun _ => hl', fun b h1 h2 h3 => a.block b h1, fun i hi => ⟨World.cell?_of_block (a.block _ hne), World.frozen?_of_block (a.block _ hne)⟩⟩
  wgRC := fun w w' a hl hl' => by
    have hne : J.Ob ≠ J.Wg := by have := h.ob; omega
    exact ⟨a.os, a.tape, a.output, a.size, fun _ => hl', fun b h1 h2 => a.block b h1, fun cs hc => ⟨cs, (a.block _ hne).trans hc, rfl⟩⟩
/-! ### what may be listed -/
theorem Job.evR (h : J.Fit) {k : Nat} (hk : J.old < k) (hk' : k ≤ J.old + J.cnt) {a : Addr} (h1 : a.block ≠ J.Wg) (h2 : a.block ≠ J.Ob) (h3 : ¬ J.S a.block) (h4 : a.block < J.top k) : EvW J.core k ⟨.cell a, false, false⟩ := by
  refine ⟨fun fn pos => ⟨rfl, fun x hx => ?_⟩, by simp, by simp, by simp, ?_⟩
  · rw [ofEvent_cell] at hx
    simp only [MemAct.touch?, Option.some.injEq] at hx
    subst hx
    exact .inr (.inr ⟨⟨a, rfl, hk, h1, h2, h3, h4⟩, rfl⟩)
  · rw [ofEvent_cell]
    show a.block < J.Wg + 2 + 2 * J.cnt
    unfold Job.top at h4
    omega
theorem Job.evO (h : J.Fit) {k i : Nat} (hM : J.M k i) (wr : Bool) : EvW J.core k ⟨.cell ⟨J.Ob, i, none⟩, wr, false⟩ := by
  refine ⟨fun fn pos => ⟨rfl, fun x hx => ?_⟩, by simp, by simp, by simp, ?_⟩
  · rw [ofEvent_cell] at hx
    simp only [MemAct.touch?, Option.some.injEq] at hx
    subst hx
    exact .inr (.inl ⟨i, rfl, hM⟩)
  · rw [ofEvent_cell]
    show J.Ob < J.Wg + 2 + 2 * J.cnt
    have := h.ob
    omega
theorem Job.ev0 (h : J.Fit) {j : Nat} {a : Addr} (wr : Bool) (h1 : a.block ≠ J.Wg) (h2 : a.block ≠ J.Ob) (h3 : ¬ J.S a.block) (h4 : a.block < J.Wg + 2 + 2 * J.cnt) (h5 : wr = true → J.top j ≤ a.block) : Ev0 J.core j ⟨.cell a, wr, false⟩ := by
  refine ⟨fun fn pos => ⟨rfl, fun x hx => ?_⟩, by simp, by simp, by simp, ?_⟩
  · rw [ofEvent_cell] at hx
    simp only [MemAct.touch?, Option.some.injEq] at hx
    subst hx
    refine .inr ⟨?_, fun k hk hj => ?_, fun hw k hk hj => ?_⟩
    · rintro (⟨b, e, hs⟩ | ⟨b, e, hs⟩) <;> injection e with e <;> subst e
      · exact h3 hs
      · exact h1 hs
    · rintro ⟨i, e, _⟩
      injection e with e
      subst e
      exact h2 rfl
    · rintro ⟨b, e, b1, b2, b3, b4, b5⟩
      injection e with e
      subst e
      have := h5 hw
      unfold Job.top at *
      omega
  · rw [ofEvent_cell]
    exact h4
theorem evM_job {j : Nat} (m : Mark) (hm : m = .read (smA J.Wg) ∨ m = .write (smA J.Wg)) : Ev0 J.core j (Go.ConcR.mk m) := by
  rcases hm with rfl | rfl
  · refine ⟨fun fn pos => ⟨rfl, fun x hx => ?_⟩, by simp [mk], by simp [mk], by simp [mk], ?_⟩
    · rw [ofEvent_mk] at hx
      simp only [MemAct.touch?, Option.some.injEq] at hx
      subst hx
      exact .inl ⟨.inr ⟨_, rfl, rfl⟩, by simp⟩
    · rw [ofEvent_mk]
      show J.Wg < J.Wg + 2 + 2 * J.cnt
      omega
  · refine ⟨fun fn pos => ⟨rfl, fun x hx => ?_⟩, by simp [mk], by simp [mk], by simp [mk], ?_⟩
    · rw [ofEvent_mk] at hx
      simp only [MemAct.touch?, Option.some.injEq] at hx
      subst hx
      exact .inl ⟨.inr ⟨_, rfl, rfl⟩, by simp⟩
    · rw [ofEvent_mk]
      show J.Wg < J.Wg + 2 + 2 * J.cnt
      omega
/-! ### terms -/
theorem Job.termsW (k : Nat) : Terms (J.RW k) (J.DW k) := ⟨fun a b c x y => ⟨Nat.le_trans x.size y.size, fun l => y.live (x.live l), fun i h1 h2 h3 => (y.block i h1 h2 h3).trans (x.block i h1 h2 h3), fun i hi => ⟨(y.cells i hi).1.trans (x.cells i hi).1, (y.cells i hi).2.trans (x.cells i hi).2⟩⟩,
  fun w => ⟨rfl, rfl, rfl, rfl, fun _ _ => rfl, fun _ _ => ⟨rfl, rfl⟩, fun cs hc => ⟨cs, hc, rfl⟩, by simp⟩⟩
theorem Job.drawW (k : Nat) : LetsDraw (J.DW k) := fun w => ⟨rfl, rfl, rfl, rfl, fun _ _ => rfl, fun _ _ => ⟨rfl, rfl⟩, fun cs hc => ⟨cs, hc, rfl⟩, by simp⟩
theorem Job.readW (k : Nat) (w : World) {es : Array Event} (h : ∀ e ∈ es, EvW J.core k e) : J.DW k w w es := ⟨rfl, rfl, rfl, rfl, fun _ _ => rfl, fun _ _ => ⟨rfl, rfl⟩, fun cs hc => ⟨cs, hc, rfl⟩, h⟩
theorem Job.relyDraw (k : Nat) (w : World) : J.RW k w { w with drawn := w.drawn + 1 } := ⟨Nat.le_refl _, id, fun _ _ _ _ => rfl, fun _ _ => ⟨rfl, rfl⟩⟩
theorem Job.termsC (j : Nat) : Terms J.RC (J.DC j) := ⟨fun a b c x y => ⟨y.os.trans x.os, y.tape.trans x.tape, y.output.trans x.output, y.size.trans x.size, fun l => y.live (x.live l), fun i h1 h2 => (y.block i h1 h2).trans (x.block i h1 h2), fun cs hc => by
    obtain ⟨c1, h1, s1⟩ := x.shp cs hc
    obtain ⟨c2, h2, s2⟩ := y.shp c1 h1
    exact ⟨c2, h2, s2.trans s1⟩⟩, fun w => ⟨Nat.le_refl _, fun _ _ => rfl, by simp⟩⟩
end Go.Proofs.Ytlpfogkfjjbklac.Lift
namespace Go.Proofs.Ytlpfogkfjjbklac.Lift
open Go.Conc Go.Proofs.Ytlpfogkfjjbklac.Crew Go.RowKit
set_option linter.unusedVariables false
set_option linter.unusedSimpArgs false
/-! ### one operation of a region -/
section
variable {P : Program} {main : Bool} {R : World → World → Prop} {D : World → World → Array Event → Prop} {fn : FuncId} {ops : Array Oper} {Q : Exit → Act → World → Prop} {a : Act} {w : World}
theorem Came.put0 {val : Nat → Value} {a₀ a : Act} {L : Array Bool} (h : Came ops val a₀ L a) {i : Nat} (hr : i ∈ Region.ready .any ops L) {o : Oper} (ho : ops[i]? = some o) (hd : o.dst = none) : Came ops val a₀ (L.setIfInBounds i true) a := by
  obtain ⟨hun, o', ho', haf⟩ := mem_ready.1 hr
  rw [ho] at ho'
  cases ho'
  refine ⟨by simpa using h.size, h.tmps, h.defers, fun j oj dj hj hL hdj => ?_, h.kept, fun j oj hj hL e he hbe => ?_⟩
  · rcases getD_set hL with rfl | hL'
    · rw [ho] at hj
      cases hj
      rw [hd] at hdj
      cases hdj
    · exact h.done j oj dj hj hL' hdj
  · rcases getD_set hL with rfl | hL'
    · rw [ho] at hj
      cases hj
      exact getD_set_mono (haf e he hbe)
    · exact getD_set_mono (h.closed j oj hj hL' e he hbe)
theorem step_val {i : Nat} {o : Oper} {v : Value} {rest : List Nat} {m : Nat} (ho : ops[i]? = some o) (hg : o.guard = none) (hrun : ∀ w₁, R w w₁ → (execOp a.eval o).run P w₁ = .ok (.value v) w₁ ∧ D w₁ w₁ (listed P fn a o w₁)) (hnext : ∀ w₁, R w w₁ → OpsC P main R D fn ops rest m Q (a.put o.dst v) w₁) : OpsC P main R D fn ops (i :: rest) (m + 1) Q a w :=
  opsC_cons ho (by unfold Region.wanted; rw [hg]) fun w₁ h₁ => by rw [(hrun w₁ h₁).1]; exact ⟨(hrun w₁ h₁).2, hnext w₁ h₁⟩
/-- A move. -/
theorem run_move' {o : Oper} {x : Operand} {v : Value} (hop : o.op = .move x) (hv : a.eval x = v) (w : World) : (execOp a.eval o).run P w = .ok (.value v) w ∧ listed P fn a o w = #[] := by
  have e1 : (execOp a.eval o).run P w = .ok (.value v) w := by unfold execOp; simp only [hop, hv]; simp [go_sem]
  exact ⟨e1, listed_nil (by unfold execOp; simp only [hop, hv]; simp [go_sem])⟩
/-- An element's address. -/
theorem run_index' {o : Oper} {x y : Operand} {t : TypeId} {b off len cap : Nat} {i : Nat} (hop : o.op = .indexAddr t x y) {e : TypeId} (ht : P.underlying t = some (.slice e)) (hsz : (P.info? e).map (fun i => (i.zero, i.size, i.bytes)) = some (some (.int .i64 0), 1, 8)) (hx : a.eval x = .slice (some ⟨b, off, none⟩) len cap) (hy : a.eval y = .int .i64 (i : Int)) (hi : i < len) (w : World) : (execOp a.eval o).run P w = .ok (.value (.pointer (some ⟨b, off + i, none⟩))) w ∧ listed P fn a o w = #[] := by
  obtain ⟨i0, hi0, hz0, hz1, hz2⟩ := info_parts hsz
  have hi' : (i : Int) < (len : Int) := by omega
  have e1 : (execOp a.eval o).run P w = .ok (.value (.pointer (some ⟨b, off + i, none⟩))) w := by
    unfold execOp
    simp only [hop, hx, hy]
    simp [go_sem, ht, hi0, hz1, hi, hi', Go.sizeOf, typeInfo, Result.andThen]
  refine ⟨e1, listed_nil ?_⟩
  unfold execOp
  simp only [hop, hx, hy]
  simp [go_sem, ht, hi0, hz1, hi, hi']
end
/-! ### what is held of the world while a stretch is filled -/
/-- The stretch: of a, of b, of the block that is filled; what is in them. -/
structure Str where
  ab : Nat
  ao : Nat
  bb : Nat
  bo : Nat
  lo : Nat
  m : Nat
  X : Nat → Int
  Y : Nat → Int
structure Str.Fits (J : Job) (k : Nat) (s : Str) : Prop where
  fit : J.Fit
  old : J.old < k
  last : k ≤ J.old + J.cnt
  a1 : s.ab ≠ J.Wg
  a2 : s.ab ≠ J.Ob
  a3 : ¬ J.S s.ab
  a4 : s.ab < J.top k
  b1 : s.bb ≠ J.Wg
  b2 : s.bb ≠ J.Ob
  b3 : ¬ J.S s.bb
  b4 : s.bb < J.top k
  mine : ∀ i, i < s.m → J.M k (s.lo + i)
  okX : ∀ i, i < s.m → Fp.ok (s.X i) = true
  okY : ∀ i, i < s.m → Fp.ok (s.Y i) = true
  small : s.m ≤ 100
/-- j are filled. -/
structure FH (J : Job) (k : Nat) (s : Str) (j : Nat) (w : World) : Prop where
  live : J.Lv w
  xa : ∀ i, i < s.m → w.cell? ⟨s.ab, s.ao + i, none⟩ = some (.int .i64 (s.X i))
  yb : ∀ i, i < s.m → w.cell? ⟨s.bb, s.bo + i, none⟩ = some (.int .i64 (s.Y i))
  out : ∀ i, i < s.m → (∃ u, w.cell? ⟨J.Ob, s.lo + i, none⟩ = some u) ∧ w.frozen? ⟨J.Ob, s.lo + i, none⟩ = false
  done : ∀ i, i < j → i < s.m → w.cell? ⟨J.Ob, s.lo + i, none⟩ = some (.int .i64 (J.fx (s.lo + i)))
section
variable {J : Job} {k : Nat} {s : Str} {j : Nat} {w w₁ : World} (F : s.Fits J k)
include F
theorem FH.rely (h : FH J k s j w) (r : J.RW k w w₁) : FH J k s j w₁ :=
  ⟨r.live h.live, fun i hi => (World.cell?_of_block (r.block _ F.a1 F.a2 F.a4)).trans (h.xa i hi), fun i hi => (World.cell?_of_block (r.block _ F.b1 F.b2 F.b4)).trans (h.yb i hi),
   fun i hi => ⟨(h.out i hi).1.imp fun u hu => (r.cells _ (F.mine i hi)).1.trans hu, (r.cells _ (F.mine i hi)).2.trans (h.out i hi).2⟩, fun i hi hm => (r.cells _ (F.mine i hm)).1.trans (h.done i hi hm)⟩
theorem FH.store (h : FH J k s j w) (hj : j < s.m) : FH J k s (j + 1) (w.setCell ⟨J.Ob, s.lo + j, none⟩ (.int .i64 (J.fx (s.lo + j)))) := by
  have hb : ∀ b, b ≠ J.Ob → (w.setCell ⟨J.Ob, s.lo + j, none⟩ (.int .i64 (J.fx (s.lo + j)))).heap[b]? = w.heap[b]? := fun b hb => Below.heap_setCell _ _ _ _ hb
  have hs : ∀ i, i ≠ j → (w.setCell ⟨J.Ob, s.lo + j, none⟩ (.int .i64 (J.fx (s.lo + j)))).cell? ⟨J.Ob, s.lo + i, none⟩ = w.cell? ⟨J.Ob, s.lo + i, none⟩ := fun i hi => World.cell?_setCell_other _ _ _ _ (by intro e; injection e with _ e _; omega)
  obtain ⟨⟨u, hu⟩, hf⟩ := h.out j hj
  have he : (w.setCell ⟨J.Ob, s.lo + j, none⟩ (.int .i64 (J.fx (s.lo + j)))).cell? ⟨J.Ob, s.lo + j, none⟩ = some (.int .i64 (J.fx (s.lo + j))) := World.cell?_setCell_same _ _ _ hu
  obtain ⟨st, sm, hl⟩ := h.live
  have hne : J.Wg ≠ J.Ob := by have := F.fit.ob; omega
  refine ⟨⟨st, sm, (hb _ hne).trans hl⟩, fun i hi => (World.cell?_of_block (hb _ F.a2)).trans (h.xa i hi), fun i hi => (World.cell?_of_block (hb _ F.b2)).trans (h.yb i hi), fun i hi => ⟨?_, by rw [World.frozen?_setCell]; exact (h.out i hi).2⟩, fun i hi hm => ?_⟩
  · by_cases e : i = j
    · subst e; exact ⟨_, he⟩
    · rw [hs i e]; exact (h.out i hi).1
  · by_cases e : i = j
    · subst e; exact he
    · rw [hs i e]; exact h.done i (by omega) hm
theorem FH.dw (h : FH J k s j w) (hj : j < s.m) : J.DW k w (w.setCell ⟨J.Ob, s.lo + j, none⟩ (.int .i64 (J.fx (s.lo + j)))) #[⟨.cell ⟨J.Ob, s.lo + j, none⟩, true, false⟩] := by
  refine ⟨by simp [World.setCell], by simp [World.setCell], by simp [World.setCell], by simp [World.setCell], fun b hb => Below.heap_setCell _ _ _ _ hb, fun i hi => ⟨World.cell?_setCell_other _ _ _ _ ?_, World.frozen?_setCell _ _ _ _⟩, fun cs hc => ?_, fun e he => ?_⟩
  · intro e
    injection e with _ e _
    exact hi (e ▸ F.mine j hj)
  · rw [setCell_eq_setRow w J.Ob (s.lo + j) cs J.oty (0, 0) _ hc, setRow_heap w J.Ob _ _ J.oty _ hc]
    exact ⟨_, rfl, by simp⟩
  · rw [Array.mem_singleton] at he
    subst he
    exact J.evO F.fit (F.mine j hj) true
end
end Go.Proofs.Ytlpfogkfjjbklac.Lift
namespace Go.Proofs.Ytlpfogkfjjbklac.Lift
open Go.Conc Go.Proofs.Ytlpfogkfjjbklac.Crew Go.RowKit
set_option linter.unusedVariables false
set_option linter.unusedSimpArgs false
section
variable {P : Program} {main : Bool} {R : World → World → Prop} {D : World → World → Array Event → Prop}
/-- Through a call of a function value, by the callee's contract. -/
theorem callV (T : Terms R D) {b : Frame} {a : Act} {k : List Item} {cs : List Frame} {w : World} {ops : Array Oper} {i : Nat} {rest : List Nat} {o : Oper} {f : FuncId} {args : Array Value}
    {nf m : Nat} {Post : Value → World → Prop} {Stop : Goroutine → World → Prop}
    (ho : ops[i]? = some o) (hw : Region.wanted o (yielded ops a.tmps) = true) (hk : b.kind ≠ .early) (hrun : ∀ w, (execOp a.eval o).run P w = .ok (.enter f args) w ∧ (execOp a.eval o).events P w #[] = #[])
    (hcall : CallsC P main R D f args nf w Post)
    (hnext : ∀ v w', Post v w' → Goes P main R D Stop m (G (b.at (a.put o.dst v) (.inRegion ops rest :: k)) cs) w') :
    Goes P main R D Stop (m + nf + 3) (G (b.at a (.inRegion ops (i :: rest) :: k)) cs) w := by
  obtain ⟨fn, c, hf, hname, hbody, hwp⟩ := hcall
  have hfin : ∀ v, (b.at a (.inRegion ops (i :: rest) :: k)).finish v = b.at (a.put o.dst v) (.inRegion ops rest :: k) := fun v => by rw [Frame.finish_at, ho]; rfl
  have hleave : ∀ (a' : Act) (w' : World) (todo : List Item), (a'.defers = [] ∧ ∃ v, ResultsC P fn a'.tmps v ∧ Post v w') →
      Goes P main R D Stop (m + 1) (G { (base f).at a' todo with mode := .returning } (b.at a (.inRegion ops (i :: rest) :: k) :: cs)) w' := by
    rintro a' w' todo ⟨hd, v, hr, hp⟩
    refine Goes.step rfl fun w₁ h₁ => ?_
    rw [stepG_leave (b := base f) rfl hd hf (hr w₁).1 (hr w₁).2, hfin]
    exact ⟨T.idle _, (hnext v w' hp).rely T.trans h₁⟩
  have hbodyG : Goes P main R D Stop (m + 2 + nf) (G ((base f).at { tmps := args ++ Array.replicate (fn.ntmps - args.size) undef, defers := [] } [.code c]) (b.at a (.inRegion ops (i :: rest) :: k) :: cs)) w := by
    refine hwp (base f) [] _ Stop (m + 2) rfl (by simp [base]) fun e a' w' q => ?_
    cases e with
    | normal => exact Goes.step rfl fun w₁ h₁ => by rw [stepG_end]; exact ⟨T.idle _, (hleave a' w' [] q).rely T.trans h₁⟩
    | ret => exact fun todo => (hleave a' w' todo q).more
    | exit id => exact q.elim
    | goto l => exact q.elim
    | panic ch => exact q.elim
    | outgrown => exact q.elim
  have e : m + nf + 3 = (m + 2 + nf) + 1 := by omega
  rw [e]
  refine Goes.step rfl fun w₁ h₁ => ?_
  rw [stepG_enter ho hw hk (hrun w₁).1, enter_at _ hf hbody]
  have hl : listed P b.fn a o w₁ = #[] := by unfold listed; rw [(hrun w₁).2]; exact Go.Conc.seen_none P _
  rw [hl]
  exact ⟨T.idle _, hbodyG.rely T.trans h₁⟩
theorem opsC_callV (T : Terms R D) {fn : FuncId} {Q : Exit → Act → World → Prop} {a : Act} {w : World} {ops : Array Oper} {i : Nat} {rest : List Nat} {o : Oper} {f : FuncId} {args : Array Value} {nf n : Nat} {Post : Value → World → Prop}
    (ho : ops[i]? = some o) (hg : o.guard = none) (hrun : ∀ w, (execOp a.eval o).run P w = .ok (.enter f args) w ∧ (execOp a.eval o).events P w #[] = #[])
    (hcall : CallsC P main R D f args nf w Post) (hnext : ∀ v w', Post v w' → OpsC P main R D fn ops rest n Q (a.put o.dst v) w') : OpsC P main R D fn ops (i :: rest) (n + nf + 3) Q a w := by
  intro b k cs Stop m hb hk hc
  have := callV (Stop := Stop) (m := m + n) (b := b) (k := k) (cs := cs) T ho (by unfold Region.wanted; rw [hg]) hk hrun hcall fun v w' hp => hnext v w' hp b k cs Stop m hb hk hc
  exact this.mono (by omega)
end
noncomputable def opsF : Array Oper := match Try.f25.body with | some (.seq _ (.block _ (.loop (.seq _ (.seq _ (.seq (.block _ (.seq _ (.region _ ops _))) _)))))) => ops | _ => #[]
noncomputable def oF (i : Nat) : Oper := opsF.getD i default
theorem oF_size : opsF.size = 14 := by kernel_rfl
theorem oF_at : ∀ i, i < 14 → opsF[i]? = some (oF i)
  | 0, _ => by kernel_rfl
  | 1, _ => by kernel_rfl
  | 2, _ => by kernel_rfl
  | 3, _ => by kernel_rfl
  | 4, _ => by kernel_rfl
  | 5, _ => by kernel_rfl
  | 6, _ => by kernel_rfl
  | 7, _ => by kernel_rfl
  | 8, _ => by kernel_rfl
  | 9, _ => by kernel_rfl
  | 10, _ => by kernel_rfl
  | 11, _ => by kernel_rfl
  | 12, _ => by kernel_rfl
  | 13, _ => by kernel_rfl
  | _ + 14, h => by omega
theorem oF_back : backB opsF = true := by kernel_rfl
theorem oF_dst : dstB opsF 28 = true := by kernel_rfl
/-- The function value of the arithmetic, and what it is. -/
structure IsOp (f : FuncId) (g : Int → Int → Int) : Prop where
  calls : ∀ {R : World → World → Prop} {D : World → World → Array Event → Prop}, Terms R D → ∃ n, ∀ (x y : Int) (w : World), Fp.ok x = true → Fp.ok y = true → CallsC Try.prog false R D f #[.int .i64 x, .int .i64 y] n w fun v w' => v = .int .i64 (g x y) ∧ Since R w w'
  enters : ∀ args (w : World), (callFunc f args).run Try.prog w = .ok (.enter f args) w ∧ (callFunc f args).events Try.prog w #[] = #[]
theorem oF_op11 : (oF 11).op = .call { callee := .value (.tmp 16), args := #[.tmp 20, .tmp 24], argTypes := #[47, 47] } := by kernel_rfl
theorem run_callV {o : Oper} {a : Act} {f : FuncId} {g : Int → Int → Int} (hI : IsOp f g) {c x y : Operand} {ts : Array TypeId} (hop : o.op = .call { callee := .value c, args := #[x, y], argTypes := ts }) (hc : a.eval c = .func (.func f) #[] #[]) {u v : Value} (hx : a.eval x = u) (hy : a.eval y = v) (w : World) : (execOp a.eval o).run Try.prog w = .ok (.enter f #[u, v]) w ∧ (execOp a.eval o).events Try.prog w #[] = #[] := by
  have h := hI.enters #[u, v] w
  unfold execOp
  simp only [hop, hc, hx, hy]
  simp [resolve, Deferred.ofValue, invoke, h, hx, hy, hc]
theorem array28 (T : Array Value) (h : T.size = 28) : ∃ v0 v1 v2 v3 v4 v5 v6 v7 v8 v9 v10 v11 v12 v13 v14 v15 v16 v17 v18 v19 v20 v21 v22 v23 v24 v25 v26 v27 : Value, T = #[v0, v1, v2, v3, v4, v5, v6, v7, v8, v9, v10, v11, v12, v13, v14, v15, v16, v17, v18, v19, v20, v21, v22, v23, v24, v25, v26, v27] := by
  obtain ⟨l⟩ := T
  simp only [List.size_toArray] at h
  rcases l with _ | ⟨v0, l⟩
  · simp at h
  rcases l with _ | ⟨v1, l⟩
  · simp at h
  rcases l with _ | ⟨v2, l⟩
  · simp at h
  rcases l with _ | ⟨v3, l⟩
  · simp at h
  rcases l with _ | ⟨v4, l⟩
  · simp at h
  rcases l with _ | ⟨v5, l⟩
  · simp at h
  rcases l with _ | ⟨v6, l⟩
  · simp at h
  rcases l with _ | ⟨v7, l⟩
  · simp at h
  rcases l with _ | ⟨v8, l⟩
  · simp at h
  rcases l with _ | ⟨v9, l⟩
  · simp at h
  rcases l with _ | ⟨v10, l⟩
  · simp at h
  rcases l with _ | ⟨v11, l⟩
  · simp at h
  rcases l with _ | ⟨v12, l⟩
  · simp at h
  rcases l with _ | ⟨v13, l⟩
  · simp at h
  rcases l with _ | ⟨v14, l⟩
  · simp at h
  rcases l with _ | ⟨v15, l⟩
  · simp at h
  rcases l with _ | ⟨v16, l⟩
  · simp at h
  rcases l with _ | ⟨v17, l⟩
  · simp at h
  rcases l with _ | ⟨v18, l⟩
  · simp at h
  rcases l with _ | ⟨v19, l⟩
  · simp at h
  rcases l with _ | ⟨v20, l⟩
  · simp at h
  rcases l with _ | ⟨v21, l⟩
  · simp at h
  rcases l with _ | ⟨v22, l⟩
  · simp at h
  rcases l with _ | ⟨v23, l⟩
  · simp at h
  rcases l with _ | ⟨v24, l⟩
  · simp at h
  rcases l with _ | ⟨v25, l⟩
  · simp at h
  rcases l with _ | ⟨v26, l⟩
  · simp at h
  rcases l with _ | ⟨v27, l⟩
  · simp at h
  rcases l with _ | ⟨x, l⟩
  · exact ⟨v0, v1, v2, v3, v4, v5, v6, v7, v8, v9, v10, v11, v12, v13, v14, v15, v16, v17, v18, v19, v20, v21, v22, v23, v24, v25, v26, v27, rfl⟩
  · simp at h
section
variable {J : Job} {k : Nat} {s : Str} {j : Nat} {f : FuncId} {g : Int → Int → Int}
/-- What each operation gives. -/
def vF (J : Job) (s : Str) (f : FuncId) (j c1 c2 c3 : Nat) : Nat → Value
  | 0 => .slice (some ⟨J.Ob, s.lo, none⟩) s.m c1
  | 1 => .int .i64 (j : Int)
  | 2 => .func (.func f) #[] #[]
  | 3 => .slice (some ⟨s.ab, s.ao, none⟩) s.m c2
  | 4 => .int .i64 (j : Int)
  | 5 => .pointer (some ⟨s.ab, s.ao + j, none⟩)
  | 6 => .int .i64 (s.X j)
  | 7 => .slice (some ⟨s.bb, s.bo, none⟩) s.m c3
  | 8 => .int .i64 (j : Int)
  | 9 => .pointer (some ⟨s.bb, s.bo + j, none⟩)
  | 10 => .int .i64 (s.Y j)
  | 11 => .int .i64 (J.fx (s.lo + j))
  | 12 => .pointer (some ⟨J.Ob, s.lo + j, none⟩)
  | _ => undef
theorem allF {val : Nat → Value} {a₀ a : Act} {L : Array Bool} (h : Came opsF val a₀ L a) (h13 : L.getD 13 false = true) : ∀ i, i < 13 → L.getD i false = true := by
  have h11 := h.dep h13 (oF_at 13 (by omega)) (j := 11) (by kernel_rfl)
  have h12 := h.dep h13 (oF_at 13 (by omega)) (j := 12) (by kernel_rfl)
  have h2 := h.dep h11 (oF_at 11 (by omega)) (j := 2) (by kernel_rfl)
  have h6 := h.dep h11 (oF_at 11 (by omega)) (j := 6) (by kernel_rfl)
  have h10 := h.dep h11 (oF_at 11 (by omega)) (j := 10) (by kernel_rfl)
  have h5 := h.dep h6 (oF_at 6 (by omega)) (j := 5) (by kernel_rfl)
  have h3 := h.dep h5 (oF_at 5 (by omega)) (j := 3) (by kernel_rfl)
  have h4 := h.dep h5 (oF_at 5 (by omega)) (j := 4) (by kernel_rfl)
  have h9 := h.dep h10 (oF_at 10 (by omega)) (j := 9) (by kernel_rfl)
  have h7 := h.dep h9 (oF_at 9 (by omega)) (j := 7) (by kernel_rfl)
  have h8 := h.dep h9 (oF_at 9 (by omega)) (j := 8) (by kernel_rfl)
  have h0 := h.dep h12 (oF_at 12 (by omega)) (j := 0) (by kernel_rfl)
  have h1 := h.dep h12 (oF_at 12 (by omega)) (j := 1) (by kernel_rfl)
  intro i hi
  match i, hi with
  | 0, _ => exact h0
  | 1, _ => exact h1
  | 2, _ => exact h2
  | 3, _ => exact h3
  | 4, _ => exact h4
  | 5, _ => exact h5
  | 6, _ => exact h6
  | 7, _ => exact h7
  | 8, _ => exact h8
  | 9, _ => exact h9
  | 10, _ => exact h10
  | 11, _ => exact h11
  | 12, _ => exact h12
theorem set13 {L : Array Bool} {i : Nat} (hi : i ≠ 13) : (L.setIfInBounds i true).getD 13 false = L.getD 13 false := by
  rw [Array.getD_eq_getD_getElem?, Array.getElem?_setIfInBounds_ne hi, ← Array.getD_eq_getD_getElem?]
theorem int_sl : Try.prog.underlying 25 = some (.slice 3) := by kernel_rfl
theorem int_inf : (Try.prog.info? 3).map (fun i => (i.zero, i.size, i.bytes)) = some (some (.int .i64 0), 1, 8) := by kernel_rfl
/-- A load of an int. -/
theorem run_load' {fn : FuncId} (hn : (Try.prog.funcs[fn]?).any (·.norace) = false) {o : Oper} {x : Operand} {a : Act} {ad : Addr} {z : Int} (hop : o.op = .load 3 x) (hx : a.eval x = .pointer (some ad)) {w : World} (hc : w.cell? ad = some (.int .i64 z)) : (execOp a.eval o).run Try.prog w = .ok (.value (.int .i64 z)) w ∧ listed Try.prog fn a o w = #[⟨.cell ad, false, false⟩] := by
  have e1 : (execOp a.eval o).run Try.prog w = .ok (.value (.int .i64 z)) w := by unfold execOp; simp only [hop, hx]; simp [go_sem, hc]
  refine ⟨e1, ?_⟩
  have e2 : (execOp a.eval o).events Try.prog w #[] = #[⟨.cell ad, false, false⟩] := by unfold execOp; simp only [hop, hx]; simp [go_sem, hc]
  unfold listed
  rw [e2]
  exact seen_eq hn (by simp)
theorem loudF : (Try.prog.funcs[(25 : Nat)]?).any (·.norace) = false := by kernel_rfl
/-- The temporaries at the beginning of the region. -/
structure AtF (J : Job) (s : Str) (f : FuncId) (j c1 c2 c3 : Nat) (a : Act) : Prop where
  size : a.tmps.size = 28
  t0 : a.eval (.tmp 0) = .slice (some ⟨J.Ob, s.lo, none⟩) s.m c1
  t1 : a.eval (.tmp 1) = .func (.func f) #[] #[]
  t2 : a.eval (.tmp 2) = .slice (some ⟨s.ab, s.ao, none⟩) s.m c2
  t3 : a.eval (.tmp 3) = .slice (some ⟨s.bb, s.bo, none⟩) s.m c3
  t8 : a.eval (.tmp 8) = .int .i64 (j : Int)
set_option maxHeartbeats 1000000 in
theorem round_c (F : s.Fits J k) (hI : IsOp f g) (hfx : ∀ i, i < s.m → J.fx (s.lo + i) = g (s.X i) (s.Y i)) (c1 c2 c3 : Nat) : ∃ N, ∀ (j : Nat), j < s.m → ∀ (Q : Exit → Act → World → Prop) (a₀ : Act) (w : World), AtF J s f j c1 c2 c3 a₀ → FH J k s j w →
    (∀ a w', a.tmps.size = 28 → a.defers = a₀.defers → (∀ t, t < 14 ∨ t = 27 → a.tmps[t]? = a₀.tmps[t]?) → FH J k s (j + 1) w' → Q .normal a w') →
    (Code.region 3 opsF true).wpC Try.prog false (J.RW k) (J.DW k) 25 N Q a₀ w := by
  obtain ⟨nf, hop⟩ := hI.calls (J.termsW k)
  refine ⟨opsF.size * (nf + 3) + 1 + 1, fun j hj Q a₀ w hA hF hQ => ?_⟩
  have hdst : dstB opsF a₀.tmps.size = true := by rw [hA.size]; exact oF_dst
  have T := J.termsW k
  refine wpC_any (I := fun L a w => Came opsF (vF J s f j c1 c2 c3) a₀ L a ∧ ((L.getD 13 false = false ∧ FH J k s j w) ∨ (L.getD 13 false = true ∧ FH J k s (j + 1) w))) T (J.drawW k) (by kernel_rfl) oF_back ?_ ?_ ?_
  · rintro L a w ⟨hC, hw⟩ hall
    have h13 : L.getD 13 false = true := by
      rw [← getD_true_false (by rw [hC.size, oF_size]; omega)]
      exact hall 13 (by rw [oF_size]; omega)
    rcases hw with ⟨h, _⟩ | ⟨_, h⟩
    · rw [h13] at h; cases h
    · refine hQ a w (hC.tmps.trans hA.size) hC.defers (fun t ht => hC.kept t fun i o ho e => ?_) h
      have hi : i < 14 := by have := (Array.getElem?_eq_some_iff.1 ho).1; rwa [oF_size] at this
      rw [oF_at i hi] at ho
      cases ho
      revert e
      rcases ht with ht | ht
      · match i, hi with
        | 0, _ => rw [show (oF 0).dst = some 14 from by kernel_rfl]; intro e; have e' : ((14 : Nat) = (t : Nat)) := Option.some.inj e; omega
        | 1, _ => rw [show (oF 1).dst = some 15 from by kernel_rfl]; intro e; have e' : ((15 : Nat) = (t : Nat)) := Option.some.inj e; omega
        | 2, _ => rw [show (oF 2).dst = some 16 from by kernel_rfl]; intro e; have e' : ((16 : Nat) = (t : Nat)) := Option.some.inj e; omega
        | 3, _ => rw [show (oF 3).dst = some 17 from by kernel_rfl]; intro e; have e' : ((17 : Nat) = (t : Nat)) := Option.some.inj e; omega
        | 4, _ => rw [show (oF 4).dst = some 18 from by kernel_rfl]; intro e; have e' : ((18 : Nat) = (t : Nat)) := Option.some.inj e; omega
        | 5, _ => rw [show (oF 5).dst = some 19 from by kernel_rfl]; intro e; have e' : ((19 : Nat) = (t : Nat)) := Option.some.inj e; omega
        | 6, _ => rw [show (oF 6).dst = some 20 from by kernel_rfl]; intro e; have e' : ((20 : Nat) = (t : Nat)) := Option.some.inj e; omega
        | 7, _ => rw [show (oF 7).dst = some 21 from by kernel_rfl]; intro e; have e' : ((21 : Nat) = (t : Nat)) := Option.some.inj e; omega
        | 8, _ => rw [show (oF 8).dst = some 22 from by kernel_rfl]; intro e; have e' : ((22 : Nat) = (t : Nat)) := Option.some.inj e; omega
        | 9, _ => rw [show (oF 9).dst = some 23 from by kernel_rfl]; intro e; have e' : ((23 : Nat) = (t : Nat)) := Option.some.inj e; omega
        | 10, _ => rw [show (oF 10).dst = some 24 from by kernel_rfl]; intro e; have e' : ((24 : Nat) = (t : Nat)) := Option.some.inj e; omega
        | 11, _ => rw [show (oF 11).dst = some 25 from by kernel_rfl]; intro e; have e' : ((25 : Nat) = (t : Nat)) := Option.some.inj e; omega
        | 12, _ => rw [show (oF 12).dst = some 26 from by kernel_rfl]; intro e; have e' : ((26 : Nat) = (t : Nat)) := Option.some.inj e; omega
        | 13, _ => rw [show (oF 13).dst = none from by kernel_rfl]; intro e; cases e
      · subst ht
        match i, hi with
        | 0, _ => rw [show (oF 0).dst = some 14 from by kernel_rfl]; intro e; exact absurd (Option.some.inj e) (by decide)
        | 1, _ => rw [show (oF 1).dst = some 15 from by kernel_rfl]; intro e; exact absurd (Option.some.inj e) (by decide)
        | 2, _ => rw [show (oF 2).dst = some 16 from by kernel_rfl]; intro e; exact absurd (Option.some.inj e) (by decide)
        | 3, _ => rw [show (oF 3).dst = some 17 from by kernel_rfl]; intro e; exact absurd (Option.some.inj e) (by decide)
        | 4, _ => rw [show (oF 4).dst = some 18 from by kernel_rfl]; intro e; exact absurd (Option.some.inj e) (by decide)
        | 5, _ => rw [show (oF 5).dst = some 19 from by kernel_rfl]; intro e; exact absurd (Option.some.inj e) (by decide)
        | 6, _ => rw [show (oF 6).dst = some 20 from by kernel_rfl]; intro e; exact absurd (Option.some.inj e) (by decide)
        | 7, _ => rw [show (oF 7).dst = some 21 from by kernel_rfl]; intro e; exact absurd (Option.some.inj e) (by decide)
        | 8, _ => rw [show (oF 8).dst = some 22 from by kernel_rfl]; intro e; exact absurd (Option.some.inj e) (by decide)
        | 9, _ => rw [show (oF 9).dst = some 23 from by kernel_rfl]; intro e; exact absurd (Option.some.inj e) (by decide)
        | 10, _ => rw [show (oF 10).dst = some 24 from by kernel_rfl]; intro e; exact absurd (Option.some.inj e) (by decide)
        | 11, _ => rw [show (oF 11).dst = some 25 from by kernel_rfl]; intro e; exact absurd (Option.some.inj e) (by decide)
        | 12, _ => rw [show (oF 12).dst = some 26 from by kernel_rfl]; intro e; exact absurd (Option.some.inj e) (by decide)
        | 13, _ => rw [show (oF 13).dst = none from by kernel_rfl]; intro e; cases e
  · rintro L a w i ⟨hC, hw⟩ hr rest m hnext
    obtain ⟨hun, o', ho', _⟩ := mem_ready.1 hr
    have hi : i < 14 := by have := (Array.getElem?_eq_some_iff.1 ho').1; rwa [oF_size] at this
    have hun' : L.getD i false = false := by rw [← getD_true_false (by rw [hC.size, oF_size]; exact hi)]; exact hun
    have hFw : FH J k s j w ∧ L.getD 13 false = false := by
      rcases hw with ⟨h1, h2⟩ | ⟨h1, h2⟩
      · exact ⟨h2, h1⟩
      · exfalso
        rcases Nat.lt_or_ge i 13 with h | h
        · rw [allF hC h1 i h] at hun'; cases hun'
        · obtain rfl : i = 13 := by omega
          rw [h1] at hun'; cases hun'
    clear hw
    obtain ⟨hF, h13⟩ := hFw
    have fin : ∀ (d : Tmp) (hd : (oF i).dst = some d) (h : i ≠ 13) (w₁ : World), J.RW k w w₁ → OpsC Try.prog false (J.RW k) (J.DW k) 25 opsF rest m Q (a.put (oF i).dst (vF J s f j c1 c2 c3 i)) w₁ := fun d hd h w₁ r =>
      hnext _ _ ⟨hC.put hdst hr (oF_at i hi) hd, .inl ⟨by rw [set13 h]; exact h13, hF.rely F r⟩⟩
    have idle : ∀ (w₁ : World) (es : Array Event), es = #[] → J.DW k w₁ w₁ es := fun w₁ es e => e ▸ T.idle w₁
    match i, hi with
    | 0, hi => exact opsC_more (step_val (v := vF J s f j c1 c2 c3 0) (oF_at 0 hi) (by kernel_rfl) (fun w₁ r => by
        have e := run_move' (P := Try.prog) (fn := 25) (a := a) (o := oF 0) (x := .tmp 0) (by kernel_rfl) ((hC.old (by kernel_rfl)).trans hA.t0) w₁
        exact ⟨e.1, idle _ _ e.2⟩) (fin 14 (by kernel_rfl) (by omega))) (by omega)
    | 1, hi => exact opsC_more (step_val (v := vF J s f j c1 c2 c3 1) (oF_at 1 hi) (by kernel_rfl) (fun w₁ r => by
        have e := run_move' (P := Try.prog) (fn := 25) (a := a) (o := oF 1) (x := .tmp 8) (by kernel_rfl) ((hC.old (by kernel_rfl)).trans hA.t8) w₁
        exact ⟨e.1, idle _ _ e.2⟩) (fin 15 (by kernel_rfl) (by omega))) (by omega)
    | 2, hi => exact opsC_more (step_val (v := vF J s f j c1 c2 c3 2) (oF_at 2 hi) (by kernel_rfl) (fun w₁ r => by
        have e := run_move' (P := Try.prog) (fn := 25) (a := a) (o := oF 2) (x := .tmp 1) (by kernel_rfl) ((hC.old (by kernel_rfl)).trans hA.t1) w₁
        exact ⟨e.1, idle _ _ e.2⟩) (fin 16 (by kernel_rfl) (by omega))) (by omega)
    | 3, hi => exact opsC_more (step_val (v := vF J s f j c1 c2 c3 3) (oF_at 3 hi) (by kernel_rfl) (fun w₁ r => by
        have e := run_move' (P := Try.prog) (fn := 25) (a := a) (o := oF 3) (x := .tmp 2) (by kernel_rfl) ((hC.old (by kernel_rfl)).trans hA.t2) w₁
        exact ⟨e.1, idle _ _ e.2⟩) (fin 17 (by kernel_rfl) (by omega))) (by omega)
    | 4, hi => exact opsC_more (step_val (v := vF J s f j c1 c2 c3 4) (oF_at 4 hi) (by kernel_rfl) (fun w₁ r => by
        have e := run_move' (P := Try.prog) (fn := 25) (a := a) (o := oF 4) (x := .tmp 8) (by kernel_rfl) ((hC.old (by kernel_rfl)).trans hA.t8) w₁
        exact ⟨e.1, idle _ _ e.2⟩) (fin 18 (by kernel_rfl) (by omega))) (by omega)
    | 5, hi => exact opsC_more (step_val (v := vF J s f j c1 c2 c3 5) (oF_at 5 hi) (by kernel_rfl) (fun w₁ r => by
        have e := run_index' (P := Try.prog) (fn := 25) (a := a) (o := oF 5) (x := .tmp 17) (y := .tmp 18) (by kernel_rfl) int_sl int_inf (hC.at_ (oF_at 3 (by omega)) (d := 17) (by kernel_rfl) (ready_dep hr (oF_at _ hi) (j := 3) (by kernel_rfl))) (hC.at_ (oF_at 4 (by omega)) (d := 18) (by kernel_rfl) (ready_dep hr (oF_at _ hi) (j := 4) (by kernel_rfl))) hj w₁
        exact ⟨e.1, idle _ _ e.2⟩) (fin 19 (by kernel_rfl) (by omega))) (by omega)
    | 6, hi => exact opsC_more (step_val (v := vF J s f j c1 c2 c3 6) (oF_at 6 hi) (by kernel_rfl) (fun w₁ r => by
        have e := run_load' loudF (a := a) (o := oF 6) (x := .tmp 19) (by kernel_rfl) (hC.at_ (oF_at 5 (by omega)) (d := 19) (by kernel_rfl) (ready_dep hr (oF_at _ hi) (j := 5) (by kernel_rfl))) ((hF.rely F r).xa j hj)
        exact ⟨e.1, by rw [e.2]; exact J.readW k _ (fun x hx => by rw [Array.mem_singleton] at hx; subst hx; exact J.evR F.fit F.old F.last F.a1 F.a2 F.a3 F.a4)⟩) (fin 20 (by kernel_rfl) (by omega))) (by omega)
    | 7, hi => exact opsC_more (step_val (v := vF J s f j c1 c2 c3 7) (oF_at 7 hi) (by kernel_rfl) (fun w₁ r => by
        have e := run_move' (P := Try.prog) (fn := 25) (a := a) (o := oF 7) (x := .tmp 3) (by kernel_rfl) ((hC.old (by kernel_rfl)).trans hA.t3) w₁
        exact ⟨e.1, idle _ _ e.2⟩) (fin 21 (by kernel_rfl) (by omega))) (by omega)
    | 8, hi => exact opsC_more (step_val (v := vF J s f j c1 c2 c3 8) (oF_at 8 hi) (by kernel_rfl) (fun w₁ r => by
        have e := run_move' (P := Try.prog) (fn := 25) (a := a) (o := oF 8) (x := .tmp 8) (by kernel_rfl) ((hC.old (by kernel_rfl)).trans hA.t8) w₁
        exact ⟨e.1, idle _ _ e.2⟩) (fin 22 (by kernel_rfl) (by omega))) (by omega)
    | 9, hi => exact opsC_more (step_val (v := vF J s f j c1 c2 c3 9) (oF_at 9 hi) (by kernel_rfl) (fun w₁ r => by
        have e := run_index' (P := Try.prog) (fn := 25) (a := a) (o := oF 9) (x := .tmp 21) (y := .tmp 22) (by kernel_rfl) int_sl int_inf (hC.at_ (oF_at 7 (by omega)) (d := 21) (by kernel_rfl) (ready_dep hr (oF_at _ hi) (j := 7) (by kernel_rfl))) (hC.at_ (oF_at 8 (by omega)) (d := 22) (by kernel_rfl) (ready_dep hr (oF_at _ hi) (j := 8) (by kernel_rfl))) hj w₁
        exact ⟨e.1, idle _ _ e.2⟩) (fin 23 (by kernel_rfl) (by omega))) (by omega)
    | 10, hi => exact opsC_more (step_val (v := vF J s f j c1 c2 c3 10) (oF_at 10 hi) (by kernel_rfl) (fun w₁ r => by
        have e := run_load' loudF (a := a) (o := oF 10) (x := .tmp 23) (by kernel_rfl) (hC.at_ (oF_at 9 (by omega)) (d := 23) (by kernel_rfl) (ready_dep hr (oF_at _ hi) (j := 9) (by kernel_rfl))) ((hF.rely F r).yb j hj)
        exact ⟨e.1, by rw [e.2]; exact J.readW k _ (fun x hx => by rw [Array.mem_singleton] at hx; subst hx; exact J.evR F.fit F.old F.last F.b1 F.b2 F.b3 F.b4)⟩) (fin 24 (by kernel_rfl) (by omega))) (by omega)
    | 11, hi => exact opsC_more (opsC_callV T (oF_at 11 hi) (by kernel_rfl) (run_callV hI oF_op11 (hC.at_ (oF_at 2 (by omega)) (d := 16) (by kernel_rfl) (ready_dep hr (oF_at _ hi) (j := 2) (by kernel_rfl))) (hC.at_ (oF_at 6 (by omega)) (d := 20) (by kernel_rfl) (ready_dep hr (oF_at _ hi) (j := 6) (by kernel_rfl))) (hC.at_ (oF_at 10 (by omega)) (d := 24) (by kernel_rfl) (ready_dep hr (oF_at _ hi) (j := 10) (by kernel_rfl)))) (hop (s.X j) (s.Y j) w (F.okX j hj) (F.okY j hj)) (fun v w' hp => by
        obtain ⟨rfl, hS⟩ := hp
        have h := hnext (a.put (oF 11).dst (vF J s f j c1 c2 c3 11)) w' ⟨hC.put hdst hr (oF_at 11 hi) (d := 25) (by kernel_rfl), .inl ⟨by rw [set13 (by omega)]; exact h13, hS.elim (fun e => e ▸ hF) fun r => hF.rely F r⟩⟩
        have e : vF J s f j c1 c2 c3 11 = .int .i64 (g (s.X j) (s.Y j)) := by show Value.int .i64 (J.fx (s.lo + j)) = _; rw [hfx j hj]
        rw [e] at h
        exact h)) (by omega)
    | 12, hi => exact opsC_more (step_val (v := vF J s f j c1 c2 c3 12) (oF_at 12 hi) (by kernel_rfl) (fun w₁ r => by
        have e := run_index' (P := Try.prog) (fn := 25) (a := a) (o := oF 12) (x := .tmp 14) (y := .tmp 15) (by kernel_rfl) int_sl int_inf (hC.at_ (oF_at 0 (by omega)) (d := 14) (by kernel_rfl) (ready_dep hr (oF_at _ hi) (j := 0) (by kernel_rfl))) (hC.at_ (oF_at 1 (by omega)) (d := 15) (by kernel_rfl) (ready_dep hr (oF_at _ hi) (j := 1) (by kernel_rfl))) hj w₁
        exact ⟨e.1, idle _ _ e.2⟩) (fin 26 (by kernel_rfl) (by omega))) (by omega)
    | 13, hi =>
      refine opsC_more (n := m + 1) (opsC_cons (oF_at 13 hi) (by kernel_rfl) fun w₁ r => ?_) (by omega)
      have hF₁ := hF.rely F r
      obtain ⟨⟨u, hu⟩, hz⟩ := hF₁.out j hj
      have hop13 : (oF 13).op = .store 3 (.tmp 26) (.tmp 25) := by kernel_rfl
      have hx : a.eval (.tmp 26) = .pointer (some ⟨J.Ob, s.lo + j, none⟩) := (hC.at_ (oF_at 12 (by omega)) (d := 26) (by kernel_rfl) (ready_dep hr (oF_at _ hi) (j := 12) (by kernel_rfl)))
      have hy : a.eval (.tmp 25) = .int .i64 (J.fx (s.lo + j)) := (hC.at_ (oF_at 11 (by omega)) (d := 25) (by kernel_rfl) (ready_dep hr (oF_at _ hi) (j := 11) (by kernel_rfl)))
      have e1 : (execOp a.eval (oF 13)).run Try.prog w₁ = .ok .skip (w₁.setCell ⟨J.Ob, s.lo + j, none⟩ (.int .i64 (J.fx (s.lo + j)))) := by
        unfold execOp
        simp only [hop13, hx, hy]
        simp [go_sem, stored, hu, hz]
      have e2 : (execOp a.eval (oF 13)).events Try.prog w₁ #[] = #[⟨.cell ⟨J.Ob, s.lo + j, none⟩, true, false⟩] := by
        unfold execOp
        simp only [hop13, hx, hy]
        simp [go_sem, storedEv, hu, hz]
      have e3 : listed Try.prog 25 a (oF 13) w₁ = #[⟨.cell ⟨J.Ob, s.lo + j, none⟩, true, false⟩] := by
        unfold listed
        rw [e2]
        exact seen_eq loudF (by simp)
      rw [e1, e3]
      have hd13 : (oF 13).dst = none := by kernel_rfl
      refine ⟨hF₁.dw F hj, ?_⟩
      rw [hd13]
      refine hnext a _ ⟨hC.put0 hr (oF_at 13 hi) hd13, .inr ⟨?_, hF₁.store F hj⟩⟩
      rw [Array.getD_eq_getD_getElem?, Array.getElem?_setIfInBounds_self_of_lt (by rw [hC.size, oF_size]; omega)]
      rfl
  · exact fun w₁ r => ⟨Came.start _ _, .inl ⟨by rw [Array.getD_eq_getD_getElem?, Array.getElem?_replicate]; split <;> rfl, (hF.rely F r).rely F (J.relyDraw k _)⟩⟩
end
end Go.Proofs.Ytlpfogkfjjbklac.Lift
namespace Go.Proofs.Ytlpfogkfjjbklac.Lift
open Go.Conc Go.Proofs.Ytlpfogkfjjbklac.Crew Go.RowKit
set_option linter.unusedVariables false
set_option linter.unusedSimpArgs false
section
variable {J : Job} {k : Nat} {s : Str} {f : FuncId} {g : Int → Int → Int}
def FInv (J : Job) (k : Nat) (s : Str) (f : FuncId) (c1 c2 c3 : Nat) (a : Act) (w : World) : Prop := ∃ (j : Nat) (v4 v5 v6 v7 v8 v9 v12 v13 v14 v15 v16 v17 v18 v19 v20 v21 v22 v23 v24 v25 v26 v27 : Value), j ≤ s.m ∧ FH J k s j w ∧
  a = { tmps := #[.slice (some ⟨J.Ob, s.lo, none⟩) s.m c1, .func (.func f) #[] #[], .slice (some ⟨s.ab, s.ao, none⟩) s.m c2, .slice (some ⟨s.bb, s.bo, none⟩) s.m c3, v4, v5, v6, v7, v8, v9, .int .i64 (s.m : Int), .int .i64 (j : Int), v12, v13, v14, v15, v16, v17, v18, v19, v20, v21, v22, v23, v24, v25, v26, v27], defers := [] }
def FMu (m : Nat) (a : Act) (_ : World) : Nat := match a.tmps.getD 11 undef with | .int _ j => m - j.toNat | _ => 0
set_option maxRecDepth 100000 in
set_option maxHeartbeats 4000000 in
theorem fill_c (F : s.Fits J k) (hI : IsOp f g) (hfx : ∀ i, i < s.m → J.fx (s.lo + i) = g (s.X i) (s.Y i)) (c1 c2 c3 : Nat) : ∃ N, ∀ w, FH J k s 0 w → CallsC Try.prog false (J.RW k) (J.DW k) 25 #[.slice (some ⟨J.Ob, s.lo, none⟩) s.m c1, .func (.func f) #[] #[], .slice (some ⟨s.ab, s.ao, none⟩) s.m c2, .slice (some ⟨s.bb, s.bo, none⟩) s.m c3] N w fun v w' => v = .tuple #[] ∧ FH J k s s.m w' := by
  obtain ⟨N3, hround⟩ := round_c F hI hfx c1 c2 c3
  have T := J.termsW k
  have hsm := F.small
  co_apply Exists.intro
  intro w hF
  co_apply callsC_of_wpC Try.func25 (by rfl) rfl
  simp only [Try.ntmps25, List.size_toArray, List.length_cons, List.length_nil, Nat.reduceAdd, Nat.reduceSub, Array.replicate_succ, Array.replicate_zero, List.push_toArray, List.append_toArray, List.nil_append, List.cons_append]
  co_apply wpC_seq T
  co_reg T
  co_op (FH.rely F) hF (co_quiet T)
  co_op (FH.rely F) hF (co_quiet T)
  co_op (FH.rely F) hF (co_quiet T)
  co_apply opsC_nil T
  co_then
  co_apply wpC_block T
  co_apply wpC_loop T (FInv J k s f c1 c2 c3) (FMu s.m) _ s.m
  · exact ⟨0, _, _, _, _, _, _, _, _, _, _, _, _, _, _, _, _, _, _, _, _, _, _, Nat.zero_le _, hF, rfl⟩
  · simp [FMu]
  · rintro a w' ⟨j, v4, v5, v6, v7, v8, v9, v12, v13, v14, v15, v16, v17, v18, v19, v20, v21, v22, v23, v24, v25, v26, v27, hj, hS, rfl⟩
    co_apply wpC_seq T
    co_reg T
    co_op (FH.rely F) hS (co_quiet T)
    co_apply opsC_nil T
    co_then
    co_apply wpC_seq T
    co_split T (decide ((j : Int) < (s.m : Int)))
    · intro hlt
      have hlt' : j < s.m := by have := of_decide_eq_true hlt; omega
      co_apply wpC_skip T
      co_then
      co_apply wpC_seq T
      co_apply wpC_block T
      co_apply wpC_seq T
      co_reg T
      co_op (FH.rely F) hS (co_quiet T)
      co_op (FH.rely F) hS (co_quiet T)
      co_apply opsC_nil T
      co_then
      co_apply hround j hlt'
      · exact ⟨rfl, rfl, rfl, rfl, rfl, rfl⟩
      · exact hS
      · rintro ⟨tm, df⟩ w2 hsz hdf hk hS2
        simp only at hsz hdf hk
        subst hdf
        obtain ⟨u0, u1, u2, u3, u4, u5, u6, u7, u8, u9, u10, u11, u12, u13, u14, u15, u16, u17, u18, u19, u20, u21, u22, u23, u24, u25, u26, u27, rfl⟩ := array28 tm hsz
        have k0 := hk 0 (by omega)
        have k1 := hk 1 (by omega)
        have k2 := hk 2 (by omega)
        have k3 := hk 3 (by omega)
        have k10 := hk 10 (by omega)
        have k11 := hk 11 (by omega)
        simp only [List.getElem?_toArray, List.getElem?_cons_succ, List.getElem?_cons_zero, Option.some.injEq] at k0 k1 k2 k3 k10 k11
        subst k0 k1 k2 k3 k10 k11
        co_then
        have ew : IntKind.i64.wrap ((j : Int) + 1) = ((j + 1 : Nat) : Int) := by rw [IntKind.wrap_i64]; omega
        co_reg T
        co_op (FH.rely F) hS2 (co_quiet T)
        co_op (FH.rely F) hS2 (co_quiet T)
        co_apply opsC_nil T
        co_then
        exact ⟨⟨j + 1, u4, u5, u6, u7, u8, u9, u12, u13, u14, u15, u16, u17, u18, u19, u20, u21, u22, u23, u24, u25, u26, .int .i64 ((j + 1 : Nat) : Int), hlt', hS2, by simp⟩, by simp [FMu]; omega⟩
    · intro hlt
      have hlt' : j = s.m := by have := of_decide_eq_false hlt; omega
      subst hlt'
      co_apply wpC_exit T
      co_then
      exact ⟨rfl, _, resultsC_none (by rfl) _, rfl, hS⟩
end
end Go.Proofs.Ytlpfogkfjjbklac.Lift
namespace Go.Proofs.Ytlpfogkfjjbklac.Lift
open Go.Conc Go.Proofs.Ytlpfogkfjjbklac.Crew Go.RowKit
set_option linter.unusedVariables false
set_option linter.unusedSimpArgs false
/-- Where a worker's variables lie, and the whole slices. -/
structure Bxs where
  ou : Nat
  fr : Nat
  to : Nat
  op : Nat
  a : Nat
  b : Nat
  ao : Nat
  bo : Nat
  ca : Nat
  cb : Nat
def Kpt (J : Job) (k b : Nat) : Prop := b ≠ J.Wg ∧ b ≠ J.Ob ∧ ¬ J.S b ∧ b < J.top k
structure Bxs.Fits (J : Job) (k : Nat) (s : Str) (B : Bxs) : Prop where
  str : s.Fits J k
  ou : Kpt J k B.ou
  fr : Kpt J k B.fr
  to : Kpt J k B.to
  op : Kpt J k B.op
  a : Kpt J k B.a
  b : Kpt J k B.b
  pos : 0 < s.m
  hi : s.lo + s.m ≤ J.n
  ca : J.n ≤ B.ca
  cb : J.n ≤ B.cb
  ao : s.ao = B.ao + s.lo
  bo : s.bo = B.bo + s.lo
  n : J.n ≤ 100
structure WK (J : Job) (k : Nat) (s : Str) (f : FuncId) (B : Bxs) (w : World) : Prop where
  fh : FH J k s 0 w
  ou : w.cell? ⟨B.ou, 0, none⟩ = some (.slice (some ⟨J.Ob, 0, none⟩) J.n J.n)
  fr : w.cell? ⟨B.fr, 0, none⟩ = some (.int .i64 (s.lo : Int))
  to : w.cell? ⟨B.to, 0, none⟩ = some (.int .i64 ((s.lo + s.m : Nat) : Int))
  op : w.cell? ⟨B.op, 0, none⟩ = some (.func (.func f) #[] #[])
  a : w.cell? ⟨B.a, 0, none⟩ = some (.slice (some ⟨s.ab, B.ao, none⟩) J.n B.ca)
  b : w.cell? ⟨B.b, 0, none⟩ = some (.slice (some ⟨s.bb, B.bo, none⟩) J.n B.cb)
section
variable {J : Job} {k : Nat} {s : Str} {f : FuncId} {g : Int → Int → Int} {B : Bxs} {w w₁ : World}
theorem Kpt.same {b : Nat} (h : Kpt J k b) (r : J.RW k w w₁) : w₁.cell? ⟨b, 0, none⟩ = w.cell? ⟨b, 0, none⟩ := World.cell?_of_block (r.block b h.1 h.2.1 h.2.2.2)
theorem WK.rely (F : B.Fits J k s) (h : WK J k s f B w) (r : J.RW k w w₁) : WK J k s f B w₁ :=
  ⟨h.fh.rely F.str r, (F.ou.same r).trans h.ou, (F.fr.same r).trans h.fr, (F.to.same r).trans h.to, (F.op.same r).trans h.op, (F.a.same r).trans h.a, (F.b.same r).trans h.b⟩
noncomputable def opsW : Array Oper := match Try.f23.body with | some (.seq _ (.region _ ops _)) => ops | _ => #[]
noncomputable def oW (i : Nat) : Oper := opsW.getD i default
theorem oW_size : opsW.size = 14 := by kernel_rfl
theorem oW_at : ∀ i, i < 14 → opsW[i]? = some (oW i)
  | 0, _ => by kernel_rfl
  | 1, _ => by kernel_rfl
  | 2, _ => by kernel_rfl
  | 3, _ => by kernel_rfl
  | 4, _ => by kernel_rfl
  | 5, _ => by kernel_rfl
  | 6, _ => by kernel_rfl
  | 7, _ => by kernel_rfl
  | 8, _ => by kernel_rfl
  | 9, _ => by kernel_rfl
  | 10, _ => by kernel_rfl
  | 11, _ => by kernel_rfl
  | 12, _ => by kernel_rfl
  | 13, _ => by kernel_rfl
  | _ + 14, h => by omega
theorem oW_back : backB opsW = true := by kernel_rfl
theorem oW_dst : dstB opsW 21 = true := by kernel_rfl
theorem loudW : (Try.prog.funcs[(23 : Nat)]?).any (·.norace) = false := by kernel_rfl
/-- Loads of one cell. -/
theorem run_loadS {fn : FuncId} (hn : (Try.prog.funcs[fn]?).any (·.norace) = false) {o : Oper} {x : Operand} {a : Act} {ad : Addr} {p : Option Addr} {l c : Nat} (hop : o.op = .load 25 x) (hx : a.eval x = .pointer (some ad)) {w : World} (hc : w.cell? ad = some (.slice p l c)) : (execOp a.eval o).run Try.prog w = .ok (.value (.slice p l c)) w ∧ listed Try.prog fn a o w = #[⟨.cell ad, false, false⟩] := by
  have e1 : (execOp a.eval o).run Try.prog w = .ok (.value (.slice p l c)) w := by unfold execOp; simp only [hop, hx]; simp [go_sem, hc]
  refine ⟨e1, ?_⟩
  have e2 : (execOp a.eval o).events Try.prog w #[] = #[⟨.cell ad, false, false⟩] := by unfold execOp; simp only [hop, hx]; simp [go_sem, hc]
  unfold listed
  rw [e2]
  exact seen_eq hn (by simp)
theorem run_loadF {fn : FuncId} (hn : (Try.prog.funcs[fn]?).any (·.norace) = false) {o : Oper} {x : Operand} {a : Act} {ad : Addr} {t : TypeId} (ht : t = 45) {f : Fn} {p q : Array Value} (hop : o.op = .load t x) (hx : a.eval x = .pointer (some ad)) {w : World} (hc : w.cell? ad = some (.func f p q)) : (execOp a.eval o).run Try.prog w = .ok (.value (.func f p q)) w ∧ listed Try.prog fn a o w = #[⟨.cell ad, false, false⟩] := by
  subst ht
  have e1 : (execOp a.eval o).run Try.prog w = .ok (.value (.func f p q)) w := by unfold execOp; simp only [hop, hx]; simp [go_sem, hc]
  refine ⟨e1, ?_⟩
  have e2 : (execOp a.eval o).events Try.prog w #[] = #[⟨.cell ad, false, false⟩] := by unfold execOp; simp only [hop, hx]; simp [go_sem, hc]
  unfold listed
  rw [e2]
  exact seen_eq hn (by simp)
/-- A stretch of a slice. -/
theorem run_slice' {fn : FuncId} {o : Oper} {x y z : Operand} {a : Act} {b off n cap lo hi : Nat} (hop : o.op = .slice 25 x (some y) (some z) none) (hx : a.eval x = .slice (some ⟨b, off, none⟩) n cap) (hy : a.eval y = .int .i64 (lo : Int)) (hz : a.eval z = .int .i64 (hi : Int)) (h1 : lo < hi) (h2 : hi ≤ n) (h3 : n ≤ cap) (w : World) : (execOp a.eval o).run Try.prog w = .ok (.value (.slice (some ⟨b, off + lo, none⟩) (hi - lo) (cap - lo))) w ∧ listed Try.prog fn a o w = #[] := by
  have g1 : lo ≤ hi := by omega
  have g2 : hi ≤ cap := by omega
  have g3 : cap ≠ lo := by omega
  have e1 : (execOp a.eval o).run Try.prog w = .ok (.value (.slice (some ⟨b, off + lo, none⟩) (hi - lo) (cap - lo))) w := by
    unfold execOp
    simp only [hop, hx, hy, hz, Option.map_some, Option.map_none]
    simp [go_sem, g1, g2, g3, Instr.sliceBound, asIntOf, Result.andThen, Addr.add]
  refine ⟨e1, listed_nil ?_⟩
  unfold execOp
  simp only [hop, hx, hy, hz, Option.map_some, Option.map_none]
  simp [go_sem, g1, g2, g3, Instr.sliceAt, Instr.slice, Instr.sliceBounds, Instr.sliceBound, asIntOf, Result.andThen, Result.evThen, int_sl]
/-- What each operation gives. -/
def vW (J : Job) (s : Str) (f : FuncId) (B : Bxs) : Nat → Value
  | 0 => .slice (some ⟨J.Ob, 0, none⟩) J.n J.n
  | 1 => .int .i64 (s.lo : Int)
  | 2 => .int .i64 ((s.lo + s.m : Nat) : Int)
  | 3 => .slice (some ⟨J.Ob, 0 + s.lo, none⟩) (s.lo + s.m - s.lo) (J.n - s.lo)
  | 4 => .func (.func f) #[] #[]
  | 5 => .slice (some ⟨s.ab, B.ao, none⟩) J.n B.ca
  | 6 => .int .i64 (s.lo : Int)
  | 7 => .int .i64 ((s.lo + s.m : Nat) : Int)
  | 8 => .slice (some ⟨s.ab, B.ao + s.lo, none⟩) (s.lo + s.m - s.lo) (B.ca - s.lo)
  | 9 => .slice (some ⟨s.bb, B.bo, none⟩) J.n B.cb
  | 10 => .int .i64 (s.lo : Int)
  | 11 => .int .i64 ((s.lo + s.m : Nat) : Int)
  | 12 => .slice (some ⟨s.bb, B.bo + s.lo, none⟩) (s.lo + s.m - s.lo) (B.cb - s.lo)
  | _ => .tuple #[]
theorem allW {val : Nat → Value} {a₀ a : Act} {L : Array Bool} (h : Came opsW val a₀ L a) (h13 : L.getD 13 false = true) : ∀ i, i < 13 → L.getD i false = true := by
  have h3 := h.dep h13 (oW_at 13 (by omega)) (j := 3) (by kernel_rfl)
  have h4 := h.dep h13 (oW_at 13 (by omega)) (j := 4) (by kernel_rfl)
  have h8 := h.dep h13 (oW_at 13 (by omega)) (j := 8) (by kernel_rfl)
  have h12 := h.dep h13 (oW_at 13 (by omega)) (j := 12) (by kernel_rfl)
  have h0 := h.dep h3 (oW_at 3 (by omega)) (j := 0) (by kernel_rfl)
  have h1 := h.dep h3 (oW_at 3 (by omega)) (j := 1) (by kernel_rfl)
  have h2 := h.dep h3 (oW_at 3 (by omega)) (j := 2) (by kernel_rfl)
  have h5 := h.dep h8 (oW_at 8 (by omega)) (j := 5) (by kernel_rfl)
  have h6 := h.dep h8 (oW_at 8 (by omega)) (j := 6) (by kernel_rfl)
  have h7 := h.dep h8 (oW_at 8 (by omega)) (j := 7) (by kernel_rfl)
  have h9 := h.dep h12 (oW_at 12 (by omega)) (j := 9) (by kernel_rfl)
  have h10 := h.dep h12 (oW_at 12 (by omega)) (j := 10) (by kernel_rfl)
  have h11 := h.dep h12 (oW_at 12 (by omega)) (j := 11) (by kernel_rfl)
  intro i hi
  match i, hi with
  | 0, _ => exact h0
  | 1, _ => exact h1
  | 2, _ => exact h2
  | 3, _ => exact h3
  | 4, _ => exact h4
  | 5, _ => exact h5
  | 6, _ => exact h6
  | 7, _ => exact h7
  | 8, _ => exact h8
  | 9, _ => exact h9
  | 10, _ => exact h10
  | 11, _ => exact h11
  | 12, _ => exact h12
/-- The temporaries at the beginning. -/
structure AtW (J : Job) (B : Bxs) (a : Act) : Prop where
  size : a.tmps.size = 21
  t1 : a.eval (.tmp 1) = .pointer (some ⟨B.ou, 0, none⟩)
  t2 : a.eval (.tmp 2) = .pointer (some ⟨B.fr, 0, none⟩)
  t3 : a.eval (.tmp 3) = .pointer (some ⟨B.to, 0, none⟩)
  t4 : a.eval (.tmp 4) = .pointer (some ⟨B.op, 0, none⟩)
  t5 : a.eval (.tmp 5) = .pointer (some ⟨B.a, 0, none⟩)
  t6 : a.eval (.tmp 6) = .pointer (some ⟨B.b, 0, none⟩)
theorem oW_op13 : (oW 13).op = .call { callee := .value (.func 25), args := #[.tmp 10, .tmp 11, .tmp 15, .tmp 19], argTypes := #[25, 45, 25, 25] } := by kernel_rfl
set_option maxHeartbeats 1000000 in
theorem work_c (F : B.Fits J k s) (hI : IsOp f g) (hfx : ∀ i, i < s.m → J.fx (s.lo + i) = g (s.X i) (s.Y i)) : ∃ N, ∀ (Q : Exit → Act → World → Prop) (a₀ : Act) (w : World), AtW J B a₀ → WK J k s f B w →
    (∀ a w', a.defers = a₀.defers → FH J k s s.m w' → Q .normal a w') →
    (Code.region 1 opsW true).wpC Try.prog false (J.RW k) (J.DW k) 23 N Q a₀ w := by
  obtain ⟨nf, hfill⟩ := fill_c F.str hI hfx (J.n - s.lo) (B.ca - s.lo) (B.cb - s.lo)
  refine ⟨opsW.size * (nf + 3) + 1 + 1, fun Q a₀ w hA hF hQ => ?_⟩
  have hdst : dstB opsW a₀.tmps.size = true := by rw [hA.size]; exact oW_dst
  have T := J.termsW k
  refine wpC_any (I := fun L a w => Came opsW (vW J s f B) a₀ L a ∧ ((L.getD 13 false = false ∧ WK J k s f B w) ∨ (L.getD 13 false = true ∧ FH J k s s.m w))) T (J.drawW k) (by kernel_rfl) oW_back ?_ ?_ ?_
  · rintro L a w ⟨hC, hw⟩ hall
    have h13 : L.getD 13 false = true := by
      rw [← getD_true_false (by rw [hC.size, oW_size]; omega)]
      exact hall 13 (by rw [oW_size]; omega)
    rcases hw with ⟨h, _⟩ | ⟨_, h⟩
    · rw [h13] at h; cases h
    · exact hQ a w hC.defers h
  · rintro L a w i ⟨hC, hw⟩ hr rest m hnext
    obtain ⟨hun, o', ho', _⟩ := mem_ready.1 hr
    have hi : i < 14 := by have := (Array.getElem?_eq_some_iff.1 ho').1; rwa [oW_size] at this
    have hun' : L.getD i false = false := by rw [← getD_true_false (by rw [hC.size, oW_size]; exact hi)]; exact hun
    have hFw : WK J k s f B w ∧ L.getD 13 false = false := by
      rcases hw with ⟨h1, h2⟩ | ⟨h1, h2⟩
      · exact ⟨h2, h1⟩
      · exfalso
        rcases Nat.lt_or_ge i 13 with h | h
        · rw [allW hC h1 i h] at hun'; cases hun'
        · obtain rfl : i = 13 := by omega
          rw [h1] at hun'; cases hun'
    clear hw
    obtain ⟨hF, h13⟩ := hFw
    have fin : ∀ (d : Tmp) (hd : (oW i).dst = some d) (h : i ≠ 13) (w₁ : World), J.RW k w w₁ → OpsC Try.prog false (J.RW k) (J.DW k) 23 opsW rest m Q (a.put (oW i).dst (vW J s f B i)) w₁ := fun d hd h w₁ r =>
      hnext _ _ ⟨hC.put hdst hr (oW_at i hi) hd, .inl ⟨by rw [set13 h]; exact h13, hF.rely F r⟩⟩
    have idle : ∀ (w₁ : World) (es : Array Event), es = #[] → J.DW k w₁ w₁ es := fun w₁ es e => e ▸ T.idle w₁
    have reads : ∀ (b : Nat) (w₁ : World) (es : Array Event), Kpt J k b → es = #[⟨.cell ⟨b, 0, none⟩, false, false⟩] → J.DW k w₁ w₁ es := fun b w₁ es hb e => e ▸ J.readW k _ (fun x hx => by rw [Array.mem_singleton] at hx; subst hx; exact J.evR F.str.fit F.str.old F.str.last hb.1 hb.2.1 hb.2.2.1 hb.2.2.2)
    match i, hi with
    | 0, hi => exact opsC_more (step_val (v := vW J s f B 0) (oW_at 0 hi) (by kernel_rfl) (fun w₁ r => by
        have e := run_loadS loudW (a := a) (o := oW 0) (x := .tmp 1) (by kernel_rfl) ((hC.old (by kernel_rfl)).trans hA.t1) (hF.rely F r).ou
        exact ⟨e.1, reads _ _ _ F.ou e.2⟩) (fin 7 (by kernel_rfl) (by omega))) (by omega)
    | 1, hi => exact opsC_more (step_val (v := vW J s f B 1) (oW_at 1 hi) (by kernel_rfl) (fun w₁ r => by
        have e := run_load' loudW (a := a) (o := oW 1) (x := .tmp 2) (by kernel_rfl) ((hC.old (by kernel_rfl)).trans hA.t2) (hF.rely F r).fr
        exact ⟨e.1, reads _ _ _ F.fr e.2⟩) (fin 8 (by kernel_rfl) (by omega))) (by omega)
    | 2, hi => exact opsC_more (step_val (v := vW J s f B 2) (oW_at 2 hi) (by kernel_rfl) (fun w₁ r => by
        have e := run_load' loudW (a := a) (o := oW 2) (x := .tmp 3) (by kernel_rfl) ((hC.old (by kernel_rfl)).trans hA.t3) (hF.rely F r).to
        exact ⟨e.1, reads _ _ _ F.to e.2⟩) (fin 9 (by kernel_rfl) (by omega))) (by omega)
    | 3, hi => exact opsC_more (step_val (v := vW J s f B 3) (oW_at 3 hi) (by kernel_rfl) (fun w₁ r => by
        have e := run_slice' (fn := 23) (a := a) (o := oW 3) (x := .tmp 7) (y := .tmp 8) (z := .tmp 9) (by kernel_rfl) (hC.at_ (oW_at 0 (by omega)) (d := 7) (by kernel_rfl) (ready_dep hr (oW_at _ hi) (j := 0) (by kernel_rfl))) (hC.at_ (oW_at 1 (by omega)) (d := 8) (by kernel_rfl) (ready_dep hr (oW_at _ hi) (j := 1) (by kernel_rfl))) (hC.at_ (oW_at 2 (by omega)) (d := 9) (by kernel_rfl) (ready_dep hr (oW_at _ hi) (j := 2) (by kernel_rfl))) (by have := F.pos; omega) F.hi (Nat.le_refl _) w₁
        exact ⟨e.1, idle _ _ e.2⟩) (fin 10 (by kernel_rfl) (by omega))) (by omega)
    | 4, hi => exact opsC_more (step_val (v := vW J s f B 4) (oW_at 4 hi) (by kernel_rfl) (fun w₁ r => by
        have e := run_loadF loudW rfl (a := a) (o := oW 4) (x := .tmp 4) (by kernel_rfl) ((hC.old (by kernel_rfl)).trans hA.t4) (hF.rely F r).op
        exact ⟨e.1, reads _ _ _ F.op e.2⟩) (fin 11 (by kernel_rfl) (by omega))) (by omega)
    | 5, hi => exact opsC_more (step_val (v := vW J s f B 5) (oW_at 5 hi) (by kernel_rfl) (fun w₁ r => by
        have e := run_loadS loudW (a := a) (o := oW 5) (x := .tmp 5) (by kernel_rfl) ((hC.old (by kernel_rfl)).trans hA.t5) (hF.rely F r).a
        exact ⟨e.1, reads _ _ _ F.a e.2⟩) (fin 12 (by kernel_rfl) (by omega))) (by omega)
    | 6, hi => exact opsC_more (step_val (v := vW J s f B 6) (oW_at 6 hi) (by kernel_rfl) (fun w₁ r => by
        have e := run_load' loudW (a := a) (o := oW 6) (x := .tmp 2) (by kernel_rfl) ((hC.old (by kernel_rfl)).trans hA.t2) (hF.rely F r).fr
        exact ⟨e.1, reads _ _ _ F.fr e.2⟩) (fin 13 (by kernel_rfl) (by omega))) (by omega)
    | 7, hi => exact opsC_more (step_val (v := vW J s f B 7) (oW_at 7 hi) (by kernel_rfl) (fun w₁ r => by
        have e := run_load' loudW (a := a) (o := oW 7) (x := .tmp 3) (by kernel_rfl) ((hC.old (by kernel_rfl)).trans hA.t3) (hF.rely F r).to
        exact ⟨e.1, reads _ _ _ F.to e.2⟩) (fin 14 (by kernel_rfl) (by omega))) (by omega)
    | 8, hi => exact opsC_more (step_val (v := vW J s f B 8) (oW_at 8 hi) (by kernel_rfl) (fun w₁ r => by
        have e := run_slice' (fn := 23) (a := a) (o := oW 8) (x := .tmp 12) (y := .tmp 13) (z := .tmp 14) (by kernel_rfl) (hC.at_ (oW_at 5 (by omega)) (d := 12) (by kernel_rfl) (ready_dep hr (oW_at _ hi) (j := 5) (by kernel_rfl))) (hC.at_ (oW_at 6 (by omega)) (d := 13) (by kernel_rfl) (ready_dep hr (oW_at _ hi) (j := 6) (by kernel_rfl))) (hC.at_ (oW_at 7 (by omega)) (d := 14) (by kernel_rfl) (ready_dep hr (oW_at _ hi) (j := 7) (by kernel_rfl))) (by have := F.pos; omega) F.hi F.ca w₁
        exact ⟨e.1, idle _ _ e.2⟩) (fin 15 (by kernel_rfl) (by omega))) (by omega)
    | 9, hi => exact opsC_more (step_val (v := vW J s f B 9) (oW_at 9 hi) (by kernel_rfl) (fun w₁ r => by
        have e := run_loadS loudW (a := a) (o := oW 9) (x := .tmp 6) (by kernel_rfl) ((hC.old (by kernel_rfl)).trans hA.t6) (hF.rely F r).b
        exact ⟨e.1, reads _ _ _ F.b e.2⟩) (fin 16 (by kernel_rfl) (by omega))) (by omega)
    | 10, hi => exact opsC_more (step_val (v := vW J s f B 10) (oW_at 10 hi) (by kernel_rfl) (fun w₁ r => by
        have e := run_load' loudW (a := a) (o := oW 10) (x := .tmp 2) (by kernel_rfl) ((hC.old (by kernel_rfl)).trans hA.t2) (hF.rely F r).fr
        exact ⟨e.1, reads _ _ _ F.fr e.2⟩) (fin 17 (by kernel_rfl) (by omega))) (by omega)
    | 11, hi => exact opsC_more (step_val (v := vW J s f B 11) (oW_at 11 hi) (by kernel_rfl) (fun w₁ r => by
        have e := run_load' loudW (a := a) (o := oW 11) (x := .tmp 3) (by kernel_rfl) ((hC.old (by kernel_rfl)).trans hA.t3) (hF.rely F r).to
        exact ⟨e.1, reads _ _ _ F.to e.2⟩) (fin 18 (by kernel_rfl) (by omega))) (by omega)
    | 12, hi => exact opsC_more (step_val (v := vW J s f B 12) (oW_at 12 hi) (by kernel_rfl) (fun w₁ r => by
        have e := run_slice' (fn := 23) (a := a) (o := oW 12) (x := .tmp 16) (y := .tmp 17) (z := .tmp 18) (by kernel_rfl) (hC.at_ (oW_at 9 (by omega)) (d := 16) (by kernel_rfl) (ready_dep hr (oW_at _ hi) (j := 9) (by kernel_rfl))) (hC.at_ (oW_at 10 (by omega)) (d := 17) (by kernel_rfl) (ready_dep hr (oW_at _ hi) (j := 10) (by kernel_rfl))) (hC.at_ (oW_at 11 (by omega)) (d := 18) (by kernel_rfl) (ready_dep hr (oW_at _ hi) (j := 11) (by kernel_rfl))) (by have := F.pos; omega) F.hi F.cb w₁
        exact ⟨e.1, idle _ _ e.2⟩) (fin 19 (by kernel_rfl) (by omega))) (by omega)
    | 13, hi =>
      have q1 : a.eval (.tmp 10) = .slice (some ⟨J.Ob, s.lo, none⟩) s.m (J.n - s.lo) := by
        have h := (hC.at_ (oW_at 3 (by omega)) (d := 10) (by kernel_rfl) (ready_dep hr (oW_at _ hi) (j := 3) (by kernel_rfl)))
        simpa [vW] using h
      have q2 : a.eval (.tmp 11) = .func (.func f) #[] #[] := (hC.at_ (oW_at 4 (by omega)) (d := 11) (by kernel_rfl) (ready_dep hr (oW_at _ hi) (j := 4) (by kernel_rfl)))
      have q3 : a.eval (.tmp 15) = .slice (some ⟨s.ab, s.ao, none⟩) s.m (B.ca - s.lo) := by
        have h := (hC.at_ (oW_at 8 (by omega)) (d := 15) (by kernel_rfl) (ready_dep hr (oW_at _ hi) (j := 8) (by kernel_rfl)))
        rw [F.ao]
        simpa [vW] using h
      have q4 : a.eval (.tmp 19) = .slice (some ⟨s.bb, s.bo, none⟩) s.m (B.cb - s.lo) := by
        have h := (hC.at_ (oW_at 12 (by omega)) (d := 19) (by kernel_rfl) (ready_dep hr (oW_at _ hi) (j := 12) (by kernel_rfl)))
        rw [F.bo]
        simpa [vW] using h
      have em : (#[.tmp 10, .tmp 11, .tmp 15, .tmp 19] : Array Operand).map a.eval = #[.slice (some ⟨J.Ob, s.lo, none⟩) s.m (J.n - s.lo), .func (.func f) #[] #[], .slice (some ⟨s.ab, s.ao, none⟩) s.m (B.ca - s.lo), .slice (some ⟨s.bb, s.bo, none⟩) s.m (B.cb - s.lo)] := by simp [q1, q2, q3, q4]
      refine opsC_more (opsC_call T (oW_at 13 hi) (by kernel_rfl) oW_op13 (n := m) (nf := nf) (Post := fun v w' => v = .tuple #[] ∧ FH J k s s.m w') ?_ ?_) (by omega)
      · rw [em]
        exact hfill w hF.fh
      · rintro v w' ⟨rfl, hS⟩
        refine hnext (a.put (oW 13).dst (vW J s f B 13)) w' ⟨hC.put hdst hr (oW_at 13 hi) (d := 20) (by kernel_rfl), .inr ⟨?_, hS⟩⟩
        rw [Array.getD_eq_getD_getElem?, Array.getElem?_setIfInBounds_self_of_lt (by rw [hC.size, oW_size]; omega)]
        rfl
  · exact fun w₁ r => ⟨Came.start _ _, .inl ⟨by rw [Array.getD_eq_getD_getElem?, Array.getElem?_replicate]; split <;> rfl, (hF.rely F r).rely F (J.relyDraw k _)⟩⟩
end
end Go.Proofs.Ytlpfogkfjjbklac.Lift
namespace Go.Proofs.Ytlpfogkfjjbklac.Lift
open Go.Conc Go.Proofs.Ytlpfogkfjjbklac.Crew Go.RowKit
open Go.Proofs.Ytlpfogkfjjbklac.Wgs (wf bot gDone done_goes goes_nxs nxs didL askL)
open Go.ConcR (WgAt stA smA)
set_option linter.unusedVariables false
set_option linter.unusedSimpArgs false
/-- What 'go' starts. -/
def dgo (Wg ou fr to op a b : Nat) : Deferred := { target := .fn (.func 23) #[.pointer (some ⟨Wg, 0, none⟩), .pointer (some ⟨ou, 0, none⟩), .pointer (some ⟨fr, 0, none⟩), .pointer (some ⟨to, 0, none⟩), .pointer (some ⟨op, 0, none⟩), .pointer (some ⟨a, 0, none⟩), .pointer (some ⟨b, 0, none⟩)], args := #[] }
def tB (Wg ou fr to op a b : Nat) : Array Value := #[.pointer (some ⟨Wg, 0, none⟩), .pointer (some ⟨ou, 0, none⟩), .pointer (some ⟨fr, 0, none⟩), .pointer (some ⟨to, 0, none⟩), .pointer (some ⟨op, 0, none⟩), .pointer (some ⟨a, 0, none⟩), .pointer (some ⟨b, 0, none⟩), undef, undef, undef, undef, undef, undef, undef, undef, undef, undef, undef, undef, undef, undef]
noncomputable def gB (Wg ou fr to op a b : Nat) : Goroutine := G ((baseD 23).at ⟨tB Wg ou fr to op a b, [dcall 24 #[.pointer (some ⟨Wg, 0, none⟩)]]⟩ [.code (.region 1 opsW true)]) [bot]
theorem eB (Wg ou fr to op a b : Nat) : nxs Try.prog false 5 (born Try.prog (dgo Wg ou fr to op a b)) = gB Wg ou fr to op a b := by kernel_rfl
theorem iB (Wg ou fr to op a b : Nat) (w : World) : didL Try.prog false 5 (born Try.prog (dgo Wg ou fr to op a b)) w = askL Try.prog false 5 (born Try.prog (dgo Wg ou fr to op a b)) w := by kernel_rfl
theorem nmDone : (Try.f24.name == "runtime.NumGoroutine") = false := by kernel_rfl
noncomputable def bodyDone : Code := Try.f24.body.getD .skip
theorem hasDone : Try.f24.body = some bodyDone := by kernel_rfl
theorem gone (tm : Array Value) (Wg : Nat) : G ((baseD 24).at { tmps := #[.pointer (some ⟨Wg, 0, none⟩)] ++ Array.replicate (Try.f24.ntmps - (#[.pointer (some ⟨Wg, 0, none⟩)] : Array Value).size) undef, defers := [] } [.code bodyDone]) ({ (baseD 23).at ⟨tm, []⟩ [] with mode := .returning } :: [bot]) = gDone tm [] Wg := by kernel_rfl
section
variable {J : Job} {k : Nat} {s : Str} {f : FuncId} {g : Int → Int → Int} {B : Bxs}
theorem worker_goes (hP : J.P = Try.prog) (hcnt : J.cnt ≤ 4) (F : B.Fits J k s) (hI : IsOp f g) (hfx : ∀ i, i < s.m → J.fx (s.lo + i) = g (s.X i) (s.Y i)) (hM : ∀ i, J.M k i → ∃ i', i' < s.m ∧ i = s.lo + i') :
    ∃ N, ∀ w, WK J k s f B w → Goes J.crew.P false (J.crew.RW k) (J.crew.DW k) (S7 J.crew k) N (born Try.prog (dgo J.Wg B.ou B.fr B.to B.op B.a B.b)) w := by
  obtain ⟨N, hwork⟩ := work_c F hI hfx
  have T := J.termsW k
  have hP' : J.crew.P = Try.prog := hP
  refine ⟨15 + 2 + N + 5, fun w hW => ?_⟩
  rw [hP']
  refine goes_nxs (n := 5) (m := 15 + 2 + N) T.trans T.idle (fun w => iB _ _ _ _ _ _ _ w) ?_
  rw [eB]
  refine hwork (fun e a w' => e = .normal ∧ a.defers = [dcall 24 #[.pointer (some ⟨J.Wg, 0, none⟩)]] ∧ FH J k s s.m w') _ w ⟨rfl, rfl, rfl, rfl, rfl, rfl, rfl⟩ hW (fun a w' hd hF => ⟨rfl, hd, hF⟩) (baseD 23) [] [bot] _ (15 + 2) rfl (by simp [baseD]) ?_
  rintro e a w' ⟨rfl, hd, hF⟩
  show Goes Try.prog false (J.RW k) (J.DW k) (S7 J.crew k) (15 + 2) (G ((baseD 23).at a []) [bot]) w'
  refine Goes.step rfl fun w₁ r₁ => ?_
  rw [stepG_end]
  refine ⟨T.idle _, Goes.step rfl fun w₂ r₂ => ?_⟩
  rw [stepG_unwind_enter hd Try.func24 nmDone hasDone]
  refine ⟨T.idle _, ?_⟩
  rw [gone]
  have hF₂ := (hF.rely F.str r₁).rely F.str r₂
  have hg := done_goes (C := J.crew) hP' hcnt a.tmps [] (k := k) T.trans ((Job.ok F.str.fit).rwRefl k) T.idle (fun w w' r hl => r.live hl) ((Job.ok F.str.fit).finRely k) (w := w₂) hF₂.live (fun i hi => by
    obtain ⟨i', h1, rfl⟩ := hM i hi
    exact hF₂.done i' h1 h1)
  rw [hP'] at hg
  exact hg
end
theorem isOp_plus : IsOp 17 (fun x y => (x + y) % 31) := ⟨fun T => plus_c T, fun args w => ⟨by rfl, by rfl⟩⟩
end Go.Proofs.Ytlpfogkfjjbklac.Lift
