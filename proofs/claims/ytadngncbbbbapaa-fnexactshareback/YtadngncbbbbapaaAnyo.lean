/-
  A region that asks the tape for its order, in company, whatever its operations: each, once what it waits for has come up, gives its own value. No program is named here.
-/
import Derived.Conc.CompanyMem
namespace Go.Proofs.Ytadngncbbbbapaa.Lift
open Go.Conc
set_option linter.unusedVariables false
section
variable {P : Program} {main : Bool} {R : World → World → Prop} {D : World → World → Array Event → Prop} {fn : FuncId} {ops : Array Oper} {Q : Exit → Act → World → Prop} {md : Region.Mode}
/-- Operations wait for earlier ones alone. -/
def backB (ops : Array Oper) : Bool := (List.range ops.size).all fun i => ((ops[i]?).map fun o => o.after.all fun e => decide (e.on < i)).getD true
theorem back_spec (h : backB ops = true) {i : Nat} {o : Oper} (hi : ops[i]? = some o) : ∀ e ∈ o.after, e.on < i := by
  unfold backB at h
  rw [List.all_eq_true] at h
  have h1 := h i (by rw [List.mem_range]; exact (Array.getElem?_eq_some_iff.1 hi).1)
  rw [hi] at h1
  simp only [Option.map_some, Option.getD_some] at h1
  intro e he
  have := Array.all_eq_true'.1 h1 e he
  simpa using this
theorem all_of_none (hb : backB ops = true) {L : Array Bool} (hs : L.size = ops.size) (h : Region.ready md ops L = []) : ∀ i, i < ops.size → L.getD i true = true := by
  intro i
  induction i using Nat.strongRecOn with
  | _ i ih =>
    intro hi
    cases hx : L.getD i true with
    | true => rfl
    | false =>
      exfalso
      have ho : ops[i]? = some ops[i] := Array.getElem?_eq_getElem hi
      have : i ∈ Region.ready md ops L := mem_ready.2 ⟨hx, ops[i], ho, fun e he _ => by
        have hlt := back_spec hb ho e he
        have := ih e.on hlt (by omega)
        rw [Array.getD_eq_getD_getElem?] at this ⊢
        rw [Array.getElem?_eq_getElem (show e.on < L.size by omega)] at this ⊢
        simpa using this⟩
      rw [h] at this
      cases this
theorem count_set {L : Array Bool} {i : Nat} (h : L.getD i true = false) : (L.setIfInBounds i true).toList.count false + 1 = L.toList.count false := by
  have hlt : i < L.size := by
    rcases Nat.lt_or_ge i L.size with h' | h'
    · exact h'
    · rw [Array.getD_eq_getD_getElem?, Array.getElem?_eq_none h'] at h; cases h
  have hv : L[i] = false := by rw [Array.getD_eq_getD_getElem?, Array.getElem?_eq_getElem hlt] at h; simpa using h
  rw [Array.toList_setIfInBounds, List.count_set (by simpa using hlt)]
  have hp : 0 < L.toList.count false := List.count_pos_iff.2 (by rw [← hv]; exact Array.getElem_mem_toList hlt)
  have e1 : (L.toList[i]'(by simpa using hlt) == false) = true := by simp [hv]
  rw [if_pos e1, if_neg (by decide)]
  omega
theorem any_go (T : Terms R D) (hb : backB ops = true) {I : Array Bool → Act → World → Prop} {c : Nat}
    (hend : ∀ L a w, I L a w → (∀ i, i < ops.size → L.getD i true = true) → Q .normal a w)
    (hstep : ∀ L a w i, I L a w → i ∈ Region.ready md ops L → ∀ rest m, (∀ a' w', I (L.setIfInBounds i true) a' w' → OpsC P main R D fn ops rest m Q a' w') → OpsC P main R D fn ops (i :: rest) (m + c) Q a w) :
    ∀ (fuel t : Nat) (L : Array Bool) (a : Act) (w : World), I L a w → L.size = ops.size → L.toList.count false ≤ fuel → OpsC P main R D fn ops (Region.linearise.go md ops fuel t L []) (fuel * c + 1) Q a w := by
  intro fuel
  induction fuel with
  | zero =>
    intro t L a w hI hs hc
    have hall : ∀ i, i < ops.size → L.getD i true = true := fun i hi => by
      cases hx : L.getD i true with
      | true => rfl
      | false => have := count_set hx; omega
    simpa [Region.linearise.go] using opsC_nil T (hend L a w hI hall)
  | succ fuel ih =>
    intro t L a w hI hs hc
    simp only [Region.linearise.go]
    change OpsC P main R D fn ops (match (Region.ready md ops L)[t % (Region.ready md ops L).length]? with
      | some i => Region.linearise.go md ops fuel (t / (Region.ready md ops L).length) (L.setIfInBounds i true) [i]
      | none => [].reverse) ((fuel + 1) * c + 1) Q a w
    cases hi : (Region.ready md ops L)[t % (Region.ready md ops L).length]? with
    | none =>
      have hnil : Region.ready md ops L = [] := by
        cases hr : Region.ready md ops L with
        | nil => rfl
        | cons x xs =>
          rw [hr] at hi
          have hlt : t % (x :: xs).length < (x :: xs).length := Nat.mod_lt _ (by simp)
          simp at hi
          simp at hlt
          omega
      exact opsC_more (by simpa using opsC_nil T (hend L a w hI (all_of_none hb hs hnil))) (by omega)
    | some i =>
      simp only []
      rw [linearise_go_acc, List.reverse_singleton, List.singleton_append]
      have hm : i ∈ Region.ready md ops L := List.mem_of_getElem? hi
      have hun := (mem_ready.1 hm).1
      have := hstep L a w i hI hm (Region.linearise.go md ops fuel (t / (Region.ready md ops L).length) (L.setIfInBounds i true) []) (fuel * c + 1) fun a' w' hI' => ih _ _ a' w' hI' (by simpa using hs) (by have := count_set hun; omega)
      exact opsC_more this (by rw [Nat.succ_mul]; omega)
/-- The region. -/
theorem wpC_any (T : Terms R D) (hd : LetsDraw D) (hm : P.follows .mixedOrders = true) (hb : backB ops = true) {I : Array Bool → Act → World → Prop} {c id : Nat} {a : Act} {w : World}
    (hend : ∀ L a w, I L a w → (∀ i, i < ops.size → L.getD i true = true) → Q .normal a w)
    (hstep : ∀ L a w i, I L a w → i ∈ Region.ready .any ops L → ∀ rest m, (∀ a' w', I (L.setIfInBounds i true) a' w' → OpsC P main R D fn ops rest m Q a' w') → OpsC P main R D fn ops (i :: rest) (m + c) Q a w)
    (h : ∀ w₁, R w w₁ → I (Array.replicate ops.size false) a { w₁ with drawn := w₁.drawn + 1 }) : (Code.region id ops true).wpC P main R D fn (ops.size * c + 1 + 1) Q a w :=
  wpC_region_draw hd fun w₁ h₁ t => by
    simp only [Region.schedule, hm, Bool.true_or, if_true]
    exact any_go T hb hend hstep ops.size t _ a _ (h w₁ h₁) (by simp) (by simp)

/-! ### what has come up is there -/
/-- What has come up has left its value; the other temporaries are as they were; what has come up came up behind what it waits for. -/
structure Came (ops : Array Oper) (val : Nat → Value) (a₀ : Act) (L : Array Bool) (a : Act) : Prop where
  size : L.size = ops.size
  tmps : a.tmps.size = a₀.tmps.size
  defers : a.defers = a₀.defers
  done : ∀ i o d, ops[i]? = some o → L.getD i false = true → o.dst = some d → a.tmps[d]? = some (val i)
  kept : ∀ t, (∀ (i : Nat) (o : Oper), ops[i]? = some o → o.dst ≠ some t) → a.tmps[t]? = a₀.tmps[t]?
  closed : ∀ i o, ops[i]? = some o → L.getD i false = true → ∀ e ∈ o.after, Region.binds .any e = true → L.getD e.on false = true
/-- No two write one temporary; all are there. -/
def dstB (ops : Array Oper) (n : Nat) : Bool := (List.range ops.size).all fun i => ((ops[i]?).bind (·.dst)).all fun d => decide (d < n) && (List.range ops.size).all fun j => i == j || ((ops[j]?).bind (·.dst) != some d)
theorem dst_spec {n : Nat} (h : dstB ops n = true) {i : Nat} {o : Oper} {d : Tmp} (hi : ops[i]? = some o) (hd : o.dst = some d) : d < n ∧ ∀ j o', ops[j]? = some o' → o'.dst = some d → j = i := by
  unfold dstB at h
  rw [List.all_eq_true] at h
  have h1 := h i (by rw [List.mem_range]; exact (Array.getElem?_eq_some_iff.1 hi).1)
  rw [hi, Option.bind_some, hd] at h1
  simp only [Option.all_some, Bool.and_eq_true, decide_eq_true_eq] at h1
  refine ⟨h1.1, fun j o' hj hd' => ?_⟩
  have h2 := h1.2
  rw [List.all_eq_true] at h2
  have h3 := h2 j (by rw [List.mem_range]; exact (Array.getElem?_eq_some_iff.1 hj).1)
  rw [hj, Option.bind_some, hd'] at h3
  simp at h3
  exact h3.symm
theorem Came.start (val : Nat → Value) (a₀ : Act) : Came ops val a₀ (Array.replicate ops.size false) a₀ := by
  have hf : ∀ i, (Array.replicate ops.size false).getD i false = false := fun i => by
    rw [Array.getD_eq_getD_getElem?, Array.getElem?_replicate]
    split <;> rfl
  exact ⟨by simp, rfl, rfl, fun i o d _ hL => (by rw [hf] at hL; cases hL), fun _ _ => rfl, fun i o _ hL => (by rw [hf] at hL; cases hL)⟩
theorem getD_true_false {L : Array Bool} {i : Nat} (hi : i < L.size) : L.getD i true = L.getD i false := by
  rw [Array.getD_eq_getD_getElem?, Array.getD_eq_getD_getElem?, Array.getElem?_eq_getElem hi]; rfl
theorem getD_set {L : Array Bool} {i j : Nat} (h : (L.setIfInBounds i true).getD j false = true) : j = i ∨ L.getD j false = true := by
  by_cases e : j = i
  · exact .inl e
  · right
    rwa [Array.getD_eq_getD_getElem?, Array.getElem?_setIfInBounds_ne (Ne.symm e), ← Array.getD_eq_getD_getElem?] at h
theorem getD_set_mono {L : Array Bool} {i j : Nat} (h : L.getD j false = true) : (L.setIfInBounds i true).getD j false = true := by
  have hlt : j < L.size := by
    rcases Nat.lt_or_ge j L.size with h' | h'
    · exact h'
    · rw [Array.getD_eq_getD_getElem?, Array.getElem?_eq_none h'] at h; cases h
  by_cases e : j = i
  · subst e
    rw [Array.getD_eq_getD_getElem?, Array.getElem?_setIfInBounds_self_of_lt hlt]; rfl
  · rw [Array.getD_eq_getD_getElem?, Array.getElem?_setIfInBounds_ne (Ne.symm e), ← Array.getD_eq_getD_getElem?]; exact h
theorem Came.put {val : Nat → Value} {a₀ a : Act} {L : Array Bool} (hds : dstB ops a₀.tmps.size = true) (h : Came ops val a₀ L a) {i : Nat} (hr : i ∈ Region.ready .any ops L) {o : Oper} (ho : ops[i]? = some o) {d : Tmp} (hd : o.dst = some d) : Came ops val a₀ (L.setIfInBounds i true) (a.put o.dst (val i)) := by
  obtain ⟨hun, o', ho', haf⟩ := mem_ready.1 hr
  rw [ho] at ho'
  cases ho'
  obtain ⟨hlt, huniq⟩ := dst_spec hds ho hd
  rw [hd]
  refine ⟨by simpa using h.size, by simp [Act.put, h.tmps], h.defers, fun j oj dj hj hL hdj => ?_, fun t ht => ?_, fun j oj hj hL e he hbe => ?_⟩
  · by_cases hji : j = i
    · subst hji
      rw [ho] at hj
      cases hj
      rw [hd] at hdj
      cases hdj
      show (a.tmps.setIfInBounds d (val j))[d]? = _
      rw [Array.getElem?_setIfInBounds_self_of_lt (by rw [h.tmps]; exact hlt)]
    · have hne : d ≠ dj := fun e => hji (huniq j oj hj (e ▸ hdj))
      show (a.tmps.setIfInBounds d (val i))[dj]? = _
      rw [Array.getElem?_setIfInBounds_ne hne]
      exact h.done j oj dj hj ((getD_set hL).resolve_left hji) hdj
  · have hne : d ≠ t := fun e => ht i o ho (e ▸ hd)
    show (a.tmps.setIfInBounds d (val i))[t]? = _
    rw [Array.getElem?_setIfInBounds_ne hne]
    exact h.kept t ht
  · rcases getD_set hL with rfl | hL'
    · rw [ho] at hj
      cases hj
      exact getD_set_mono (haf e he hbe)
    · exact getD_set_mono (h.closed j oj hj hL' e he hbe)
/-- What a temporary holds. -/
theorem Came.at_ {val : Nat → Value} {a₀ a : Act} {L : Array Bool} (h : Came ops val a₀ L a) {i : Nat} {o : Oper} {d : Tmp} (ho : ops[i]? = some o) (hd : o.dst = some d) (hL : L.getD i false = true) : a.eval (.tmp d) = val i := by
  show a.tmps.getD d undef = _
  rw [Array.getD_eq_getD_getElem?, h.done i o d ho hL hd]; rfl
theorem Came.old {val : Nat → Value} {a₀ a : Act} {L : Array Bool} (h : Came ops val a₀ L a) {t : Tmp} (ht : (List.range ops.size).all (fun i => (ops[i]?).bind (·.dst) != some t) = true) : a.eval (.tmp t) = a₀.eval (.tmp t) := by
  show a.tmps.getD t undef = a₀.tmps.getD t undef
  rw [Array.getD_eq_getD_getElem?, Array.getD_eq_getD_getElem?, h.kept t fun i o ho e => by
    rw [List.all_eq_true] at ht
    have := ht i (by rw [List.mem_range]; exact (Array.getElem?_eq_some_iff.1 ho).1)
    rw [ho, Option.bind_some, e] at this
    simp at this]
/-- One that is ready: what it waits for has come up. -/
theorem ready_dep {L : Array Bool} {i : Nat} (hr : i ∈ Region.ready .any ops L) {o : Oper} (ho : ops[i]? = some o) {j : Nat} (hj : o.after.any (fun e => Region.binds .any e && e.on == j) = true) : L.getD j false = true := by
  obtain ⟨_, o', ho', haf⟩ := mem_ready.1 hr
  rw [ho] at ho'
  cases ho'
  obtain ⟨e, he, hb⟩ := Array.any_eq_true'.1 hj
  simp only [Bool.and_eq_true, beq_iff_eq] at hb
  exact hb.2 ▸ haf e he hb.1
theorem Came.dep {val : Nat → Value} {a₀ a : Act} {L : Array Bool} (h : Came ops val a₀ L a) {i : Nat} (hL : L.getD i false = true) {o : Oper} (ho : ops[i]? = some o) {j : Nat} (hj : o.after.any (fun e => Region.binds .any e && e.on == j) = true) : L.getD j false = true := by
  obtain ⟨e, he, hb⟩ := Array.any_eq_true'.1 hj
  simp only [Bool.and_eq_true, beq_iff_eq] at hb
  exact hb.2 ▸ h.closed i o ho hL e he hb.1
end
end Go.Proofs.Ytadngncbbbbapaa.Lift
