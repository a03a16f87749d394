/-
  Which operations, and which functions, are tame: a check.
-/
import Derived.Test.YtadngncbbbbapaaOps
namespace Go.Proofs.Ytadngncbbbbapaa.Lift
open Go.Conc
set_option linter.unusedVariables false
set_option linter.unusedSectionVars false
set_option linter.unusedSimpArgs false
variable {P : Program} {T : FuncId → Prop}

/-- It asks, and does nothing. -/
def Mild (P : Program) {α : Type} : Sem α → Prop
  | .pure _ => True
  | .load _ _ k => ∀ v, Mild P (k v)
  | .store _ _ _ _ => False
  | .new _ _ => False
  | .shape _ k => ∀ s, Mild P (k s)
  | .freeze _ _ _ => False
  | .frozen _ k => ∀ b, Mild P (k b)
  | .getObj _ k => ∀ o, Mild P (k o)
  | .setObj _ _ _ => False
  | .choose _ k => ∀ n, Mild P (k n)
  | .sys _ _ => False
  | .program k => Mild P (k P)
  | .mark m k => False
  | .halt h => Bad h
theorem mild_dead {α β : Type} {e : Sem α} {f : α → Sem β} : Mild P e → (∀ a, Dead P (f a)) → Dead P (e.bind f) := by
  intro h hf
  induction e with
  | pure a => exact hf a
  | load m a k ih => exact fun v => ih v (h v)
  | shape r k ih => exact fun v => ih v (h v)
  | frozen a k ih => exact fun v => ih v (h v)
  | getObj r k ih => exact fun v => ih v (h v)
  | choose q k ih => exact fun v => ih v (h v)
  | program k ih => exact ih P h
  | halt x => exact h
  | _ => exact h.elim
theorem mild_tame {α β : Type} {φ : β → Prop} {e : Sem α} {f : α → Sem β} (h : Mild P e) (hf : ∀ a, Tame P φ (f a)) (hd : ∀ a, Dead P (f a)) : Tame P φ (e.bind f) := by
  induction e with
  | pure a => exact hf a
  | load m a k ih => exact fun v => ih v (h v)
  | shape r k ih => exact ⟨fun v => ih v (h v), fun e m => .inl (mild_dead (h _) hd)⟩
  | frozen a k ih => exact fun v => ih v (h v)
  | getObj r k ih => exact fun v => ih v (h v)
  | choose q k ih => exact fun v => ih v (h v)
  | program k ih => exact ih P h
  | halt x =>
    cases x <;> first | exact h.elim | trivial
  | _ => exact h.elim
theorem mild_bind {α β : Type} {e : Sem α} {f : α → Sem β} (h : Mild P e) (hf : ∀ a, Mild P (f a)) : Mild P (e >>= f) := by
  show Mild P (e.bind f)
  induction e with
  | pure a => exact hf a
  | load m a k ih => exact fun v => ih v (h v)
  | shape r k ih => exact fun v => ih v (h v)
  | frozen a k ih => exact fun v => ih v (h v)
  | getObj r k ih => exact fun v => ih v (h v)
  | choose q k ih => exact fun v => ih v (h v)
  | program k ih => exact ih P h
  | halt x => exact h
  | _ => exact h.elim
theorem m_pure {α : Type} {a : α} : Mild P (pure a : Sem α) := trivial
theorem m_frozen {a : Addr} : Mild P (frozen a) := fun _ => trivial
theorem mild_holds {a : Addr} {n : Nat} : Mild P (Builtin.holdsCells a n) := by
  unfold Builtin.holdsCells
  refine mild_bind (fun s => trivial) fun s => ?_
  split <;> exact m_pure
theorem mild_mayShare {a b c : Nat} {d : Option Addr} {x : Value} : Mild P (Builtin.mayShare a b c d x) := by
  unfold Builtin.mayShare
  dsimp only
  repeat' (first | exact m_pure | exact mild_holds | exact m_frozen | refine mild_bind ?_ (fun _ => ?_) | split)
theorem t_noShare {a b c : Nat} {d : Option Addr} {x : Value} {u : Unsupported} {α : Type} {φ : α → Prop} : Tame P φ (Builtin.mayShare a b c d x >>= fun s => (if (!s) = true then mark .noRoom >>= fun _ => (unsupported u : Sem α) else unsupported u)) := by
  refine mild_tame mild_mayShare (fun s => ?_) fun s => ?_
  · split
    · exact ⟨trivial, trivial⟩
    · trivial
  · split <;> trivial
theorem t_append {ts : Array TypeId} {t : TypeId} {as : Array Value} : TT P (Builtin.append_ ts t as) := by
  unfold Builtin.append_
  repeat' (first | with_reducible exact t_pure' | with_reducible exact t_noShare | with_reducible exact t_lenOf | with_reducible exact t_firstCells | with_reducible exact t_slice | with_reducible exact t_sliceBounds | with_reducible exact t_sliceBound | with_reducible exact t_complexOp | with_reducible exact t_cQuot | with_reducible exact t_cProd | with_reducible exact t_cCorr | with_reducible exact t_cConv | with_reducible exact t_cAdd | with_reducible exact t_cSub | with_reducible exact t_cMul | with_reducible exact t_cQuo | with_reducible exact t_cArith | with_reducible exact t_cCmp | with_reducible exact t_f2f | with_reducible exact t_intArith | with_reducible exact t_intDiv | with_reducible exact t_intBits | with_reducible exact t_intCmp | with_reducible exact t_shift | with_reducible exact t_floatArith | with_reducible exact t_floatCmp | with_reducible exact t_stringOp | with_reducible exact t_movedNumber | with_reducible exact t_movedPointer | with_reducible exact t_addrSub | with_reducible exact t_addrCmp | with_reducible exact t_addrMod | with_reducible exact t_asNumber | with_reducible exact t_unsafeAdd | with_reducible exact t_twoPlaces | with_reducible exact t_rtp_b | with_reducible exact t_typeInfo | with_reducible exact t_underlying | with_reducible exact t_zeroValue | with_reducible exact t_sizeOf | with_reducible exact t_isAgg | with_reducible exact t_loadCells | with_reducible exact t_storeCells | with_reducible exact t_loadVar | with_reducible exact t_storeVar | with_reducible exact t_newRow | with_reducible exact t_newVar | with_reducible exact t_part | with_reducible exact t_elemOf | with_reducible exact t_runtimePanic | with_reducible exact t_boundsPanic | with_reducible exact t_asIntOf | with_reducible exact t_asInt | with_reducible exact t_asBool | with_reducible exact t_asAddr | with_reducible exact t_askRoom | with_reducible exact t_sureAddr | with_reducible exact t_viewAt | with_reducible exact t_numberAt | with_reducible exact t_behind | with_reducible exact t_noView | with_reducible exact t_byteOf | with_reducible exact t_partAt | with_reducible exact t_fieldPlace | with_reducible exact t_stuck | with_reducible exact t_unsup | with_reducible exact t_gopanic | with_reducible exact t_load | with_reducible exact t_store | with_reducible exact t_new | with_reducible exact t_choose | with_reducible exact t_getObj | with_reducible exact t_frozen | with_reducible exact t_program | with_reducible exact t_noRoom | with_reducible exact t_extern | with_reducible exact t_unsup_b | with_reducible exact t_stuck_b | with_reducible refine t_bind ?_ (fun _ => ?_) | with_reducible refine t_map ?_ | with_reducible refine t_ite ?_ ?_ | split | dsimp only)
theorem t_followBlind : ∀ {l : List FieldStep} {t : TypeId} {x : Option Value}, TT P (followBlind l t x)
  | [], t, x => t_pure'
  | s :: l, t, x => by
    unfold followBlind
    refine t_bind t_underlying fun _ => ?_
    split
    · split
      · split <;> first | exact t_pure' | exact t_stuck | exact t_followBlind | exact t_bind t_part fun _ => t_followBlind
      · exact t_stuck
    · exact t_stuck
theorem t_nilAhead : ∀ {n : Nat} {t : TypeId} {v : Value} {s : String}, TT P (nilAhead n t v s)
  | 0, t, v, s => t_pure'
  | n + 1, t, v, s => by
    unfold nilAhead
    refine t_bind t_typeInfo fun _ => ?_
    split
    · refine t_bind t_followBlind fun _ => ?_
      split
      · exact t_pure'
      · split <;> first | exact t_pure' | exact t_stuck | exact t_nilAhead | skip
        refine t_bind t_underlying fun _ => ?_
        split <;> exact t_pure'
    · exact t_stuck

/-! ### the check -/
def opOk (P : Program) (fs : List FuncId) (o : Oper) : Bool :=
  match o.op with
  | .move _ | .assign _ | .pick _ _ _ | .alloc _ | .box _ _ | .buildSlice _ _ _ | .load _ _ | .store _ _ _ | .nilCheck _ | .unOp _ _ _ | .makeFunc _ _ _ | .makeSlice _ _ _ | .slice _ _ _ _ _ | .fieldAddr _ _ _ | .indexAddr _ _ _ | .index _ _ _ | .extract _ _ => true
  | .build t _ => match P.underlying t with | some (.array _ _) => true | _ => false
  | .binOp _ t _ _ _ => flatT P t
  | .convert s d _ => flatT P s && (match P.underlying d with | some (.int _) => true | _ => false)
  | .call c => match c.callee with
    | .builtin b => match b with | .len | .append | .copy | .min => true | _ => false
    | .value (.func f) => fs.contains f
    | _ => false
  | _ => false
def codeOk (P : Program) (fs : List FuncId) : Code → Bool
  | .skip | .label _ | .ret | .exit _ | .refuse _ => true
  | .region _ ops _ => ops.all (opOk P fs)
  | .seq a b | .cond _ a b => codeOk P fs a && codeOk P fs b
  | .block _ c | .loop c => codeOk P fs c
  | _ => false
def resOk (fn : Func) : Bool := fn.results.all fun | .tmp _ => true | _ => false
def fnOk (P : Program) (fs : List FuncId) (f : FuncId) : Bool :=
  match P.funcs[f]? with
  | some fn => !(fn.name == "runtime.NumGoroutine") && (match fn.body with | some c => codeOk P fs c && resOk fn | none => false)
  | none => false
theorem res_of {fn : Func} (h : resOk fn = true) (tmps : Array Value) : ∃ x, results fn tmps = .pure x := by
  have key : ∀ (f : ResultVar → Sem Value), (∀ t, f (.tmp t) = .pure (tmps.getD t undef)) → ∀ l : List ResultVar, (∀ r ∈ l, ∃ t, r = .tmp t) → ∃ vs, l.mapM f = .pure vs := by
    intro f hf l hl
    induction l with
    | nil => exact ⟨[], by rw [List.mapM_nil]; rfl⟩
    | cons r l ih =>
      obtain ⟨t, rfl⟩ := hl r List.mem_cons_self
      obtain ⟨vs, hvs⟩ := ih fun r hr => hl r (List.mem_cons_of_mem _ hr)
      exact ⟨tmps.getD t undef :: vs, by rw [List.mapM_cons, hvs, hf]; rfl⟩
  unfold results
  rw [Array.mapM_eq_mapM_toList]
  have hl : ∀ r ∈ fn.results.toList, ∃ t, r = .tmp t := fun r hr => by
    have := (Array.all_eq_true'.1 h) r (by simpa using hr)
    cases r with
    | tmp t => exact ⟨t, rfl⟩
    | cell a t => cases this
  generalize hf : (fun x : ResultVar => _) = f
  obtain ⟨vs, hvs⟩ := key f (fun t => by rw [← hf]; rfl) _ hl
  rw [hvs]
  exact ⟨_, rfl⟩
theorem op_of {fs : List FuncId} (hfs : ∀ f ∈ fs, fnOk P fs f = true) {o : Oper} (h : opOk P fs o = true) : OpT P (· ∈ fs) o := by
  have hv : ∀ {s : Sem Value}, TT P s → Tame P (NextOk (· ∈ fs)) (s >>= fun x => pure (.value x)) := fun hs => t_bind hs fun _ => trivial
  have hu : ∀ {s : Sem Unit}, TT P s → Tame P (NextOk (· ∈ fs)) (s >>= fun x => pure .skip) := fun hs => t_bind hs fun _ => trivial
  refine ⟨fun c e => (by rw [opOk, e] at h; cases h), fun fr => ?_⟩
  unfold opOk at h
  unfold execOp
  dsimp only
  cases ho : o.op <;> rw [ho] at h <;> dsimp only at h ⊢ <;> first | (cases h; done) | trivial | skip
  case pick c a b => exact t_bind t_asBool fun _ => trivial
  case alloc => exact hv t_alloc
  case box => exact hv t_box
  case build => exact hv (t_build h)
  case buildSlice => exact hv t_buildSlice
  case load => exact hv t_loadAt
  case store => exact hu t_storeAt
  case nilCheck x =>
    split <;> first | exact t_runtimePanic | trivial | skip
    split <;> first | exact t_runtimePanic | trivial | skip
    refine t_bind t_program fun _ => t_bind t_nilAhead fun _ => ?_
    split
    · exact t_unsup_b
    · trivial
  case unOp => exact hv t_unary
  case binOp => exact hv (t_bind (t_eqGuard h) fun _ => t_binOp h)
  case convert s d x =>
    simp only [Bool.and_eq_true] at h
    cases hd : P.underlying d with
    | none => rw [hd] at h; cases h.2
    | some u =>
      cases u <;> first | (rw [hd] at h; cases h.2; done) | exact hv (t_convert h.1 hd)
  case makeSlice => exact hv t_makeSlice
  case slice => exact hv t_sliceAt
  case fieldAddr => exact hv t_fieldAt
  case indexAddr => exact hv t_indexAt
  case index => exact hv t_index
  case extract => exact hv t_extract
  case call c =>
    cases hc : c.callee with
    | builtin b =>
      rw [hc] at h
      unfold resolve
      rw [hc]
      cases b <;> first | (cases h; done) | skip
      · exact hv t_append
      · exact hv t_copy
      · exact hv t_len
      · exact hv t_min
    | invoke r n => rw [hc] at h; cases h
    | value v =>
      rw [hc] at h
      cases v <;> first | (cases h; done) | skip
      rename_i f
      have hf : f ∈ fs := by simpa using h
      have h2 := hfs f hf
      unfold resolve
      rw [hc]
      show Tame P (NextOk (· ∈ fs)) (match P.funcs[f]? with | none => _ | some fn => _)
      unfold fnOk at h2
      cases hfn : P.funcs[f]? with
      | none => rw [hfn] at h2; cases h2
      | some fn =>
        rw [hfn] at h2
        simp only [Bool.and_eq_true, Bool.not_eq_true'] at h2
        dsimp only
        rw [h2.1]
        cases hb : fn.body with
        | none => rw [hb] at h2; cases h2.2
        | some b => exact hf
theorem code_of {fs : List FuncId} (hfs : ∀ f ∈ fs, fnOk P fs f = true) : ∀ {c : Code}, codeOk P fs c = true → CodeT P (· ∈ fs) c
  | .skip, _ | .label _, _ | .ret, _ | .exit _, _ | .refuse _, _ => trivial
  | .region _ ops _, h => fun o ho => op_of hfs (Array.all_eq_true'.1 h o ho)
  | .seq a b, h => by
    simp only [codeOk, Bool.and_eq_true] at h
    exact ⟨code_of hfs h.1, code_of hfs h.2⟩
  | .cond _ a b, h => by
    simp only [codeOk, Bool.and_eq_true] at h
    exact ⟨code_of hfs h.1, code_of hfs h.2⟩
  | .block _ c, h => code_of (c := c) hfs h
  | .loop c, h => code_of (c := c) hfs h
  | .rangeFunc _ _ _ _, h => by cases h
  | .scope _, h => by cases h
  | .goto _, h => by cases h
theorem fns_of {fs : List FuncId} (hfs : (fs.all (fnOk P fs)) = true) (h1 : P.follows .staticDataAhead = true) (h2 : ∀ g, P.stepOf g = none) : Fns P (· ∈ fs) := by
  have hall : ∀ f ∈ fs, fnOk P fs f = true := fun f hf => List.all_eq_true.1 hfs f hf
  refine ⟨fun f hf => ?_, h1, h2⟩
  have h := hall f hf
  unfold fnOk at h
  cases hfn : P.funcs[f]? with
  | none => rw [hfn] at h; cases h
  | some fn =>
    rw [hfn] at h
    simp only [Bool.and_eq_true] at h
    cases hb : fn.body with
    | none => rw [hb] at h; cases h.2
    | some c =>
      rw [hb] at h
      simp only [Bool.and_eq_true] at h
      exact ⟨fn, c, rfl, hb, code_of hall h.2.1, res_of h.2.2⟩
end Go.Proofs.Ytadngncbbbbapaa.Lift
