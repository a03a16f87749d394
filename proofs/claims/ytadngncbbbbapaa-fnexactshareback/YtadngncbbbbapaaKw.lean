/-
  Code in company: what it does, whatever frame it stands in and whatever comes behind it.
-/
import Derived.Test.YtadngncbbbbapaaSegs
import Derived.Test.YtadngncbbbbapaaKend
import Derived.Test.YtadngncbbbbapaaBlw
namespace Go.Proofs.Ytadngncbbbbapaa.Lift
open Go.Conc Go.Proofs.Ytadngncbbbbapaa.Crew
set_option linter.unusedVariables false
set_option linter.unusedSectionVars false
set_option linter.unusedSimpArgs false
variable {P : Program} {B : Nat} {T : FuncId → Prop} {v : World} {fn : FuncId} {tmps : Array Value} {Q Q' : Exit → Act → World → Prop}
/-- What comes behind a piece of code. -/
def Cont (P : Program) (B : Nat) (b : Frame) (k : List Item) (cs : List Frame) (QQ : Goroutine → World → Prop) (e : Exit) (a : Act) (w : World) : Prop :=
  a.defers = [] ∧ match e with
    | .normal => K P B (G (b.at a k) cs) w QQ
    | .exit id => ∃ k', exitTo id k = some k' ∧ K P B (G (b.at a k') cs) w QQ
    | .ret => ∀ todo, K P B (G (rf b a.tmps todo) cs) w QQ
    | _ => False
def KW (P : Program) (B : Nat) (fn : FuncId) (c : Code) (Q : Exit → Act → World → Prop) (tmps : Array Value) (v : World) : Prop :=
  ∀ (b : Frame) (k : List Item) (cs : List Frame) (QQ : Goroutine → World → Prop), b.fn = fn → b.kind = .normal → (∀ e a w, Q e a w → Cont P B b k cs QQ e a w) → K P B (G (b.at ⟨tmps, []⟩ (.code c :: k)) cs) v QQ
theorem act_eq {a : Act} (h : a.defers = []) : a = ⟨a.tmps, []⟩ := by
  obtain ⟨t, d⟩ := a
  simp only at h
  subst h
  rfl
theorem KW.mono {c : Code} (h : KW P B fn c Q tmps v) (hq : ∀ e a w, Q e a w → Q' e a w) : KW P B fn c Q' tmps v := fun b k cs QQ h1 h2 h3 => h b k cs QQ h1 h2 fun e a w hx => h3 e a w (hq e a w hx)
theorem KW.unre {c : Code} {τ : Nat → Question → Nat} {d : Nat} (h : KW P B fn c Q tmps v) : KW P B fn c Q tmps (Lift.re v τ d) := fun b k cs QQ h1 h2 h3 => K.unre (h b k cs QQ h1 h2 h3)
theorem KW.skip (h : Q .normal ⟨tmps, []⟩ v) : KW P B fn .skip Q tmps v := fun b k cs QQ h1 h2 h3 => K.skip (h3 _ _ _ h).2
theorem KW.label {l : Nat} (h : Q .normal ⟨tmps, []⟩ v) : KW P B fn (.label l) Q tmps v := fun b k cs QQ h1 h2 h3 => K.label (h3 _ _ _ h).2
theorem KW.ret (h : Q .ret ⟨tmps, []⟩ v) : KW P B fn .ret Q tmps v := fun b k cs QQ h1 h2 h3 => K.ret ((h3 _ _ _ h).2 _)
theorem KW.exit {id : Nat} (h : Q (.exit id) ⟨tmps, []⟩ v) : KW P B fn (.exit id) Q tmps v := fun b k cs QQ h1 h2 h3 => let ⟨k', he, hk⟩ := (h3 _ _ _ h).2; K.exit he hk
theorem KW.cond {c : Operand} {x y : Code} (t : Bool) (hc : Act.eval ⟨tmps, []⟩ c = .bool t) (h : KW P B fn (if t then x else y) Q tmps v) : KW P B fn (.cond c x y) Q tmps v := fun b k cs QQ h1 h2 h3 => K.cond t hc (h b k cs QQ h1 h2 h3)
/-- What is asked behind the first of two. -/
def ThenK (P : Program) (B : Nat) (fn : FuncId) (y : Code) (Q : Exit → Act → World → Prop) (e : Exit) (a : Act) (w : World) : Prop :=
  a.defers = [] ∧ match e with
    | .normal => KW P B fn y Q a.tmps w
    | e => Q e a w
theorem KW.seq {x y : Code} (h : KW P B fn x (ThenK P B fn y Q) tmps v) : KW P B fn (.seq x y) Q tmps v := fun b k cs QQ h1 h2 h3 => by
  refine K.seq (h b (.code y :: k) cs QQ h1 h2 fun e a w ⟨hd, hx⟩ => ⟨hd, ?_⟩)
  cases e with
  | normal =>
    have := hx b k cs QQ h1 h2 h3
    rw [act_eq hd]
    exact this
  | exit id => exact (h3 _ _ _ hx).2
  | ret => exact (h3 _ _ _ hx).2
  | _ => exact (h3 _ _ _ hx).2
/-- What is asked inside a block. -/
def InB (id : Nat) (Q : Exit → Act → World → Prop) (e : Exit) (a : Act) (w : World) : Prop :=
  match e with
    | .exit j => if id = j then Q .normal a w else Q (.exit j) a w
    | e => Q e a w
theorem KW.block {id : Nat} {x : Code} (h : KW P B fn x (InB id Q) tmps v) : KW P B fn (.block id x) Q tmps v := fun b k cs QQ h1 h2 h3 => by
  refine K.block (h b (.inBlock id :: k) cs QQ h1 h2 fun e a w hx => ?_)
  cases e with
  | normal =>
    have := h3 _ _ _ hx
    refine ⟨this.1, ?_⟩
    rw [act_eq this.1]
    refine K.blockEnd ?_
    rw [← act_eq this.1]
    exact this.2
  | exit j =>
    simp only [InB] at hx
    by_cases hj : id = j
    · rw [if_pos hj] at hx
      have := h3 _ _ _ hx
      exact ⟨this.1, k, by simp [exitTo, hj], this.2⟩
    · rw [if_neg hj] at hx
      obtain ⟨hd, k', he, hk⟩ := h3 _ _ _ hx
      exact ⟨hd, k', by simp only [exitTo]; rw [if_neg (by simpa using hj)]; exact he, hk⟩
  | ret => exact h3 _ _ _ hx
  | _ => exact h3 _ _ _ hx
/-- What is asked behind a round: it goes on with less. -/
def Round (n : Nat) (I : Nat → Array Value → World → Prop) (Q : Exit → Act → World → Prop) (e : Exit) (a : Act) (w : World) : Prop :=
  a.defers = [] ∧ match e with
    | .normal => ∃ m, m < n ∧ I m a.tmps w
    | e => Q e a w
theorem KW.loop {x : Code} (I : Nat → Array Value → World → Prop) (n : Nat) (h0 : I n tmps v) (h : ∀ n tmps v, I n tmps v → KW P B fn x (Round n I Q) tmps v) : KW P B fn (.loop x) Q tmps v := fun b k cs QQ h1 h2 h3 => by
  refine K.loop ?_
  induction n using Nat.strongRecOn generalizing tmps v with
  | _ n ih =>
    refine h n tmps v h0 b (.inLoop x :: k) cs QQ h1 h2 fun e a w ⟨hd, hx⟩ => ⟨hd, ?_⟩
    cases e with
    | normal =>
      obtain ⟨m, hm, hI⟩ := hx
      show K P B (G (b.at a (.inLoop x :: k)) cs) w QQ
      rw [act_eq hd]
      exact K.round (ih m hm hI)
    | exit id => exact (h3 _ _ _ hx).2
    | ret => exact (h3 _ _ _ hx).2
    | _ => exact (h3 _ _ _ hx).2
/-- What is asked behind tame code: it comes through, or returns. -/
def Out (Q : Exit → Act → World → Prop) (e : Exit) (a : Act) (w : World) : Prop := (e = .normal ∧ a.defers = [] ∧ Q .normal a w) ∨ (e = .ret ∧ a.defers = [] ∧ Q .ret a w)
theorem KW.tame (hF : Fns P T) (hres : ResOk P fn) {c : Code} (hc : CodeT P T c) (hw : ∀ τ, c.wp P (Out Q) ⟨tmps, []⟩ (Lift.re v τ 0)) : KW P B fn c Q tmps v := fun b k cs QQ h1 h2 h3 => by
  subst h1
  refine K.seg hF h2 hres hc fun τ => wp_mono (hw τ) fun e a w hx => ?_
  rcases hx with ⟨rfl, hd, hx⟩ | ⟨rfl, hd, hx⟩
  · exact .inl ⟨rfl, hd, (h3 _ _ _ hx).2⟩
  · exact .inr ⟨rfl, hd, fun pre => (h3 _ _ _ hx).2 _⟩
/-- What is asked behind some tame statements: the rest, or it returns. -/
def OutK (P : Program) (B : Nat) (fn : FuncId) (y : Code) (Q : Exit → Act → World → Prop) (e : Exit) (a : Act) (w : World) : Prop := (e = .normal ∧ a.defers = [] ∧ KW P B fn y Q a.tmps w) ∨ (e = .ret ∧ a.defers = [] ∧ Q .ret a w)
theorem KW.group (hF : Fns P T) (hres : ResOk P fn) {c rest : Code} {l : List Code} (hc : ∀ x ∈ c :: l, CodeT P T x) (hw : ∀ τ, (spine1 c l).wp P (OutK P B fn rest Q) ⟨tmps, []⟩ (Lift.re v τ 0)) : KW P B fn (spine (c :: l) rest) Q tmps v := fun b k cs QQ h1 h2 h3 => by
  subst h1
  refine K.segs hF h2 hres hc fun τ => wp_mono (hw τ) fun e a w hx => ?_
  rcases hx with ⟨rfl, hd, hx⟩ | ⟨rfl, hd, hx⟩
  · refine .inl ⟨rfl, hd, ?_⟩
    rw [act_eq hd]
    exact hx b k cs QQ rfl h2 h3
  · exact .inr ⟨rfl, hd, (h3 _ _ _ hx).2⟩
theorem wpOps_list {ops : Array Oper} {Q : Exit → Act → World → Prop} : ∀ (l : List Nat) (m : List Oper), l.map (fun i => ops[i]?) = m.map some → wpOps P ops Q l = wpList P ops Q m
  | [], [], _ => by funext a w; simp [wpOps, wpList]
  | [], _ :: _, h => by simp at h
  | _ :: _, [], h => by simp at h
  | i :: l, o :: m, h => by
    simp only [List.map_cons, List.cons.injEq] at h
    have ih := wpOps_list (Q := Q) l m h.2
    funext a w
    simp only [wpOps, h.1, wpList, ih]
theorem range_parts (m1 m2 : List Oper) (o : Oper) : List.range (m1 ++ o :: m2).toArray.size = List.range m1.length ++ (m1.length :: List.range' (m1.length + 1) m2.length) := by
  rw [List.range_eq_range', List.range_eq_range', ← List.range'_succ]
  have := List.range'_append_1 (s := 0) (m := m1.length) (n := m2.length + 1)
  rw [Nat.zero_add] at this
  rw [this]
  simp
theorem get_left (m1 m2 : List Oper) : (List.range m1.length).map (fun i => (m1 ++ m2).toArray[i]?) = m1.map some := by
  refine List.ext_getElem? fun i => ?_
  simp only [List.getElem?_map, List.getElem?_toArray]
  by_cases h : i < m1.length
  · rw [List.getElem?_range h, List.getElem?_eq_getElem h]; simp [List.getElem?_append_left h, h]
  · rw [List.getElem?_eq_none (by simp; omega), List.getElem?_eq_none (by omega)]; rfl
theorem get_right (m1 m2 : List Oper) : (List.range' m1.length m2.length).map (fun i => (m1 ++ m2).toArray[i]?) = m2.map some := by
  refine List.ext_getElem? fun i => ?_
  simp only [List.getElem?_map, List.getElem?_toArray]
  by_cases h : i < m2.length
  · rw [List.getElem?_range' h, List.getElem?_eq_getElem h]; simp [List.getElem?_append_right, h]
  · rw [List.getElem?_eq_none (by simp; omega), List.getElem?_eq_none (by omega)]; rfl
theorem upon_mono {o : Oper} {a : Act} {next next' : Act → World → Prop} {r : Result Next} (hn : ∀ a w, next a w → next' a w) (hq : ∀ e a w, Q e a w → Q' e a w) (h : o.upon P a next Q r) : o.upon P a next' Q' r := by
  have lo : LetsOut Q → LetsOut Q' := fun ⟨a, w, h⟩ => ⟨a, w, hq _ _ _ h⟩
  unfold Oper.upon at h ⊢
  split at h
  · exact hn _ _ h
  · exact hn _ _ h
  · exact hn _ _ h
  · refine Calls.mono h fun e w' hx => ?_
    cases e with
    | returned v => exact hn _ _ hx
    | panicked c => exact hq _ _ _ hx
    | outgrown => exact lo hx
  · exact fun c cs => let ⟨v, w', r, s⟩ := h c cs; ⟨v, w', hn _ _ r, s⟩
  · exact hq _ _ _ h
  · exact h.elim
theorem wpList_mono {ops : Array Oper} : ∀ {l : List Oper} {a : Act} {w : World}, wpList P ops Q l a w → (∀ e a w, Q e a w → Q' e a w) → wpList P ops Q' l a w
  | [], a, w, h, hq => hq _ _ _ h
  | o :: l, a, w, h, hq => by
    simp only [wpList] at h ⊢
    split at h
    · rename_i hw
      rw [if_pos hw]
      rcases h with h | ⟨h1, h2⟩
      · exact .inl (upon_mono (fun a w hx => wpList_mono hx hq) hq h)
      · exact .inr ⟨h1, let ⟨a, w, h⟩ := h2; ⟨a, w, hq _ _ _ h⟩⟩
    · rename_i hw
      rw [if_neg hw]
      exact wpList_mono h hq
/-- A statement with a call of a function that starts others. -/
theorem KW.call (hF : Fns P T) {id : Nat} {m1 m2 : List Oper} {o : Oper} {z : Code} (ok1 : ∀ x ∈ m1, OpT P T x) (ok2 : ∀ x ∈ m2, OpT P T x) {f : FuncId} {args : Act → Array Value} (hwant : ∀ ys, Region.wanted o ys = true)
    (he : ∀ tm w, (execOp (Act.eval ⟨tm, []⟩) o).runT P w #[] = (.ok (.enter f (args ⟨tm, []⟩)) w, #[]))
    (hw : ∀ τ, wpList P (m1 ++ o :: m2).toArray (fun e a w => e = .normal ∧ a.defers = [] ∧ KCalls P B f (args a) w fun r w2 => ∀ τ', wpList P (m1 ++ o :: m2).toArray (fun e a w => e = .normal ∧ a.defers = [] ∧ KW P B fn z Q a.tmps w) m2 (a.put o.dst r) (Lift.re w2 τ' 0)) m1 ⟨tmps, []⟩ (Lift.re v τ 0)) :
    KW P B fn (.seq (.region id (m1 ++ o :: m2).toArray false) z) Q tmps v := fun b k cs QQ h1 h2 h3 => by
  refine K.seq (K.region ?_)
  rw [range_parts]
  have oki : ∀ (l : List Nat) (m : List Oper), l.map (fun i => (m1 ++ o :: m2).toArray[i]?) = m.map some → (∀ x ∈ m, OpT P T x) → OkI P T (m1 ++ o :: m2).toArray l := by
    intro l m hl hm i hi x hx
    have : (m1 ++ o :: m2).toArray[i]? ∈ m.map some := by rw [← hl]; exact List.mem_map_of_mem hi
    rw [hx] at this
    obtain ⟨y, hy, e⟩ := List.mem_map.1 this
    injection e with e
    exact e ▸ hm y hy
  have e1 := get_left m1 (o :: m2)
  have e2 : (List.range' (m1.length + 1) m2.length).map (fun i => (m1 ++ o :: m2).toArray[i]?) = m2.map some := by
    have := get_right (m1 ++ [o]) m2
    simpa using this
  refine K.begin hF h2 (oki _ _ e1 ok1) fun τ => ?_
  rw [wpOps_list _ _ e1]
  refine wpList_mono (hw τ) fun e a w hx => ?_
  obtain ⟨rfl, hd, hk⟩ := hx
  refine ⟨rfl, hd, ?_⟩
  rw [act_eq hd]
  have ho : (m1 ++ o :: m2).toArray[m1.length]? = some o := by simp
  refine K.call h2 ho (hwant _) (he a.tmps) (by rw [← act_eq hd]; exact hk) fun x v' hx' => ?_
  have hput : (Act.put ⟨a.tmps, []⟩ o.dst x) = ⟨(Act.put ⟨a.tmps, []⟩ o.dst x).tmps, []⟩ := by cases o.dst <;> rfl
  rw [hput]
  have := K.begin (Q := QQ) (B := B) (b := b) (rest := []) (k := .code z :: k) (cs := cs) (v := v') hF h2 (oki _ _ e2 ok2) (tmps := (Act.put ⟨a.tmps, []⟩ o.dst x).tmps) fun τ' => ?_
  · rw [List.append_nil] at this
    exact this
  rw [wpOps_list _ _ e2]
  have h6 := hx' τ'
  rw [act_eq hd, hput] at h6
  refine wpList_mono h6 fun e a w hx => ?_
  obtain ⟨rfl, hd, hk⟩ := hx
  refine ⟨rfl, hd, ?_⟩
  rw [act_eq hd]
  exact K.regionEnd (hk b k cs QQ h1 h2 h3)
/-- What is asked where a function's body is left. -/
def RetOf (P : Program) (f : FuncId) (R : Value → World → Prop) (e : Exit) (a : Act) (w : World) : Prop := (e = .normal ∨ e = .ret) ∧ a.defers = [] ∧ ∃ fd x, P.funcs[f]? = some fd ∧ results fd a.tmps = .pure x ∧ R x w
/-- A function by its body. -/
theorem KCalls.of_kw {f : FuncId} {fd : Func} {code : Code} {args : Array Value} (hfn : P.funcs[f]? = some fd) (hbody : fd.body = some code) {R : Value → World → Prop}
    (h : KW P B f code (RetOf P f R) (args ++ Array.replicate (fd.ntmps - args.size) undef) v) : KCalls P B f args v R := by
  refine KCalls.body hfn hbody fun c cs Q hq => ?_
  refine h _ [] (c :: cs) Q (by simp [Frame.enter]) (by simp [Frame.enter]) fun e a w hx => ?_
  obtain ⟨he, hd, fd', x, hfn', hres, hR⟩ := hx
  obtain rfl : fd = fd' := by rw [hfn] at hfn'; exact Option.some.inj hfn'
  have back : ∀ todo, K P B (G (rf (Frame.enter P f args .normal) a.tmps todo) (c :: cs)) w Q := fun todo => K.back (by simp [Frame.enter]) (by simpa [Frame.enter] using hfn) hres (hq x w hR)
  rcases he with rfl | rfl
  · refine ⟨hd, ?_⟩
    show K P B (G (Frame.at _ a []) (c :: cs)) w Q
    rw [act_eq hd]
    exact K.fall (back _)
  · exact ⟨hd, back⟩
/-- A law by its body. -/
theorem KW.law {f : FuncId} {fd : Func} {code : Code} {args : Array Value} {W : World} {ans : Value} (hfn : P.funcs[f]? = some fd) (hbody : fd.body = some code) (hin : P.inits.idxOf? f = none)
    (h : KW P W.heap.size f code (RetOf P f fun x w => x = ans ∧ Blw W.heap.size W w) (args ++ Array.replicate (fd.ntmps - args.size) undef) W) :
    K P W.heap.size (G (Frame.enter P f args .normal) []) W (AtRet P W.heap.size fun x w' => x = ans ∧ Blw W.heap.size W w') := by
  have e : Frame.enter P f args .normal = (Frame.enter P f args .normal).at ⟨args ++ Array.replicate (fd.ntmps - args.size) undef, []⟩ [.code code] := by
    simp [Frame.enter, Frame.at, hfn, hbody]
  rw [e]
  refine h _ [] [] _ (by simp [Frame.enter]) (by simp [Frame.enter]) fun e a w hx => ?_
  obtain ⟨he, hd, fd', x, hfn', hres, rfl, hR⟩ := hx
  obtain rfl : fd = fd' := by rw [hfn] at hfn'; exact Option.some.inj hfn'
  have back : ∀ todo, K P W.heap.size (G (rf (Frame.enter P f args .normal) a.tmps todo) []) w (AtRet P W.heap.size fun x' w' => x' = x ∧ Blw W.heap.size W w') := fun todo =>
    K.here ⟨_, _, _, fd, x, rfl, by simp [Frame.enter], by simpa [Frame.enter] using hfn, by simpa [Frame.enter] using hin, hres, fun S w' hS hs => ⟨rfl, hR.sim (Nat.le_refl _) hS hs⟩⟩
  rcases he with rfl | rfl
  · refine ⟨hd, ?_⟩
    show K P W.heap.size (G (Frame.at _ a []) []) w _
    rw [act_eq hd]
    exact K.fall (back _)
  · exact ⟨hd, back⟩
end Go.Proofs.Ytadngncbbbbapaa.Lift
