/-
  combine in company.
-/
import Derived.Test.YtlpfogkfjjbklacStar
import Derived.Test.YtlpfogkfjjbklacShno
import Derived.Test.YtlpfogkfjjbklacTfs
import Derived.Test.YtlpfogkfjjbklacKay
namespace Go.Proofs.Ytlpfogkfjjbklac.Lift
open Go.Conc Go.Proofs.Ytlpfogkfjjbklac.Crew Go.RowKit
open Go.Proofs.Ytlpfogkfjjbklac.Wgs (cf)
set_option linter.unusedVariables false
set_option linter.unusedSimpArgs false
noncomputable def cR0 : Code := match bodyC with | .seq x _ => x | _ => .skip
noncomputable def cT0 : Code := match bodyC with | .seq _ x => x | _ => .skip
noncomputable def cR1 : Code := match bodyC with | .seq _ (.seq x _) => x | _ => .skip
noncomputable def cT1 : Code := match bodyC with | .seq _ (.seq _ x) => x | _ => .skip
noncomputable def cR3 : Code := match bodyC with | .seq _ (.seq _ (.seq x _)) => x | _ => .skip
noncomputable def cT3 : Code := match bodyC with | .seq _ (.seq _ (.seq _ x)) => x | _ => .skip
theorem bC0 : bodyC = .seq cR0 cT0 := by kernel_rfl
theorem bC1 : cT0 = .seq cR1 cT1 := by kernel_rfl
theorem bC3 : cT1 = .seq cR3 cT3 := by kernel_rfl
theorem bC4 : cT3 = .seq (.region 4 ops4 false) aft4 := by kernel_rfl
theorem hasC : Try.f16.body = some bodyC := by kernel_rfl
theorem fs_all : ∀ f ∈ fs, fnOk Try.prog fs f = true := List.all_eq_true.1 fs_ok
theorem okR0 : CodeT Try.prog (· ∈ fs) cR0 := code_of fs_all (by kernel_rfl)
theorem okR1 : CodeT Try.prog (· ∈ fs) cR1 := code_of fs_all (by kernel_rfl)
theorem okR3 : CodeT Try.prog (· ∈ fs) cR3 := code_of fs_all (by kernel_rfl)
theorem okT14 : CodeT Try.prog (· ∈ fs) tl14 := code_of fs_all (by kernel_rfl)
theorem resC : ResOk Try.prog 16 := ⟨_, Try.func16, fun tmps => ⟨_, by simp [results, Try.f16]; rfl⟩⟩
theorem sl_re {v : World} {a : Option Addr} {n : Nat} {zs : List Int} (h : Sl v a n zs) (τ : Nat → Question → Nat) (d : Nat) : Sl (Lift.re v τ d) a n zs := ⟨h.len, h.at_⟩
theorem sl_blw {v w : World} {a : Option Addr} {n : Nat} {zs : List Int} (h : Sl v a n zs) (k : Blw v.heap.size v w) : Sl w a n zs := ⟨h.len, fun hn => by
  obtain ⟨b, off, h1, h2⟩ := h.at_ hn
  exact ⟨b, off, h1, fun i hi => by rw [World.cell?_of_block (w := v) (k.block b (cell_lt (h2 i hi)))]; exact h2 i hi⟩⟩
/-- A new slice, and a bool. -/
def NewI (zs : List Int) (t : Bool) (v : World) (x : Value) (v' : World) : Prop := ∃ a n cap, x = .tuple #[.slice a n cap, .bool t] ∧ Own v.heap.size v'.heap.size v' a n cap zs ∧ Blw v.heap.size v v'
def TSw (H : Hdr) (Wg fb : Nat) (u : Nat → Value) : Array Value := #[u 0, u 1, u 2, .pointer (some ⟨H.op, 0, none⟩), .pointer (some ⟨H.a, 0, none⟩), .pointer (some ⟨H.b, 0, none⟩), u 6, u 7, .pointer (some ⟨H.ou, 0, none⟩), .pointer (some ⟨Wg, 0, none⟩), .pointer (some ⟨fb, 0, none⟩), u 11, u 12, u 13, u 14, u 15, u 16, u 17, u 18, u 19, u 20, u 21, u 22, u 23, u 24, u 25, u 26, u 27, u 28, u 29, u 30, u 31, u 32, u 33, u 34, u 35, u 36, u 37, u 38, u 39, u 40, u 41, u 42, u 43, .tuple #[], u 45]
theorem endW (H : Hdr) (Wg fb : Nat) (u : Nat → Value) (cs : List Frame) : G ((cf (TS H Wg fb u) tdW).finish (.tuple #[])) cs = G ((base 16).at ⟨TSw H Wg fb u, []⟩ [.inRegion ops13 [], .code tl14]) cs := by kernel_rfl
theorem enterAt (args : Array Value) (a : Act) (td : List Item) : (Frame.enter Try.prog 16 args .normal).at a td = (base 16).at a td := by simp [Frame.at, Frame.enter, base]
theorem rng4 : List.range ops4.size = [0] := by kernel_rfl
section
variable {B : Nat} {v : World} {f : FuncId} {g : Int → Int → Int} {pa pb : Option Addr} {n m ca cb : Nat} {xs ys : List Int}
set_option maxRecDepth 100000 in
set_option maxHeartbeats 4000000 in
theorem combine_yes (hI : IsOp f g) (hB : B ≤ v.heap.size) (hx : Sl v pa n xs) (hy : Sl v pb n ys) (h1 : n ≤ ca) (h2 : n ≤ cb) (hfit : Fp.fit xs ys = true) :
    KCalls Try.prog B 16 #[.func (.func f) #[] #[], .slice pa n ca, .slice pb n cb] v (NewI (comb g xs ys) true v) := by
  refine KCalls.body Try.func16 hasC fun c cs Q hq => ?_
  have sx : Fp.sok xs = true := by simp only [Fp.fit, Bool.and_eq_true] at hfit; exact hfit.1.1
  have sy : Fp.sok ys = true := by simp only [Fp.fit, Bool.and_eq_true] at hfit; exact hfit.1.2
  rw [enterAt, bC0]
  refine K.seq (K.seg F rfl resC okR0 fun τ => ?_)
  simp only [cR0, bodyC, Try.f16, Option.getD_some, List.size_toArray, List.length_cons, List.length_nil, Nat.reduceAdd, Nat.reduceSub, Array.replicate_succ, Array.replicate_zero, List.push_toArray, List.append_toArray, List.nil_append, List.cons_append]
  go_wp2
  refine .inl ⟨rfl, rfl, ?_⟩
  refine K.unre (v := ((v.alloc (.cells #[.func (.func f) #[] #[]] 45)).alloc (.cells #[.slice pa n ca] 25)).alloc (.cells #[.slice pb n cb] 25)) (τ := τ) (d := 0) ?_
  obtain ⟨v3, hv3⟩ : ∃ v3, ((v.alloc (.cells #[.func (.func f) #[] #[]] 45)).alloc (.cells #[.slice pa n ca] 25)).alloc (.cells #[.slice pb n cb] 25) = v3 := ⟨_, rfl⟩
  rw [hv3]
  have sz3 : v3.heap.size = v.heap.size + 3 := by rw [← hv3]; simp
  have bl3 : Blw v.heap.size v v3 := by
    rw [← hv3]
    exact Blw.of ((((Below.refl v.heap.size v).alloc (Nat.le_refl _) _).alloc (by simp) _).alloc (by simp; omega) _)
  have c0 : v3.cell? ⟨v.heap.size, 0, none⟩ = some (.func (.func f) #[] #[]) := by rw [← hv3, World.cell?_alloc_lt _ _ _ (by simp; omega), World.cell?_alloc_lt _ _ _ (by simp), World.cell?_alloc_at _ _ _ _ rfl]; rfl
  have c1 : v3.cell? ⟨v.heap.size + 1, 0, none⟩ = some (.slice pa n ca) := by rw [← hv3, World.cell?_alloc_lt _ _ _ (by simp), World.cell?_alloc_at _ _ _ _ (by simp)]; rfl
  have c2 : v3.cell? ⟨v.heap.size + 1 + 1, 0, none⟩ = some (.slice pb n cb) := by rw [← hv3, World.cell?_alloc_at _ _ _ _ (by simp)]; rfl
  have x3 := sl_blw hx bl3
  have y3 := sl_blw hy bl3
  clear hv3
  rw [bC1]
  refine K.seq (K.seg F rfl resC okR1 fun τ' => ?_)
  simp only [cR1, bodyC, Try.f16, Option.getD_some]
  have d1 : (Lift.re v3 τ' 0).cell? ⟨v.heap.size + 1, 0, none⟩ = some (.slice pa n ca) := c1
  have d2 : (Lift.re v3 τ' 0).cell? ⟨v.heap.size + 1 + 1, 0, none⟩ = some (.slice pb n cb) := c2
  have kx : Calls Try.prog 21 #[.slice pa n ca] (Lift.re v3 τ' 0) fun e w' => e = .returned (.bool true) ∧ Lift.re v3 τ' 0 = w' := by
    have := impl_ShareOk pa n ca xs (Lift.re v3 τ' 0) (sl_re x3 _ _)
    rwa [sx] at this
  have ky : Calls Try.prog 21 #[.slice pb n cb] (Lift.re v3 τ' 0) fun e w' => e = .returned (.bool true) ∧ Lift.re v3 τ' 0 = w' := by
    have := impl_ShareOk pb n cb ys (Lift.re v3 τ' 0) (sl_re y3 _ _)
    rwa [sy] at this
  have KX := Lib.hid kx
  have KY := Lib.hid ky
  clear kx ky
  go_wp2_with (first | (go_at_call 21; (with_reducible refine KX.out.mono ?_); rintro e w' ⟨rfl, rfl⟩) | (go_at_call 21; (with_reducible refine KY.out.mono ?_); rintro e w' ⟨rfl, rfl⟩))
  clear KX KY d1 d2
  refine .inl ⟨rfl, rfl, K.unre ?_⟩
  obtain ⟨i0, hi0, hz0, hz1, hz2⟩ := info_parts int_inf
  have hn20 : n ≤ 20 := by have := Fp.sok_len sx; rw [hx.len] at this; exact this
  have I := Lib.hid (show i0.bytes * n ≤ 281474976710656 by rw [hz2]; omega)
  have M : n ≤ maxLen := by unfold maxLen; omega
  rw [bC3]
  refine K.seq (K.seg F rfl resC okR3 fun τ2 => ?_)
  simp only [cR3, bodyC, Try.f16, Option.getD_some]
  have d1 : (Lift.re v3 τ2 0).cell? ⟨v.heap.size + 1, 0, none⟩ = some (.slice pa n ca) := c1
  go_wp2_with ((with_reducible refine wpList_make_full _ rfl (.tmp 28) (.tmp 28) 25 rfl v3.heap.size 3 i0 _ 1 Try.underlying25 hi0 hz0 hz1 .i64 .i64 _ _ n rfl rfl rfl rfl I.out M (Nat.le_refl _) ?_); intro w1 own grow)
  obtain ⟨cur, hcur, hcs⟩ : ∃ cur, w1.heap[v.heap.size + 3]? = some (.cells cur 3 (0, 0)) ∧ cur.size = n := by
    rcases own.2 with ⟨h, _⟩ | ⟨gg, cap', cur, hv, _, hh, _, _, hx', _⟩
    · cases h
    · injection hv with h4 _ h6
      injection h4 with h4
      injection h4 with h4
      have e4 : gg = v.heap.size + 3 := by rw [← h4, ← sz3]; rfl
      subst e4
      exact ⟨cur, hh, by rw [h6]; simpa using hx'⟩
  have hold : ∀ b, b < v3.heap.size → w1.heap[b]? = v3.heap[b]? := fun b hb => grow.block b hb (by simp)
  have hw1 : v.heap.size + 3 < w1.heap.size := (Array.getElem?_eq_some_iff.1 hcur).1
  have gos : w1.os = v3.os := grow.os
  have gout : w1.output = v3.output := grow.output
  clear own grow d1
  obtain ⟨v5, hv5⟩ : ∃ v5, w1.alloc (.cells #[.slice (some ⟨v.heap.size + 3, 0, none⟩) n n] 25) = v5 := ⟨_, rfl⟩
  rw [hv5]
  have sz5 : v5.heap.size = w1.heap.size + 1 := by rw [← hv5]; simp
  have old5 : ∀ b, b < w1.heap.size → v5.heap[b]? = w1.heap[b]? := fun b hb => by rw [← hv5]; exact Below.heap_alloc _ _ _ hb
  have cou : v5.cell? ⟨w1.heap.size, 0, none⟩ = some (.slice (some ⟨v.heap.size + 3, 0, none⟩) n n) := by rw [← hv5, World.cell?_alloc_at _ _ _ _ rfl]; rfl
  have os5 : v5.os = v.os := by rw [← hv5]; exact gos.trans bl3.os
  have out5 : v5.output = v.output := by rw [← hv5]; exact gout.trans bl3.output
  clear hv5
  have low5 : ∀ b, b < v.heap.size + 3 → v5.heap[b]? = v3.heap[b]? := fun b hb => (old5 b (by omega)).trans (hold b (by omega))
  obtain ⟨ab, ao, hpa, hxa⟩ : ∃ ab ao, (0 < n → pa = some ⟨ab, ao, none⟩) ∧ ∀ t, t < n → v.cell? ⟨ab, ao + t, none⟩ = some (.int .i64 (xs.getD t 0)) := by
    rcases Nat.eq_zero_or_pos n with h0 | h0
    · exact ⟨0, 0, fun h => by omega, fun t h => by omega⟩
    · obtain ⟨b, off, e1, e2⟩ := hx.at_ h0
      exact ⟨b, off, fun _ => e1, e2⟩
  obtain ⟨bb, bo, hpb, hyb⟩ : ∃ bb bo, (0 < n → pb = some ⟨bb, bo, none⟩) ∧ ∀ t, t < n → v.cell? ⟨bb, bo + t, none⟩ = some (.int .i64 (ys.getD t 0)) := by
    rcases Nat.eq_zero_or_pos n with h0 | h0
    · exact ⟨0, 0, fun h => by omega, fun t h => by omega⟩
    · obtain ⟨b, off, e1, e2⟩ := hy.at_ h0
      exact ⟨b, off, fun _ => e1, e2⟩
  have up : ∀ {ad : Addr} {x : Value}, v.cell? ad = some x → v5.cell? ad = some x := fun {ad x} h => by
    have hl := cell_lt h
    rw [World.cell?_of_block (w := v) ((low5 ad.block (by omega)).trans (bl3.block ad.block hl))]
    exact h
  have up3 : ∀ {ad : Addr} {x : Value}, ad.block < v.heap.size + 3 → v3.cell? ad = some x → v5.cell? ad = some x := fun {ad x} hl h => by
    rw [World.cell?_of_block (w := v3) (low5 ad.block hl)]
    exact h
  have hpre : Pre (v.heap.size + 3) n B (fun t => g (xs.getD t 0) (ys.getD t 0)) ⟨v.heap.size, v.heap.size + 1, v.heap.size + 1 + 1, w1.heap.size, ca, cb, pa, pb, f⟩ g ab ao bb bo (fun t => xs.getD t 0) (fun t => ys.getD t 0) v5 := by
    refine ⟨by omega, ⟨cur, (old5 _ hw1).trans hcur, hcs⟩, by simp, by simp, by simp, by simp; omega, up3 (by simp) c0, up3 (by simp) c1, up3 (by simp) c2, cou, hn20, hI, hpa, hpb, fun h0 => ?_, fun h0 => ?_, fun t ht => up (hxa t ht), fun t ht => up (hyb t ht), fun t _ => Fp.sok_get sx t, fun t _ => Fp.sok_get sy t, fun _ _ => rfl, h1, h2⟩
    · have := cell_lt (hxa 0 h0); simp at this; omega
    · have := cell_lt (hyb 0 h0); simp at this; omega
  refine .inl ⟨rfl, rfl, ?_⟩
  rw [bC4]
  refine K.seq (K.region ?_)
  rw [rng4]
  refine K.cast (mid (cs := c :: cs) hpre (fun i => Array.getD #[.func (.func f) #[] #[], .slice pa n ca, .slice pb n cb, undef, undef, undef, .slice none 0 0, .bool false, undef, undef, undef, undef, .slice pa n ca, .bool true, .bool false, .bool false, .slice pb n cb, .bool true, .bool false, .bool false, .bool false, .slice pa n ca, .int .i64 (n : Int), .slice pb n cb, .int .i64 (n : Int), .bool false, .bool false, .slice pa n ca, .int .i64 (n : Int), .slice (some ⟨v.heap.size + 3, 0, none⟩) n n, undef, undef, undef, undef, undef, undef, undef, undef, undef, undef, undef, undef, undef, undef, undef, undef] i undef) ?_) (by kernel_rfl)
  intro v' u' hA
  rw [endW]
  refine K.regionEnd (K.seg F rfl resC okT14 fun τ3 => ?_)
  have co : (Lift.re v' τ3 0).cell? ⟨w1.heap.size, 0, none⟩ = some (.slice (some ⟨v.heap.size + 3, 0, none⟩) n n) := by
    show v'.cell? _ = _
    rw [World.cell?_of_block (w := v5) (hA.block w1.heap.size (by omega) (by omega))]
    exact cou
  simp only [tl14, tlC, bodyC, Try.f16, Option.getD_some, TSw]
  go_wp2
  refine .inr ⟨rfl, rfl, fun pre => K.back (x := .tuple #[.slice (some ⟨v.heap.size + 3, 0, none⟩) n n, .bool true]) rfl Try.func16 (by kernel_rfl) (K.unre (hq _ _ ?_))⟩
  obtain ⟨cs', o1, o2, o3⟩ := hA.out
  have hsz' := hA.size
  have hlt : v.heap.size + 3 < v'.heap.size := by omega
  have hc : comb g xs ys = (List.range n).map fun t => g (xs.getD t 0) (ys.getD t 0) := by simp only [comb, hfit, if_true, hx.len]
  refine ⟨some ⟨v.heap.size + 3, 0, none⟩, n, n, rfl, ⟨by rw [hc]; simp, Nat.le_refl _, M, fun h0 => ⟨v.heap.size + 3, 0, rfl, by omega, hlt, hlt, fun t ht => ⟨?_, ?_⟩⟩⟩, ⟨hA.os.trans os5, hA.output.trans out5, by omega, fun k hk => ?_⟩⟩
  · rw [hc, Nat.zero_add]
    simp [World.cell?, o1, o3 t ht, List.getD_eq_getElem?_getD, List.getElem?_map, List.getElem?_range ht]
  · simp [World.frozen?, o1]
  · exact (hA.block k (by omega) (by omega)).trans ((low5 k (by omega)).trans (bl3.block k hk))
set_option maxRecDepth 100000 in
set_option maxHeartbeats 4000000 in
theorem combine_no (hx : Sl v pa n xs) (hy : Sl v pb m ys) (hno : Fp.fit xs ys = false) :
    KCalls Try.prog B 16 #[.func (.func f) #[] #[], .slice pa n ca, .slice pb m cb] v (NewI [] false v) := by
  refine KCalls.body Try.func16 hasC fun c cs Q hq => ?_
  rw [enterAt, bC0]
  refine K.seq (K.seg F rfl resC okR0 fun τ => ?_)
  simp only [cR0, bodyC, Try.f16, Option.getD_some, List.size_toArray, List.length_cons, List.length_nil, Nat.reduceAdd, Nat.reduceSub, Array.replicate_succ, Array.replicate_zero, List.push_toArray, List.append_toArray, List.nil_append, List.cons_append]
  go_wp2
  refine .inl ⟨rfl, rfl, ?_⟩
  refine K.unre (v := ((v.alloc (.cells #[.func (.func f) #[] #[]] 45)).alloc (.cells #[.slice pa n ca] 25)).alloc (.cells #[.slice pb m cb] 25)) (τ := τ) (d := 0) ?_
  obtain ⟨v3, hv3⟩ : ∃ v3, ((v.alloc (.cells #[.func (.func f) #[] #[]] 45)).alloc (.cells #[.slice pa n ca] 25)).alloc (.cells #[.slice pb m cb] 25) = v3 := ⟨_, rfl⟩
  rw [hv3]
  have bl3 : Blw v.heap.size v v3 := by
    rw [← hv3]
    exact Blw.of ((((Below.refl v.heap.size v).alloc (Nat.le_refl _) _).alloc (by simp) _).alloc (by simp; omega) _)
  have c1 : v3.cell? ⟨v.heap.size + 1, 0, none⟩ = some (.slice pa n ca) := by rw [← hv3, World.cell?_alloc_lt _ _ _ (by simp), World.cell?_alloc_at _ _ _ _ (by simp)]; rfl
  have c2 : v3.cell? ⟨v.heap.size + 1 + 1, 0, none⟩ = some (.slice pb m cb) := by rw [← hv3, World.cell?_alloc_at _ _ _ _ (by simp)]; rfl
  have x3 := sl_blw hx bl3
  have y3 := sl_blw hy bl3
  clear hv3
  have fin : NewI [] false v (.tuple #[.slice none 0 0, .bool false]) v3 := ⟨none, 0, 0, rfl, Own.nil _ _ _ _ _ (by unfold maxLen; omega), bl3⟩
  rw [bC1]
  refine K.seq (K.seg F rfl resC okR1 fun τ' => ?_)
  simp only [cR1, bodyC, Try.f16, Option.getD_some]
  have d1 : (Lift.re v3 τ' 0).cell? ⟨v.heap.size + 1, 0, none⟩ = some (.slice pa n ca) := c1
  have d2 : (Lift.re v3 τ' 0).cell? ⟨v.heap.size + 1 + 1, 0, none⟩ = some (.slice pb m cb) := c2
  have KX := Lib.hid (impl_ShareOk pa n ca xs (Lift.re v3 τ' 0) (sl_re x3 _ _))
  have KY := Lib.hid (impl_ShareOk pb m cb ys (Lift.re v3 τ' 0) (sl_re y3 _ _))
  have lx := hx.len
  have ly := hy.len
  clear c1 c2 x3 y3 hx hy bl3
  cases e1 : Fp.sok xs
  · rw [e1] at KX
    clear hno KY
    go_wp2_with (go_at_call 21; (with_reducible refine KX.out.mono ?_); rintro e w' ⟨rfl, rfl⟩)
    exact .inr ⟨rfl, rfl, fun pre => K.back (x := .tuple #[.slice none 0 0, .bool false]) rfl Try.func16 (by kernel_rfl) (K.unre (hq _ _ fin))⟩
  · rw [e1] at KX
    cases e2 : Fp.sok ys
    · rw [e2] at KY
      clear hno
      go_wp2_with (first | (go_at_call 21; (with_reducible refine KX.out.mono ?_); rintro e w' ⟨rfl, rfl⟩) | (go_at_call 21; (with_reducible refine KY.out.mono ?_); rintro e w' ⟨rfl, rfl⟩))
      exact .inr ⟨rfl, rfl, fun pre => K.back (x := .tuple #[.slice none 0 0, .bool false]) rfl Try.func16 (by kernel_rfl) (K.unre (hq _ _ fin))⟩
    · rw [e2] at KY
      have hne : n ≠ m := fun e => by simp [Fp.fit, e1, e2, lx, ly, e] at hno
      have hb : ((n : Int) != (m : Int)) = true := by simp; omega
      clear hno
      go_wp2_with (first | (go_at_call 21; (with_reducible refine KX.out.mono ?_); rintro e w' ⟨rfl, rfl⟩) | (go_at_call 21; (with_reducible refine KY.out.mono ?_); rintro e w' ⟨rfl, rfl⟩))
      exact .inr ⟨rfl, rfl, fun pre => K.back (x := .tuple #[.slice none 0 0, .bool false]) rfl Try.func16 (by kernel_rfl) (K.unre (hq _ _ fin))⟩
theorem combine_k (hI : IsOp f g) (hB : B ≤ v.heap.size) (hx : Sl v pa n xs) (hy : Sl v pb m ys) (h1 : n ≤ ca) (h2 : m ≤ cb) :
    KCalls Try.prog B 16 #[.func (.func f) #[] #[], .slice pa n ca, .slice pb m cb] v (NewI (comb g xs ys) (Fp.fit xs ys) v) := by
  cases hf : Fp.fit xs ys
  · have e : comb g xs ys = [] := by simp [comb, hf]
    rw [e]
    exact combine_no hx hy hf
  · have hn : n = m := by
      simp only [Fp.fit, Bool.and_eq_true, decide_eq_true_eq] at hf
      rw [← hx.len, ← hy.len]
      exact hf.2
    subst hn
    exact combine_yes hI hB hx hy h1 h2 hf
end
end Go.Proofs.Ytlpfogkfjjbklac.Lift
