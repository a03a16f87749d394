/-
  The draws of a proof: l91Proof.
-/
import Derived.Test.YtmfmhhopnmglcaaDoorTyd
import Derived.Test.YtmfmhhopnmglcaaDoorPfx
import Derived.Test.YtmfmhhopnmglcaaDoorPfw
import Derived.Test.YtmfmhhopnmglcaaDoorPfz
import Derived.Test.YtmfmhhopnmglcaaDoorPfk
namespace Go.Proofs.YtmfmhhopnmglcaaDoor
open Go.RowKit
set_option linter.unusedVariables false
set_option linter.unusedSimpArgs false
set_option maxRecDepth 20000
theorem Kb.setNew {b : Nat} {u w : World} (h : Kb b u w) {p : Addr} (hp : u.heap.size ≤ p.block) (v : Value) : Kb b u (w.setCell p v) :=
  ⟨h.os, h.tape, h.output, by simpa [World.setCell] using h.size, fun k hk hb => by
    have hne : p.block ≠ k := by omega
    rw [← h.block k hk hb]
    simp [World.setCell, Array.getElem?_modify, hne]⟩
def ProofPost (B b q : Nat) (w : World) (e : Ending) (w' : World) : Prop := ∃ (k : Int) (a : Option Addr) (n c : Nat) (zs : List Int) (u y : Int) (a' : Option Addr) (n' c' : Nat) (hs : List Int), 0 ≤ k ∧ k ≤ 4 ∧ n ≤ 5 ∧ n' ≤ 9 ∧ 0 ≤ u ∧ u ≤ 31 ∧ 0 ≤ y ∧ y ≤ 31 ∧ e = .returned (.tuple #[.int .i64 k, .slice a n c, .agg #[.int .i64 u, .int .i64 y, .slice a' n' c']]) ∧ Own w.heap.size w'.heap.size w' a n c zs ∧ Own w.heap.size w'.heap.size w' a' n' c' hs ∧ Rd B b (q + 100) w' ∧ Kb b w w'
/-- Results in slots, and one that lies in a variable of its own. -/
theorem results_mid3' {P : Program} {fn : Func} {p q q' : Tmp} {ty : TypeId} (h : fn.results = #[.tmp q', .tmp q, .cell p ty]) (tmps : Array Value) (w : World) (g : Nat) (cs : List Value) (x x' : Value) (d : TypeDesc)
    (hp : tmps.getD p undef = .pointer (some ⟨g, 0, none⟩)) (hx : tmps.getD q undef = x) (hx0 : tmps.getD q' undef = x') (hc : w.rangeAt g 0 cs) (hu : P.underlying ty = some d) (hd : d.isRow = true) (hi : (P.info? ty).map (·.size) = some cs.length) :
    (results fn tmps).run P w = .ok (.tuple #[x', x, .agg cs.toArray]) w := by
  have hp' : tmps[p]?.getD undef = .pointer (some ⟨g, 0, none⟩) := by simpa using hp
  have hx' : tmps[q]?.getD undef = x := by simpa using hx
  have hx1 : tmps[q']?.getD undef = x' := by simpa using hx0
  simp [results, h, hp', hx', hx1, asAddr, run_loadVar_mid w g 0 ty cs d hc hu hd hi]
theorem three_kb {b : Nat} {w w' : World} {g : Nat} {x y z : Value} (h : w.cell? ⟨g, 0, none⟩ = some x ∧ w.cell? ⟨g, 1, none⟩ = some y ∧ w.cell? ⟨g, 2, none⟩ = some z) (k : Kb b w w') (hg : g ≠ b) : w'.cell? ⟨g, 0, none⟩ = some x ∧ w'.cell? ⟨g, 1, none⟩ = some y ∧ w'.cell? ⟨g, 2, none⟩ = some z :=
  have hl : g < w.heap.size := cell_lt h.1
  ⟨(k.cell (p := ⟨g, 0, none⟩) hl hg).trans h.1, (k.cell (p := ⟨g, 1, none⟩) hl hg).trans h.2.1, (k.cell (p := ⟨g, 2, none⟩) hl hg).trans h.2.2⟩
theorem Tri.kb {b : Nat} {w w' : World} {g : Nat} {cs : List Value} {t : TypeId} (h : Tri w g cs t) (k : Kb b w w') (hg : g ≠ b) : Tri w' g cs t := by
  have hl : g < w.heap.size := by
    rcases Nat.lt_or_ge g w.heap.size with h' | h'
    · exact h'
    · unfold Tri at h; rw [Array.getElem?_eq_none h'] at h; cases h
  exact (k.block g hl hg).trans h
theorem there_kb {b g n : Nat} {w w' : World} (h : w.there g 0 n) (hn : 0 < n) (k : Kb b w w') (hg : g ≠ b) : w'.there g 0 n := by
  have hl : g < w.heap.size := by
    rcases Nat.lt_or_ge g w.heap.size with h' | h'
    · exact h'
    · have := (h 0 hn).1
      unfold World.cell? at this
      simp [Array.getElem?_eq_none h'] at this
  intro j hj
  rw [k.cell (p := ⟨g, 0 + j, none⟩) hl hg, k.frozen (p := ⟨g, 0 + j, none⟩) hl hg]
  exact h j hj
/-- The return. -/
theorem pp_end {B b q q' : Nat} {w W : World} {k u y : Int} {a a' : Option Addr} {n c n' c' hi hi' : Nat} {zs hs : List Int} (th : W.there w.heap.size 0 3) (Ov : Own (w.heap.size + 1) hi W a n c zs) (Oh : Own (w.heap.size + 1) hi' W a' n' c' hs) (R : Rd B b q' W) (K : Kb b w W) (hb : b < w.heap.size) (hq : q' ≤ q + 100)
    (k1 : 0 ≤ k) (k2 : k ≤ 4) (l : n ≤ 5) (l' : n' ≤ 9) (u1 : 0 ≤ u) (u2 : u ≤ 31) (y1 : 0 ≤ y) (y2 : y ≤ 31) :
    (W.drew.setCells w.heap.size 0 (prc u y a' n' c')).rangeAt w.heap.size 0 (prc u y a' n' c') ∧ ProofPost B b q w (.returned (.tuple #[.int .i64 k, .slice a n c, .agg (prc u y a' n' c').toArray])) (W.drew.setCells w.heap.size 0 (prc u y a' n' c')) := by
  have bb := below_cells (Nat.le_refl w.heap.size) (prc u y a' n' c') 0 ((Below.refl w.heap.size W).drew)
  refine ⟨World.rangeAt_setCells_same _ _ _ _ (show W.drew.there _ 0 _ from th), k, a, n, c, zs, u, y, a', n', c', hs, k1, k2, l, l', u1, u2, y1, y2, rfl, ?_, ?_, (R.keepB bb hb).mono hq, K.then bb⟩
  · exact ((own_cells (.inl (Nat.lt_succ_self _)) _ 0 Ov.drew).lt).more (by omega) (Nat.le_refl _)
  · exact ((own_cells (.inl (Nat.lt_succ_self _)) _ 0 Oh.drew).lt).more (by omega) (Nat.le_refl _)
/-- Without its first. -/
theorem cut_row {lo hi : Nat} {w : World} {a : Option Addr} {n c : Nat} {zs : List Int} (h : Own lo hi w a n c zs) (hn : 3 ≤ n) : ∃ b o, a = some ⟨b, o, none⟩ ∧ Own lo hi w (some ⟨b, o + 1, none⟩) (n - 1) (c - 1) (zs.drop 1) := by
  obtain ⟨b, o, rfl, g1, g2, g3, g4⟩ := h.at_ (by omega)
  refine ⟨b, o, rfl, by rw [List.length_drop, h.len], by have := h.le; omega, by have := h.lim; omega, fun _ => ⟨b, o + 1, rfl, g1, g2, g3, fun i hi => ?_⟩⟩
  have := g4 (1 + i) (by omega)
  rw [show o + 1 + i = o + (1 + i) by omega]
  refine ⟨?_, this.2⟩
  rw [this.1]
  simp [List.getD_eq_getElem?_getD, List.getElem?_drop, Nat.add_comm]
/-- The polynomial's field written anew. -/
theorem cut_put {B b q gp : Nat} {w w10 V : World} {x y : Int} {s s' : Value} {a a' : Option Addr} {n c n' c' lo hi lo' hi' : Nat} {zs hs : List Int} {t : TypeId} {rs : List Value} (hV : w10.setCell ⟨gp, 2, none⟩ s' = V) (c0 : w10.cell? ⟨gp, 0, none⟩ = some (.int .i64 x)) (c1 : w10.cell? ⟨gp, 1, none⟩ = some (.int .i64 y)) (c2 : w10.cell? ⟨gp, 2, none⟩ = some s) (f2 : w10.frozen? ⟨gp, 2, none⟩ = false)
    (T : Tri w10 w.heap.size rs t) (Ov : Own lo hi w10 a n c zs) (Oh : Own lo' hi' w10 a' n' c' hs) (R : Rd B b q w10) (K : Kb b w w10) (h1 : gp < lo ∨ hi ≤ gp) (h2 : gp < lo' ∨ hi' ≤ gp) (h3 : b < gp) (h4 : w.heap.size < gp) (h5 : b < w.heap.size) :
    V.cell? ⟨gp, 0, none⟩ = some (.int .i64 x) ∧ V.cell? ⟨gp, 1, none⟩ = some (.int .i64 y) ∧ V.cell? ⟨gp, 2, none⟩ = some s' ∧ Tri V w.heap.size rs t ∧ Own lo hi V a n c zs ∧ Own lo' hi' V a' n' c' hs ∧ Rd B b q V ∧ Kb b w V := by
  subst hV
  have bb : Below gp w10 (w10.setCell ⟨gp, 2, none⟩ s') := (Below.refl gp w10).setCell (p := ⟨gp, 2, none⟩) (Nat.le_refl _) s'
  refine ⟨?_, ?_, cell_same _ _ c2, T.below bb h4, Ov.far (q := ⟨gp, 2, none⟩) h1 s', Oh.far (q := ⟨gp, 2, none⟩) h2 s', R.keepB bb h3, K.setNew (Nat.le_of_lt h4) _⟩
  · rw [cell_other _ _ (by simp)]; exact c0
  · rw [cell_other _ _ (by simp)]; exact c1
/-- What a store into a block above leaves. -/
theorem far_put {B b q : Nat} {w W : World} {p : Addr} {v : Value} {t : TypeId} {rs : List Value} (T : Tri W w.heap.size rs t) (R : Rd B b q W) (K : Kb b w W) (hp : w.heap.size < p.block) (hb : b < w.heap.size) :
    Tri (W.setCell p v) w.heap.size rs t ∧ Rd B b q (W.setCell p v) ∧ Kb b w (W.setCell p v) := by
  have bb : Below p.block W (W.setCell p v) := (Below.refl p.block W).setCell (p := p) (Nat.le_refl _) v
  exact ⟨T.below bb hp, R.keepB bb (by omega), K.setNew (Nat.le_of_lt hp) _⟩
theorem three_far {w : World} {g : Nat} {x y z v : Value} {p : Addr} (h : w.cell? ⟨g, 0, none⟩ = some x ∧ w.cell? ⟨g, 1, none⟩ = some y ∧ w.cell? ⟨g, 2, none⟩ = some z) (hp : p.block ≠ g) : (w.setCell p v).cell? ⟨g, 0, none⟩ = some x ∧ (w.setCell p v).cell? ⟨g, 1, none⟩ = some y ∧ (w.setCell p v).cell? ⟨g, 2, none⟩ = some z := by
  have f : ∀ i, (w.setCell p v).cell? ⟨g, i, none⟩ = w.cell? ⟨g, i, none⟩ := fun i => cell_other _ _ (fun e => hp (by rw [e]))
  rw [f, f, f]; exact h
theorem there_set {w : World} {g n : Nat} (h : w.there g 0 n) (p : Addr) (v : Value) : (w.setCell p v).there g 0 n := by
  obtain ⟨b, o, c⟩ := p
  intro j hj
  have := h j hj
  rw [World.frozen?_setCell]
  refine ⟨?_, this.2⟩
  obtain ⟨x, hx⟩ := Option.isSome_iff_exists.1 this.1
  by_cases e : (⟨b, o, c⟩ : Addr) = ⟨g, 0 + j, none⟩
  · rw [e, cell_same _ _ hx]; rfl
  · rw [cell_other _ _ e, hx]; rfl
set_option maxHeartbeats 4000000 in
theorem spec_l91Proof (B b q : Nat) (w : World) (h : Rd B b q w) (hq : q ≤ 100000) :
    Calls Tryd.prog 46 #[.pointer (some ⟨b, 0, none⟩)] w (ProofPost B b q w) := by
  have hbw := h.inb
  obtain ⟨w1, hw1, Z1, B1, T1⟩ := tri_new w 28
  obtain ⟨d, D1, D2, D3⟩ := prf_desc
  have R1 := Lib.hid (h.keep B1)
  have TT := Lib.hid T1
  have BB := Lib.hid B1
  clear h B1 T1
  go_enter Tryd.func46, Tryd.ntmps46
  go_wp2_with fail
  clear hw1
  refine (spec_l91Vec B b q w1 R1.out (by omega)).mono ?_
  rintro e w2 ⟨k, a, n, c, zs, k1, k2, l2, rfl, o2, r2, kb2⟩
  have O2 := Lib.hid o2
  have R2 := Lib.hid r2
  have K2 := Lib.hid ((Kb.of_below (b := b) BB.out).trans kb2)
  have T2 := Lib.hid (TT.out.kb kb2 (by omega))
  have z2 := kb2.size
  clear o2 r2 kb2
  go_wp2_with fail
  refine (spec_pick B b (q + 20) 31 w2 R2.out (by omega)).mono ?_
  rintro e w3 ⟨u, ⟨u1, u2, -⟩, rfl, r3, k3, s3⟩
  have O3 := Lib.hid (O2.out.kb k3 (by omega))
  have R3 := Lib.hid r3
  have K3 := Lib.hid (K2.out.trans k3)
  have T3 := Lib.hid (T2.out.kb k3 (by omega))
  clear r3 k3 O2 T2
  have u2 := u2 (by omega)
  go_wp2_with fail
  refine (spec_pick B b (q + 20 + 1) 31 w3 R3.out (by omega)).mono ?_
  rintro e w4 ⟨y, ⟨y1, y2, -⟩, rfl, r4, k4, s4⟩
  have O4 := Lib.hid (O3.out.kb k4 (by omega))
  have R4 := Lib.hid r4
  have K4 := Lib.hid (K3.out.trans k4)
  have T4 := Lib.hid (T3.out.kb k4 (by omega))
  have y2 := y2 (by omega)
  clear r4 k4 O3 T3
  go_wp2_with fail
  have C := spec_ProofMake k a n c zs u y w4 O4.out.sl (by omega)
  cases hc : Fp.pcan k zs u y
  · obtain ⟨p1, p2, p3⟩ := Fp.pH_no hc
    rw [p1, p2, p3, hc] at C
    clear p1 p2 p3 hc
    refine C.mono ?_
    rintro e w5 ⟨a5, n5, c5, rfl, o5, b5⟩
    have z5 := b5.size
    obtain ⟨A, V, hA, nt, hV, bh, ch, zh⟩ := prf_put w5 0 0 a5 n5 c5 28
    have NT := Lib.hid nt
    have CH := Lib.hid ch
    have OV := Lib.hid ((O4.out.below b5).below bh)
    have OH := Lib.hid (o5.below bh)
    have RV := Lib.hid ((R4.out.keep b5).keep bh)
    have KV := Lib.hid ((K4.out.trans (Kb.of_below b5)).trans (Kb.of_below bh))
    have TV := Lib.hid ((T4.out.below b5 (by omega)).below bh (by omega))
    have TH := Lib.hid (show V.there w5.heap.size 0 3 by rw [← hV]; exact World.there_setCells nt _ _ _)
    have pl : n5 ≤ 9 := by rw [← o5.len]; simp
    have z4 : w.heap.size < w4.heap.size := by have := K4.out.size; omega
    clear o5 b5 bh nt ch O4 T4 C
    obtain ⟨C0, C1, C2⟩ := CH.out
    obtain ⟨q0, q1, q2, q3, q4, q5⟩ := TV.out.three'
    have ne : ¬ w5.heap.size = w.heap.size := by omega
    have E := Lib.hid (pp_end (q := q) (k := k) (u := 0) (y := 0) TV.out.there (OV.out.more (by omega) (Nat.le_refl _)) (OH.out.more (by omega) (Nat.le_refl _)) RV.out KV.out hbw (by omega) k1 k2 l2 pl (by omega) (by omega) (by omega) (by omega))
    go_wp2_with (first | (refine wpList_store_mid rfl 28 (.tmp 7) (.tmp 22) rfl w5.heap.size 0 (prc 0 0 a5 n5 c5).toArray rfl rfl NT.out D3 (prc_one _ _ _ _ _) ?_; rw [show (prc 0 0 a5 n5 c5).toArray.toList = (prc 0 0 a5 n5 c5) from rfl, hV]))
    go_region
    all_goals
      go_wp2
      refine bodyPost_ret (v := .tuple #[.int .i64 k, .slice a n c, .agg (prc 0 0 a5 n5 c5).toArray]) (results_mid3' rfl _ _ w.heap.size (prc 0 0 a5 n5 c5) _ _ _ rfl rfl rfl E.out.1 D1 D2 D3) rfl ?_
      exact E.out.2
  obtain ⟨p1, p2, p3⟩ := Fp.pH_yes hc
  have hv := (Fp.pcan_iff.1 hc).1
  rw [p1, p2, p3, hc] at C
  clear p1 p2 p3 hc
  refine C.mono ?_
  rintro e w5 ⟨a5, n5, c5, rfl, o5, b5⟩
  have z5 := b5.size
  obtain ⟨A, V, hA, nt, hV, bh, ch, zh⟩ := prf_put w5 u y a5 n5 c5 28
  have NT := Lib.hid nt
  have CH := Lib.hid ch
  have OV := Lib.hid ((O4.out.below b5).below bh)
  have OH := Lib.hid (o5.below bh)
  have RV := Lib.hid ((R4.out.keep b5).keep bh)
  have KV := Lib.hid ((K4.out.trans (Kb.of_below b5)).trans (Kb.of_below bh))
  have TV := Lib.hid ((T4.out.below b5 (by omega)).below bh (by omega))
  have TH := Lib.hid (show V.there w5.heap.size 0 3 by rw [← hV]; exact World.there_setCells nt _ _ _)
  have n4 : n ≤ 4 := by rw [← O4.out.len]; exact Fp.tvec_len hv
  have n0 : 0 < n := by rw [← O4.out.len, (Fp.tvec_iff.1 hv).2.2]; exact Fp.tlen_pos (Fp.tvec_iff.1 hv).1
  have pl : n5 ≤ 9 := by rw [← o5.len, Fp.prf_len, O4.out.len]; omega
  have m0 : 0 < n5 := by rw [← o5.len, Fp.prf_len]; omega
  have m3 : 3 ≤ n5 := by rw [← o5.len, Fp.prf_len, O4.out.len]; omega
  have z4 : w.heap.size < w4.heap.size := by have := K4.out.size; omega
  clear o5 b5 bh nt ch O4 T4 C
  clear hv
  go_wp2_with (first | (refine wpList_store_mid rfl 28 (.tmp 7) (.tmp 22) rfl w5.heap.size 0 (prc u y a5 n5 c5).toArray rfl rfl NT.out D3 (prc_one _ _ _ _ _) ?_; rw [show (prc u y a5 n5 c5).toArray.toList = (prc u y a5 n5 c5) from rfl, hV]) | (go_at_call 73; fail))
  clear hA hV NT
  refine (spec_pick B b (q + 20 + 1 + 1) 8 V RV.out (by omega)).mono ?_
  rintro e w6 ⟨sw, ⟨s1, s2, -⟩, rfl, r6, k6, sz6⟩
  have s2 := s2 (by omega)
  have g5 : w5.heap.size ≠ b := by omega
  have g0 : w.heap.size ≠ b := by omega
  have O6v := Lib.hid (OV.out.kb k6 (by omega))
  have O6h := Lib.hid (OH.out.kb k6 (by omega))
  have C6 := Lib.hid (three_kb CH.out k6 g5)
  have TH6 := Lib.hid (there_kb TH.out (by omega) k6 g5)
  have T6 := Lib.hid (TV.out.kb k6 g0)
  have R6 := Lib.hid r6
  have K6 := Lib.hid (KV.out.trans k6)
  clear r6 k6 OV OH CH TH TV RV KV
  by_cases h3 : 3 ≤ sw
  · have e0 : (sw == 0) = false := beqF (by omega)
    have e1 : (sw == 1) = false := beqF (by omega)
    have e2 : (sw == 2) = false := beqF (by omega)
    obtain ⟨V9, rfl⟩ : ∃ V9, w6 = V9 := ⟨_, rfl⟩
    obtain ⟨u9, rfl⟩ : ∃ u9, u = u9 := ⟨_, rfl⟩
    have v1 := u1
    have v2 : u ≤ 31 := by omega
    have O9v := O6v
    have O9h := O6h
    have C9 := C6
    have TH9 := TH6
    have T9 := T6
    have R9 := Lib.hid (R6.out.mono (q' := q + 50) (by omega))
    have K9 := K6
    go_wp2_with fail
    refine (spec_pick B b (q + 50) 60 w6 R9.out (by omega)).mono ?_
    rintro e w10 ⟨t, ⟨t1, t2, -⟩, rfl, r10, k10, sz10⟩
    have OAv := Lib.hid (O9v.out.kb k10 (by omega))
    have OAh := Lib.hid (O9h.out.kb k10 (by omega))
    have CA := three_kb C9.out k10 g5
    have THA := there_kb TH9.out (by omega) k10 g5
    have TA := Lib.hid (T9.out.kb k10 g0)
    have RA := Lib.hid r10
    have KA := Lib.hid (K9.out.trans k10)
    clear r10 k10 O9v O9h C9 TH9 T9 R9 K9
    obtain ⟨C0, C1, C2⟩ := CA
    obtain ⟨q0, q1, q2, q3, q4, q5⟩ := TA.out.three'
    have ne : ¬ w5.heap.size = w.heap.size := by omega
    by_cases ht : t = 0
    · subst ht
      have E2 := Lib.hid (cut_row OAh.out m3)
      obtain ⟨hb, ho, rfl, O11⟩ := E2.out
      have nn : ¬ c5 = 1 := by have := OAh.out.le; omega
      have i1 : (1 : Int) ≤ (n5 : Int) := by omega
      have f2 : w10.frozen? ⟨w5.heap.size, 2, none⟩ = false := (THA 2 (by omega)).2
      obtain ⟨V11, hV11⟩ : ∃ V11, w10.setCell ⟨w5.heap.size, 2, none⟩ (.slice (some ⟨hb, ho + 1, none⟩) (n5 - 1) (c5 - 1)) = V11 := ⟨_, rfl⟩
      have P := Lib.hid (cut_put (w := w) (b := b) (B := B) (q := q + 50 + 1) hV11 C0 C1 C2 f2 TA.out (OAv.out) O11 RA.out KA.out (by omega) (by omega) (by omega) (by omega) (by omega))
      obtain ⟨D0', D1', D2', PT, PV, PH, PR, PK⟩ := P.out
      obtain ⟨q0', q1', q2', q3', q4', q5'⟩ := PT.three'
      have E := Lib.hid (pp_end (q := q) (k := k) (u := u) (y := y) PT.there (PV.more (by omega) (Nat.le_refl _)) (PH.more (by omega) (Nat.le_refl _)) PR PK hbw (by omega) k1 k2 l2 (by omega) v1 v2 (by omega) (by omega))
      clear PV PH PR PK PT
      go_wp2
      go_region
      all_goals
        go_wp2
        refine bodyPost_ret (v := .tuple #[.int .i64 k, .slice a n c, .agg (prc u y (some ⟨hb, ho + 1, none⟩) (n5 - 1) (c5 - 1)).toArray]) (results_mid3' rfl _ _ w.heap.size (prc u y (some ⟨hb, ho + 1, none⟩) (n5 - 1) (c5 - 1)) _ _ _ rfl rfl rfl E.out.1 D1 D2 D3) rfl ?_
        exact E.out.2
    · have tf : (t == 0) = false := beqF ht
      have E := Lib.hid (pp_end (q := q) (k := k) (u := u) (y := y) TA.out.there (OAv.out.more (by omega) (Nat.le_refl _)) (OAh.out.more (by omega) (Nat.le_refl _)) RA.out KA.out hbw (by omega) k1 k2 l2 pl v1 v2 (by omega) (by omega))
      go_wp2
      go_region
      all_goals
        go_wp2
        refine bodyPost_ret (v := .tuple #[.int .i64 k, .slice a n c, .agg (prc u y a5 n5 c5).toArray]) (results_mid3' rfl _ _ w.heap.size (prc u y a5 n5 c5) _ _ _ rfl rfl rfl E.out.1 D1 D2 D3) rfl ?_
        exact E.out.2
  by_cases h1 : sw = 1
  · subst h1
    go_wp2_with fail
    refine (spec_pick B b (q + 20 + 1 + 1 + 1) 32 w6 R6.out (by omega)).mono ?_
    rintro e w7 ⟨x, ⟨x1, x2, -⟩, rfl, r7, k7, sz7⟩
    have x2 := x2 (by omega)
    have v1 := x1
    have v2 : x ≤ 31 := by omega
    have C7 := three_kb C6.out k7 g5
    have TH7 := there_kb TH6.out (by omega) k7 g5
    obtain ⟨C0, C1, C2⟩ := C7
    have f0 : w7.frozen? ⟨w5.heap.size, 0, none⟩ = false := (TH7 0 (by omega)).2
    obtain ⟨V9, hV9⟩ : ∃ V9, w7.setCell ⟨w5.heap.size, 0, none⟩ (.int .i64 x) = V9 := ⟨_, rfl⟩
    have P := far_put (p := ⟨w5.heap.size, 0, none⟩) (v := .int .i64 x) (T6.out.kb k7 g0) r7 (K6.out.trans k7) (by show w.heap.size < w5.heap.size; omega) hbw
    have Cn : V9.cell? ⟨w5.heap.size, 0, none⟩ = some (.int .i64 x) ∧ V9.cell? ⟨w5.heap.size, 1, none⟩ = some (.int .i64 y) ∧ V9.cell? ⟨w5.heap.size, 2, none⟩ = some (.slice a5 n5 c5) := by
      rw [← hV9]
      exact ⟨cell_same _ _ C0, by rw [cell_other _ _ (by simp)]; exact C1, by rw [cell_other _ _ (by simp)]; exact C2⟩
    have o9v := (O6v.out.kb k7 (by omega)).far (q := ⟨w5.heap.size, 0, none⟩) (.inr (by show w2.heap.size ≤ w5.heap.size; omega)) (.int .i64 x)
    have o9h := (O6h.out.kb k7 (by omega)).far (q := ⟨w5.heap.size, 0, none⟩) (.inr (Nat.le_refl _)) (.int .i64 x)
    have t9 := there_set TH7 ⟨w5.heap.size, 0, none⟩ (.int .i64 x)
    rw [hV9] at P o9v o9h t9
    have O9v := Lib.hid o9v
    have O9h := Lib.hid o9h
    have C9 := Lib.hid Cn
    have TH9 := Lib.hid t9
    have T9 := Lib.hid P.1
    have R9 := Lib.hid (P.2.1.mono (q' := q + 50) (by omega))
    have K9 := Lib.hid P.2.2
    clear P Cn o9v o9h t9 TH7 r7 k7
    go_wp2_with fail
    clear C0 C1 C2 f0 hV9
    go_wp2_with fail
    refine (spec_pick B b (q + 50) 60 V9 R9.out (by omega)).mono ?_
    rintro e w10 ⟨t, ⟨t1, t2, -⟩, rfl, r10, k10, sz10⟩
    have OAv := Lib.hid (O9v.out.kb k10 (by omega))
    have OAh := Lib.hid (O9h.out.kb k10 (by omega))
    have CA := three_kb C9.out k10 g5
    have THA := there_kb TH9.out (by omega) k10 g5
    have TA := Lib.hid (T9.out.kb k10 g0)
    have RA := Lib.hid r10
    have KA := Lib.hid (K9.out.trans k10)
    clear r10 k10 O9v O9h C9 TH9 T9 R9 K9
    obtain ⟨C0, C1, C2⟩ := CA
    obtain ⟨q0, q1, q2, q3, q4, q5⟩ := TA.out.three'
    have ne : ¬ w5.heap.size = w.heap.size := by omega
    by_cases ht : t = 0
    · subst ht
      have E2 := Lib.hid (cut_row OAh.out m3)
      obtain ⟨hb, ho, rfl, O11⟩ := E2.out
      have nn : ¬ c5 = 1 := by have := OAh.out.le; omega
      have i1 : (1 : Int) ≤ (n5 : Int) := by omega
      have f2 : w10.frozen? ⟨w5.heap.size, 2, none⟩ = false := (THA 2 (by omega)).2
      obtain ⟨V11, hV11⟩ : ∃ V11, w10.setCell ⟨w5.heap.size, 2, none⟩ (.slice (some ⟨hb, ho + 1, none⟩) (n5 - 1) (c5 - 1)) = V11 := ⟨_, rfl⟩
      have P := Lib.hid (cut_put (w := w) (b := b) (B := B) (q := q + 50 + 1) hV11 C0 C1 C2 f2 TA.out (OAv.out) O11 RA.out KA.out (by omega) (by omega) (by omega) (by omega) (by omega))
      obtain ⟨D0', D1', D2', PT, PV, PH, PR, PK⟩ := P.out
      obtain ⟨q0', q1', q2', q3', q4', q5'⟩ := PT.three'
      have E := Lib.hid (pp_end (q := q) (k := k) (u := x) (y := y) PT.there (PV.more (by omega) (Nat.le_refl _)) (PH.more (by omega) (Nat.le_refl _)) PR PK hbw (by omega) k1 k2 l2 (by omega) v1 v2 (by omega) (by omega))
      clear PV PH PR PK PT
      go_wp2
      go_region
      all_goals
        go_wp2
        refine bodyPost_ret (v := .tuple #[.int .i64 k, .slice a n c, .agg (prc x y (some ⟨hb, ho + 1, none⟩) (n5 - 1) (c5 - 1)).toArray]) (results_mid3' rfl _ _ w.heap.size (prc x y (some ⟨hb, ho + 1, none⟩) (n5 - 1) (c5 - 1)) _ _ _ rfl rfl rfl E.out.1 D1 D2 D3) rfl ?_
        exact E.out.2
    · have tf : (t == 0) = false := beqF ht
      have E := Lib.hid (pp_end (q := q) (k := k) (u := x) (y := y) TA.out.there (OAv.out.more (by omega) (Nat.le_refl _)) (OAh.out.more (by omega) (Nat.le_refl _)) RA.out KA.out hbw (by omega) k1 k2 l2 pl v1 v2 (by omega) (by omega))
      go_wp2
      go_region
      all_goals
        go_wp2
        refine bodyPost_ret (v := .tuple #[.int .i64 k, .slice a n c, .agg (prc x y a5 n5 c5).toArray]) (results_mid3' rfl _ _ w.heap.size (prc x y a5 n5 c5) _ _ _ rfl rfl rfl E.out.1 D1 D2 D3) rfl ?_
        exact E.out.2
  by_cases h2 : sw = 2
  · subst h2
    go_wp2_with fail
    refine (spec_pick B b (q + 20 + 1 + 1 + 1) (n : Int) w6 R6.out (by omega)).mono ?_
    rintro e w7 ⟨x, ⟨x1, x2, -⟩, rfl, r7, k7, sz7⟩
    have x2 := x2 (by omega)
    obtain ⟨j, rfl⟩ : ∃ j : Nat, x = j := ⟨x.toNat, by omega⟩
    have hj : j < n := by omega
    have R7 := Lib.hid r7
    have K7 := Lib.hid k7
    clear r7 k7
    go_wp2_with fail
    refine (spec_pick B b (q + 20 + 1 + 1 + 1 + 1) 3 w7 R7.out (by omega)).mono ?_
    rintro e w8 ⟨z, ⟨z1, z2, -⟩, rfl, r8, k8', sz8⟩
    have k8 := K7.out.trans k8'
    have v1 := u1
    have v2 : u ≤ 31 := by omega
    have C8 := three_kb C6.out k8 g5
    have TH8 := there_kb TH6.out (by omega) k8 g5
    have O8v := O6v.out.kb k8 (by omega)
    obtain ⟨vb, vo, z', rfl, gl, gh, hcz, hfz, -⟩ := O8v.get hj
    obtain ⟨V9, hV9⟩ : ∃ V9, w8.setCell ⟨vb, vo + j, none⟩ (.int .i64 z) = V9 := ⟨_, rfl⟩
    have P := far_put (p := ⟨vb, vo + j, none⟩) (v := .int .i64 z) (T6.out.kb k8 g0) r8 (K6.out.trans k8) (by show w.heap.size < vb; omega) hbw
    have Cn := three_far (p := ⟨vb, vo + j, none⟩) (v := .int .i64 z) C8 (by show vb ≠ w5.heap.size; omega)
    have o9v := O8v.set hj z
    have o9h := (O6h.out.kb k8 (by omega)).far (q := ⟨vb, vo + j, none⟩) (.inl (by show vb < w4.heap.size; omega)) (.int .i64 z)
    have t9 := there_set TH8 ⟨vb, vo + j, none⟩ (.int .i64 z)
    rw [hV9] at P o9v o9h t9 Cn
    have O9v := Lib.hid o9v
    have O9h := Lib.hid o9h
    have C9 := Lib.hid Cn
    have TH9 := Lib.hid t9
    have T9 := Lib.hid P.1
    have R9 := Lib.hid (P.2.1.mono (q' := q + 50) (by omega))
    have K9 := Lib.hid P.2.2
    have i0 : (0 : Int) ≤ (j : Int) := by omega
    have i1 : (j : Int) < (n : Int) := by omega
    clear P Cn o9v o9h t9 TH8 r8 k8 k8' O8v C8
    go_wp2_with fail
    clear hcz hfz hV9
    go_wp2_with fail
    refine (spec_pick B b (q + 50) 60 V9 R9.out (by omega)).mono ?_
    rintro e w10 ⟨t, ⟨t1, t2, -⟩, rfl, r10, k10, sz10⟩
    have OAv := Lib.hid (O9v.out.kb k10 (by omega))
    have OAh := Lib.hid (O9h.out.kb k10 (by omega))
    have CA := three_kb C9.out k10 g5
    have THA := there_kb TH9.out (by omega) k10 g5
    have TA := Lib.hid (T9.out.kb k10 g0)
    have RA := Lib.hid r10
    have KA := Lib.hid (K9.out.trans k10)
    clear r10 k10 O9v O9h C9 TH9 T9 R9 K9
    obtain ⟨C0, C1, C2⟩ := CA
    obtain ⟨q0, q1, q2, q3, q4, q5⟩ := TA.out.three'
    have ne : ¬ w5.heap.size = w.heap.size := by omega
    by_cases ht : t = 0
    · subst ht
      have E2 := Lib.hid (cut_row OAh.out m3)
      obtain ⟨hb, ho, rfl, O11⟩ := E2.out
      have nn : ¬ c5 = 1 := by have := OAh.out.le; omega
      have i1 : (1 : Int) ≤ (n5 : Int) := by omega
      have f2 : w10.frozen? ⟨w5.heap.size, 2, none⟩ = false := (THA 2 (by omega)).2
      obtain ⟨V11, hV11⟩ : ∃ V11, w10.setCell ⟨w5.heap.size, 2, none⟩ (.slice (some ⟨hb, ho + 1, none⟩) (n5 - 1) (c5 - 1)) = V11 := ⟨_, rfl⟩
      have P := Lib.hid (cut_put (w := w) (b := b) (B := B) (q := q + 50 + 1) hV11 C0 C1 C2 f2 TA.out (OAv.out) O11 RA.out KA.out (by omega) (by omega) (by omega) (by omega) (by omega))
      obtain ⟨D0', D1', D2', PT, PV, PH, PR, PK⟩ := P.out
      obtain ⟨q0', q1', q2', q3', q4', q5'⟩ := PT.three'
      have E := Lib.hid (pp_end (q := q) (k := k) (u := u) (y := y) PT.there (PV.more (by omega) (Nat.le_refl _)) (PH.more (by omega) (Nat.le_refl _)) PR PK hbw (by omega) k1 k2 l2 (by omega) v1 v2 (by omega) (by omega))
      clear PV PH PR PK PT
      go_wp2
      go_region
      all_goals
        go_wp2
        refine bodyPost_ret (v := .tuple #[.int .i64 k, .slice (some ⟨vb, vo, none⟩) n c, .agg (prc u y (some ⟨hb, ho + 1, none⟩) (n5 - 1) (c5 - 1)).toArray]) (results_mid3' rfl _ _ w.heap.size (prc u y (some ⟨hb, ho + 1, none⟩) (n5 - 1) (c5 - 1)) _ _ _ rfl rfl rfl E.out.1 D1 D2 D3) rfl ?_
        exact E.out.2
    · have tf : (t == 0) = false := beqF ht
      have E := Lib.hid (pp_end (q := q) (k := k) (u := u) (y := y) TA.out.there (OAv.out.more (by omega) (Nat.le_refl _)) (OAh.out.more (by omega) (Nat.le_refl _)) RA.out KA.out hbw (by omega) k1 k2 l2 pl v1 v2 (by omega) (by omega))
      go_wp2
      go_region
      all_goals
        go_wp2
        refine bodyPost_ret (v := .tuple #[.int .i64 k, .slice (some ⟨vb, vo, none⟩) n c, .agg (prc u y a5 n5 c5).toArray]) (results_mid3' rfl _ _ w.heap.size (prc u y a5 n5 c5) _ _ _ rfl rfl rfl E.out.1 D1 D2 D3) rfl ?_
        exact E.out.2
  have h0 : sw = 0 := by omega
  subst h0
  obtain ⟨pb, po, rfl, gl, gh, -⟩ := O6h.out.at_ m0
  go_wp2_with fail
  have R6d := Lib.hid (R6.out.keep (Below.refl w6.heap.size w6).drew)
  have e31 : n5 ≤ 1000 := by omega
  refine wp_region_noPanic ?_
  refine wp_region_held_drew (S := fun w' : World => w'.cell? ⟨w5.heap.size, 0, none⟩ = some (.int .i64 u) ∧ w'.cell? ⟨w5.heap.size, 1, none⟩ = some (.int .i64 y) ∧ w'.cell? ⟨w5.heap.size, 2, none⟩ = some (.slice (some ⟨pb, po, none⟩) n5 c5)) (by kernel_rfl) C6.out (fun hHeld => ?_)
  refine wpAnyH_take (i := 0) (v := .pointer (some ⟨w5.heap.size, 2, none⟩)) rfl (by kernel_rfl) (by kernel_rfl) (by kernel_rfl) (fun _ _ _ h => h) (Or.inl ⟨by kernel_rfl, by intro wS hS; (try dsimp only at hS); first | (go_simp; done) | (go_simp; with_reducible rfl) | rfl⟩) (by assumption) ?_
  simp only [Act.put, List.getElem_toArray, List.getElem_cons_succ, List.getElem_cons_zero, List.setIfInBounds_toArray, List.set_cons_zero, List.set_cons_succ]
  refine wpAnyH_take (i := 1) (v := .slice (some ⟨pb, po, none⟩) n5 c5) rfl (by kernel_rfl) (by kernel_rfl) (by kernel_rfl) (fun _ _ _ h => h) (Or.inl ⟨by kernel_rfl, by intro wS hS; (try dsimp only at hS); first | (go_simp; done) | (go_simp; with_reducible rfl) | rfl⟩) (by assumption) ?_
  simp only [Act.put, List.getElem_toArray, List.getElem_cons_succ, List.getElem_cons_zero, List.setIfInBounds_toArray, List.set_cons_zero, List.set_cons_succ]
  refine wpAnyH_take (i := 2) (v := .pointer (some ⟨b, 0, none⟩)) rfl (by kernel_rfl) (by kernel_rfl) (by kernel_rfl) (fun _ _ _ h => h) (Or.inl ⟨by kernel_rfl, by intro wS hS; (try dsimp only at hS); first | (go_simp; done) | (go_simp; with_reducible rfl) | rfl⟩) (by assumption) ?_
  simp only [Act.put, List.getElem_toArray, List.getElem_cons_succ, List.getElem_cons_zero, List.setIfInBounds_toArray, List.set_cons_zero, List.set_cons_succ]
  refine wpAnyH_take (i := 3) (v := .pointer (some ⟨w5.heap.size, 2, none⟩)) rfl (by kernel_rfl) (by kernel_rfl) (by kernel_rfl) (fun _ _ _ h => h) (Or.inl ⟨by kernel_rfl, by intro wS hS; (try dsimp only at hS); first | (go_simp; done) | (go_simp; with_reducible rfl) | rfl⟩) (by assumption) ?_
  simp only [Act.put, List.getElem_toArray, List.getElem_cons_succ, List.getElem_cons_zero, List.setIfInBounds_toArray, List.set_cons_zero, List.set_cons_succ]
  refine wpAnyH_take (i := 4) (v := .slice (some ⟨pb, po, none⟩) n5 c5) rfl (by kernel_rfl) (by kernel_rfl) (by kernel_rfl) (fun _ _ _ h => h) (Or.inl ⟨by kernel_rfl, by intro wS hS; (try dsimp only at hS); first | (go_simp; done) | (go_simp; with_reducible rfl) | rfl⟩) (by assumption) ?_
  simp only [Act.put, List.getElem_toArray, List.getElem_cons_succ, List.getElem_cons_zero, List.setIfInBounds_toArray, List.set_cons_zero, List.set_cons_succ]
  refine wpAnyH_take (i := 5) (v := .int .i64 (n5 : Int)) rfl (by kernel_rfl) (by kernel_rfl) (by kernel_rfl) (fun _ _ _ h => h) (Or.inl ⟨by kernel_rfl, by intro wS hS; (try dsimp only at hS); first | (go_simp; done) | (go_simp; with_reducible rfl) | rfl⟩) (by assumption) ?_
  simp only [Act.put, List.getElem_toArray, List.getElem_cons_succ, List.getElem_cons_zero, List.setIfInBounds_toArray, List.set_cons_zero, List.set_cons_succ]
  refine wpAnyH_take (i := 7) (v := .pointer (some ⟨b, 0, none⟩)) rfl (by kernel_rfl) (by kernel_rfl) (by kernel_rfl) (fun _ _ _ h => h) (Or.inl ⟨by kernel_rfl, by intro wS hS; (try dsimp only at hS); first | (go_simp; done) | (go_simp; with_reducible rfl) | rfl⟩) (by assumption) ?_
  simp only [Act.put, List.getElem_toArray, List.getElem_cons_succ, List.getElem_cons_zero, List.setIfInBounds_toArray, List.set_cons_zero, List.set_cons_succ]
  refine wpAnyH_ready (rs := [6]) (by kernel_rfl) (by simp) ?_
  refine AllReadyH.cons rfl (fun K hK => ?_) AllReadyH.nil
  rw [if_pos (by kernel_rfl)]
  go_simp
  go_at_call 73
  refine (spec_pick B b (q + 20 + 1 + 1 + 1) (n5 : Int) _ R6d.out (by omega)).mono ?_
  rintro e w7 ⟨x, ⟨x1, x2, -⟩, rfl, r7, k7, sz7⟩
  have x2 := x2 (by omega)
  obtain ⟨j, rfl⟩ : ∃ j : Nat, x = j := ⟨x.toNat, by omega⟩
  have i0 : (0 : Int) ≤ (j : Int) := by omega
  have i1 : (j : Int) < (n5 : Int) := by omega
  dsimp only
  refine hK.out _ _ (three_kb hHeld k7 g5) (fun hHeld => ?_)
  clear hK K
  refine wpAnyH_ready (rs := [8]) (by kernel_rfl) (by simp) ?_
  refine AllReadyH.cons rfl (fun K hK => ?_) AllReadyH.nil
  rw [if_pos (by kernel_rfl)]
  go_simp
  go_at_call 73
  refine (spec_pick B b (q + 20 + 1 + 1 + 1 + 1) 31 _ r7 (by omega)).mono ?_
  rintro e w8 ⟨z, ⟨z1, z2, -⟩, rfl, r8, k8, sz8⟩
  dsimp only
  refine hK.out _ _ (three_kb hHeld k8 g5) (fun hHeld => ?_)
  clear hK K
  have hjn : j < n5 := by omega
  have kk := Kb.trans (show Kb b w6 w7 from ⟨k7.os, k7.tape, k7.output, k7.size, k7.block⟩) k8
  have O8h := O6h.out.kb kk (by omega)
  obtain ⟨pb', po', z', hpe, gl', gh', hcz, hfz, -⟩ := O8h.get hjn
  obtain ⟨rfl, rfl⟩ : pb = pb' ∧ po = po' := by simpa using hpe
  clear hpe
  obtain ⟨V9, hV9⟩ : ∃ V9, w8.setCell ⟨pb, po + j, none⟩ (.int .i64 z) = V9 := ⟨_, rfl⟩
  have v1 := u1
  have v2 : u ≤ 31 := by omega
  have C8 := three_kb C6.out kk g5
  have TH8 := there_kb TH6.out (by omega) kk g5
  have P := far_put (p := ⟨pb, po + j, none⟩) (v := .int .i64 z) (T6.out.kb kk g0) r8 (K6.out.trans kk) (by show w.heap.size < pb; omega) hbw
  have Cn := three_far (p := ⟨pb, po + j, none⟩) (v := .int .i64 z) C8 (by show pb ≠ w5.heap.size; omega)
  have o9h := O8h.set hjn z
  have o9v := (O6v.out.kb kk (by omega)).far (q := ⟨pb, po + j, none⟩) (.inr (by show w2.heap.size ≤ pb; omega)) (.int .i64 z)
  have t9 := there_set TH8 ⟨pb, po + j, none⟩ (.int .i64 z)
  rw [hV9] at P o9v o9h t9 Cn
  have O9v := Lib.hid o9v
  have O9h := Lib.hid o9h
  have C9 := Lib.hid Cn
  have TH9 := Lib.hid t9
  have T9 := Lib.hid P.1
  have R9 := Lib.hid (P.2.1.mono (q' := q + 50) (by omega))
  have K9 := Lib.hid P.2.2
  clear P o9v o9h t9 TH8 r8 k8 k7 kk r7 O8h C8
  refine wpAnyH_take (i := 9) (v := .pointer (some ⟨pb, po + j, none⟩)) rfl (by kernel_rfl) (by kernel_rfl) (by kernel_rfl) (fun _ _ _ h => h) (Or.inl ⟨by kernel_rfl, by intro wS hS; (try dsimp only at hS); first | (go_simp; done) | (go_simp; with_reducible rfl) | rfl⟩) (by assumption) ?_
  simp only [Act.put, List.getElem_toArray, List.getElem_cons_succ, List.getElem_cons_zero, List.setIfInBounds_toArray, List.set_cons_zero, List.set_cons_succ]
  refine wpAnyH_ready (rs := [10]) (by kernel_rfl) (by simp) ?_
  refine AllReadyH.cons rfl (fun K hK => ?_) AllReadyH.nil
  rw [if_pos (by kernel_rfl)]
  go_simp
  refine hK.out _ _ C9.out (fun hHeld => ?_)
  clear hK K hHeld Cn hcz hfz hV9
  refine wpAnyH_done (by kernel_rfl) ?_ _
  refine NoPanic.normal ?_
  go_wp2_with fail
  refine (spec_pick B b (q + 50) 60 V9 R9.out (by omega)).mono ?_
  rintro e w10 ⟨t, ⟨t1, t2, -⟩, rfl, r10, k10, sz10⟩
  have OAv := Lib.hid (O9v.out.kb k10 (by omega))
  have OAh := Lib.hid (O9h.out.kb k10 (by omega))
  have CA := three_kb C9.out k10 g5
  have THA := there_kb TH9.out (by omega) k10 g5
  have TA := Lib.hid (T9.out.kb k10 g0)
  have RA := Lib.hid r10
  have KA := Lib.hid (K9.out.trans k10)
  clear r10 k10 O9v O9h C9 TH9 T9 R9 K9
  obtain ⟨C0, C1, C2⟩ := CA
  obtain ⟨q0, q1, q2, q3, q4, q5⟩ := TA.out.three'
  have ne : ¬ w5.heap.size = w.heap.size := by omega
  by_cases ht : t = 0
  · subst ht
    have E2 := Lib.hid (cut_row OAh.out m3)
    obtain ⟨hb, ho, hpe2, O11⟩ := E2.out
    obtain ⟨rfl, rfl⟩ : pb = hb ∧ po = ho := by simpa using hpe2
    clear hpe2
    have nn : ¬ c5 = 1 := by have := OAh.out.le; omega
    have i1 : (1 : Int) ≤ (n5 : Int) := by omega
    have f2 : w10.frozen? ⟨w5.heap.size, 2, none⟩ = false := (THA 2 (by omega)).2
    obtain ⟨V11, hV11⟩ : ∃ V11, w10.setCell ⟨w5.heap.size, 2, none⟩ (.slice (some ⟨pb, po + 1, none⟩) (n5 - 1) (c5 - 1)) = V11 := ⟨_, rfl⟩
    have P := Lib.hid (cut_put (w := w) (b := b) (B := B) (q := q + 50 + 1) hV11 C0 C1 C2 f2 TA.out (OAv.out) O11 RA.out KA.out (by omega) (by omega) (by omega) (by omega) (by omega))
    obtain ⟨D0', D1', D2', PT, PV, PH, PR, PK⟩ := P.out
    obtain ⟨q0', q1', q2', q3', q4', q5'⟩ := PT.three'
    have E := Lib.hid (pp_end (q := q) (k := k) (u := u) (y := y) PT.there (PV.more (by omega) (Nat.le_refl _)) (PH.more (by omega) (Nat.le_refl _)) PR PK hbw (by omega) k1 k2 l2 (by omega) v1 v2 (by omega) (by omega))
    clear PV PH PR PK PT
    go_wp2
    go_region
    all_goals
      go_wp2
      refine bodyPost_ret (v := .tuple #[.int .i64 k, .slice a n c, .agg (prc u y (some ⟨pb, po + 1, none⟩) (n5 - 1) (c5 - 1)).toArray]) (results_mid3' rfl _ _ w.heap.size (prc u y (some ⟨pb, po + 1, none⟩) (n5 - 1) (c5 - 1)) _ _ _ rfl rfl rfl E.out.1 D1 D2 D3) rfl ?_
      exact E.out.2
  · have tf : (t == 0) = false := beqF ht
    have E := Lib.hid (pp_end (q := q) (k := k) (u := u) (y := y) TA.out.there (OAv.out.more (by omega) (Nat.le_refl _)) (OAh.out.more (by omega) (Nat.le_refl _)) RA.out KA.out hbw (by omega) k1 k2 l2 pl v1 v2 (by omega) (by omega))
    go_wp2
    go_region
    all_goals
      go_wp2
      refine bodyPost_ret (v := .tuple #[.int .i64 k, .slice a n c, .agg (prc u y (some ⟨pb, po, none⟩) n5 c5).toArray]) (results_mid3' rfl _ _ w.heap.size (prc u y (some ⟨pb, po, none⟩) n5 c5) _ _ _ rfl rfl rfl E.out.1 D1 D2 D3) rfl ?_
      exact E.out.2
end Go.Proofs.YtmfmhhopnmglcaaDoor
