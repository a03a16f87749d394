/-
  Chapter 12: the program's ProofOk, ProofAll.
-/
import Derived.Test.YtmfmhhopnmglcaaDoorPfw
import Derived.Deep.RegionHeld3
namespace Go.Proofs.YtmfmhhopnmglcaaDoor
open Go.RowKit
set_option linter.unusedVariables false
set_option linter.unusedSimpArgs false
set_option maxRecDepth 20000
namespace Fp
/-- Whether a proof is that of numbers of a value. -/
def pfok (k : Int) (v : List Int) (x y : Int) (h : List Int) : Bool := tok k v && wf v.length x y h && eqB h (prf v x y)
/-- Whether numbers and a proof can be put into one list. -/
def pall (k : Int) (v : List Int) (x y : Int) (h : List Int) : Bool := tvec k v && wf v.length x y h
def palL (k : Int) (v : List Int) (x y : Int) (h : List Int) : List Int := if pall k v x y h then v ++ [x, y] ++ h else []
theorem palL_yes {k : Int} {v : List Int} {x y : Int} {h : List Int} (e : pall k v x y h = true) : palL k v x y h = v ++ [x, y] ++ h := by simp [palL, e]
theorem palL_no {k : Int} {v : List Int} {x y : Int} {h : List Int} (e : pall k v x y h = false) : palL k v x y h = [] := by simp [palL, e]
theorem pall_iff {k : Int} {v : List Int} {x y : Int} {h : List Int} : pall k v x y h = true ↔ tvec k v = true ∧ wf v.length x y h = true := by simp [pall]
end Fp
theorem three_keep {w w' : World} {g : Nat} {x y z : Value} (h : w.cell? ⟨g, 0, none⟩ = some x ∧ w.cell? ⟨g, 1, none⟩ = some y ∧ w.cell? ⟨g, 2, none⟩ = some z) (k : Below w.heap.size w w') : w'.cell? ⟨g, 0, none⟩ = some x ∧ w'.cell? ⟨g, 1, none⟩ = some y ∧ w'.cell? ⟨g, 2, none⟩ = some z :=
  have hg : g < w.heap.size := cell_lt h.1
  ⟨(k.cell (p := ⟨g, 0, none⟩) hg).trans h.1, (k.cell (p := ⟨g, 1, none⟩) hg).trans h.2.1, (k.cell (p := ⟨g, 2, none⟩) hg).trans h.2.2⟩
/-- A proof that was returned, put into a variable of type t. -/
theorem prf_put (W : World) (u v : Int) (a : Option Addr) (n c : Nat) (t : TypeId) : ∃ A V, W.alloc (.cells #[.int .i64 0, .int .i64 0, .slice none 0 0] t) = A ∧ A.there W.heap.size 0 (prc u v a n c).toArray.size ∧ A.setCells W.heap.size 0 (prc u v a n c) = V ∧ Below W.heap.size W V ∧ (V.cell? ⟨W.heap.size, 0, none⟩ = some (.int .i64 u) ∧ V.cell? ⟨W.heap.size, 1, none⟩ = some (.int .i64 v) ∧ V.cell? ⟨W.heap.size, 2, none⟩ = some (.slice a n c)) ∧ W.heap.size < V.heap.size := by
  obtain ⟨A, V, h1, h2, h3, h4, h5, h6⟩ := prf_hold W u v a n c t
  exact ⟨A, V, h1, h2, h3, h4, ⟨h5 0 _ rfl, h5 1 _ rfl, h5 2 _ rfl⟩, h6⟩
theorem prf_field (x y : Int) (a : Option Addr) (n c : Nat) (w : World) : (Instr.field 58 (.agg #[.int .i64 x, .int .i64 y, .slice a n c]) 1).run Tryd.prog w = .ok (.slice a n c) w := by kernel_rfl
set_option maxHeartbeats 1000000 in
theorem impl_ProofOk (k : Int) (a : Option Addr) (n cap : Nat) (zs : List Int) (x y : Int) (b : Option Addr) (m cp : Nat) (hs : List Int) (w : World) (ea : Addr) (he : Err w ea) (h : Sl w a n zs) (h' : Sl w b m hs) :
    Calls Tryd.prog 13 #[.int .i64 k, .slice a n cap, .agg #[.int .i64 x, .int .i64 y, .slice b m cp]] w (Bel (.bool (Fp.pfok k zs x y hs)) w) := by
  obtain ⟨w1, hw1, Z1, B1, T1⟩ := prf_box w x y b m cp 28
  have H1 := Lib.hid (h.below B1)
  have L := h.len
  obtain ⟨d, D1, D2, D3⟩ := prf_desc
  obtain ⟨d', D1', D2', D3'⟩ := prf_desc'
  cases hk : Fp.tok k zs
  · have E : Fp.pfok k zs x y hs = false := by simp [Fp.pfok, hk]
    rw [E]
    go_enter Tryd.func13, Tryd.ntmps13
    go_wp2_with fail
    refine (impl_TypeOk _ _ _ _ _ _ H1.out).mono ?_
    rintro e w2 ⟨rfl, b2⟩
    rw [hk]
    have BB := Lib.hid (B1.trans (b2.mono (by omega)))
    clear b2
    go_wp2
    go_ret
    exact ⟨rfl, BB.out⟩
  have hv := Fp.tok_vec hk
  have h4 : n ≤ 4 := by rw [← L]; exact Fp.tvec_len hv
  have hsk := (Fp.tvec_iff.1 hv).2.1
  have TT := Lib.hid T1
  have E1 := Lib.hid (he.below B1)
  have S1 := Lib.hid (h'.below B1)
  have BB1 := Lib.hid B1
  cases hf : Fp.wf n x y hs
  · have E : Fp.pfok k zs x y hs = false := by simp [Fp.pfok, hk, L, hf]
    rw [E]
    clear hv hsk L T1 B1 he h h'
    go_enter Tryd.func13, Tryd.ntmps13
    go_wp2_with fail
    clear hw1
    refine (impl_TypeOk _ _ _ _ _ _ H1.out).mono ?_
    rintro e w2 ⟨rfl, b2⟩
    rw [hk]
    have z2 := b2.size
    have T2 := Lib.hid (TT.out.below b2 (by omega))
    have E2 := Lib.hid (E1.out.below b2)
    have S2 := Lib.hid (S1.out.below b2)
    have B2 := Lib.hid (BB1.out.trans (b2.mono (by omega)))
    clear b2
    go_wp2_with (first | (refine wpList_load_mid rfl 28 (.tmp 5) rfl w.heap.size 0 rfl (prc x y b m cp) _ T2.out.range D1 D2 D3 ?_) | (go_at_call 39; fail))
    refine (impl_wellFormed_no n x y b m cp hs _ ea E2.out S2.out h4 hf).mono ?_
    rintro e w3 ⟨rfl, b3⟩
    obtain ⟨A, V, hA, nt, hV, bh, ch, zh⟩ := prf_put w3 0 0 none 0 0 58
    have NT := Lib.hid nt
    have ev : V.cell? ⟨0, 0, none⟩ = some (.iface 122 (.pointer (some ea))) := (E2.out.below b3).below bh
    have B3 := Lib.hid ((B2.out.trans (b3.mono B2.out.size)).trans (bh.mono (by have := b3.size; have := B2.out.size; omega)))
    clear b3 bh ch zh nt
    go_wp2_with (first | (refine wpList_store_mid rfl 58 (.tmp 7) (.tmp 18) rfl w3.heap.size 0 (prc 0 0 none 0 0).toArray rfl rfl NT.out D3' (prc_one _ _ _ _ _) ?_; rw [show (prc 0 0 none 0 0).toArray.toList = prc 0 0 none 0 0 from rfl, hV]) | (go_at_call 40; refine (is_same _ _).mono ?_; rintro e w' ⟨rfl, rfl⟩))
    go_ret
    exact ⟨rfl, B3.out⟩
  obtain ⟨hx, hy, -, -⟩ := Fp.wf_iff.1 hf
  have hm9 : m ≤ 1048576 := by rw [← h'.len, (Fp.wf_iff.1 hf).2.2.1]; omega
  obtain ⟨t, ht⟩ : ∃ t, Fp.pfok k zs x y hs = t := ⟨_, rfl⟩
  have E : eqB hs (Fp.prf zs x y) = t := by rw [← ht]; simp [Fp.pfok, hk, L, hf]
  have pl : (Fp.prf zs x y).length ≤ 9 := by rw [Fp.prf_len]; omega
  rw [ht]
  clear hv L T1 B1 h h' ht
  go_enter Tryd.func13, Tryd.ntmps13
  go_wp2_with fail
  clear hw1
  refine (impl_TypeOk _ _ _ _ _ _ H1.out).mono ?_
  rintro e w2 ⟨rfl, b2⟩
  rw [hk]
  have z2 := b2.size
  have T2 := Lib.hid (TT.out.below b2 (by omega))
  have E2 := Lib.hid (E1.out.below b2)
  have S2 := Lib.hid (S1.out.below b2)
  have H2 := Lib.hid (H1.out.below b2)
  have B2 := Lib.hid (BB1.out.trans (b2.mono (by omega)))
  clear b2 he
  go_wp2_with (first | (refine wpList_load_mid rfl 28 (.tmp 5) rfl w.heap.size 0 rfl (prc x y b m cp) _ T2.out.range D1 D2 D3 ?_) | (go_at_call 39; fail))
  refine (impl_wellFormed_yes n x y b m cp hs _ S2.out h4 hf).mono ?_
  rintro e w3 ⟨rfl, b3⟩
  obtain ⟨A, V, hA, nt, hV, bh, ch, zh⟩ := prf_put w3 x y b m cp 58
  have NT := Lib.hid nt
  have ev : V.cell? ⟨0, 0, none⟩ = some (.iface 122 (.pointer (some ea))) := (E2.out.below b3).below bh
  have B3 := Lib.hid ((B2.out.trans (b3.mono B2.out.size)).trans (bh.mono (by have := b3.size; have := B2.out.size; omega)))
  have S3 := Lib.hid (((S2.out.below b3).below bh))
  have H3 := Lib.hid (((H2.out.below b3).below bh))
  have CH := Lib.hid ch
  clear b3 bh ch zh nt
  go_wp2_with (first | (refine wpList_store_mid rfl 58 (.tmp 7) (.tmp 18) rfl w3.heap.size 0 (prc x y b m cp).toArray rfl rfl NT.out D3' (prc_one _ _ _ _ _) ?_; rw [show (prc x y b m cp).toArray.toList = prc x y b m cp from rfl, hV]) | (go_at_call 40; refine (is_nil _ _).mono ?_; rintro e w' ⟨rfl, rfl⟩))
  clear ev hA hV
  have HD : Sl V.drew a n zs := ⟨H3.out.len, H3.out.at_⟩
  have SD : Sl V.drew b m hs := ⟨S3.out.len, S3.out.at_⟩
  have H4 := Lib.hid HD
  have S4 := Lib.hid SD
  have ZZ := Lib.hid hsk
  have PL := Lib.hid pl
  have FL := prf_field
  clear HD SD hsk pl
  go_region_held3 (fun w' : World => w'.cell? ⟨w3.heap.size, 0, none⟩ = some (.int .i64 x) ∧ w'.cell? ⟨w3.heap.size, 1, none⟩ = some (.int .i64 y) ∧ w'.cell? ⟨w3.heap.size, 2, none⟩ = some (.slice b m cp)) (first | exact CH.out | exact three_keep (by assumption) b6 | exact three_keep (by assumption) b7) (first | (go_at_call 42; refine (impl_prove _ _ _ zs x y _ H4.out ZZ.out h4 hx hy).mono ?_; rintro e w6 ⟨a6, n6, c6, rfl, o6, b6⟩) | (go_at_call 41; refine (slices_Equal _ _ _ _ _ _ hs (Fp.prf zs x y) _ (S4.out.below b6) o6.sl hm9 (by rw [← o6.len]; have := PL.out; omega)).mono ?_; rintro e w7 hd7; obtain ⟨rfl, b7⟩ := hd7.below; rw [E]))
  have B7 := Lib.hid ((B3.out.drew.trans (b6.mono B3.out.size)).trans (b7.mono (Nat.le_trans B3.out.size b6.size)))
  clear b6 b7 o6
  go_wp2
  go_ret
  exact ⟨rfl, B7.out⟩
theorem two_new (w : World) (x y : Int) (t : TypeId) : ∃ w1, w.alloc (.cells #[.int .i64 x, .int .i64 y] t) = w1 ∧ w1.heap.size = w.heap.size + 1 ∧ Below w.heap.size w w1 ∧ Sl w1 (some ⟨w.heap.size, 0, none⟩) 2 [x, y] := by
  have T : Tri (w.alloc (.cells #[.int .i64 x, .int .i64 y] t)) w.heap.size [.int .i64 x, .int .i64 y] t := Tri.new w _ t
  refine ⟨_, rfl, size_alloc1 _ _, (Below.refl _ _).alloc (Nat.le_refl _) _, rfl, fun _ => ⟨_, 0, rfl, fun i hi => ?_⟩⟩
  rw [Nat.zero_add, T.at_]
  match i, hi with
  | 0, _ => rfl
  | 1, _ => rfl
theorem row_new (w : World) (x y z : Value) (t : TypeId) : ∃ w1, w.alloc (.cells #[x, y, z] t) = w1 ∧ Below w.heap.size w w1 ∧ w1.cell? ⟨w.heap.size, 0, none⟩ = some x ∧ w1.cell? ⟨w.heap.size, 1, none⟩ = some y ∧ w1.cell? ⟨w.heap.size, 2, none⟩ = some z := by
  have T : Tri (w.alloc (.cells #[x, y, z] t)) w.heap.size [x, y, z] t := Tri.new w _ t
  exact ⟨_, rfl, (Below.refl _ _).alloc (Nat.le_refl _) _, T.at_ 0, T.at_ 1, T.at_ 2⟩
set_option maxHeartbeats 1000000 in
theorem impl_ProofAll (k : Int) (a : Option Addr) (n cap : Nat) (zs : List Int) (x y : Int) (b : Option Addr) (m cp : Nat) (hs : List Int) (w : World) (ea : Addr) (he : Err w ea) (h : Sl w a n zs) (h' : Sl w b m hs) :
    Calls Tryd.prog 17 #[.int .i64 k, .slice a n cap, .agg #[.int .i64 x, .int .i64 y, .slice b m cp]] w (NewIntsB (Fp.palL k zs x y hs) (Fp.pall k zs x y hs) w) := by
  obtain ⟨w1, hw1, Z1, B1, T1⟩ := prf_box w x y b m cp 28
  have H1 := Lib.hid (h.below B1)
  have L := h.len
  obtain ⟨d, D1, D2, D3⟩ := prf_desc
  obtain ⟨d', D1', D2', D3'⟩ := prf_desc'
  cases hv : Fp.tvec k zs
  · have E : Fp.pall k zs x y hs = false := by simp [Fp.pall, hv]
    rw [Fp.palL_no E, E]
    go_enter Tryd.func17, Tryd.ntmps17
    go_wp2_with fail
    refine (impl_fits _ _ _ _ _ _ H1.out).mono ?_
    rintro e w2 ⟨rfl, b2⟩
    rw [hv]
    have BB := Lib.hid (B1.trans (b2.mono (by omega)))
    clear b2
    go_wp2
    go_ret2
    exact own_nil_b _ _ BB.out
  have h4 : n ≤ 4 := by rw [← L]; exact Fp.tvec_len hv
  have TT := Lib.hid T1
  have E1 := Lib.hid (he.below B1)
  have S1 := Lib.hid (h'.below B1)
  have BB1 := Lib.hid B1
  cases hf : Fp.wf n x y hs
  · have E : Fp.pall k zs x y hs = false := by simp [Fp.pall, hv, L, hf]
    rw [Fp.palL_no E, E]
    clear L T1 B1 he h h' E
    go_enter Tryd.func17, Tryd.ntmps17
    go_wp2_with fail
    clear hw1
    refine (impl_fits _ _ _ _ _ _ H1.out).mono ?_
    rintro e w2 ⟨rfl, b2⟩
    rw [hv]
    have z2 := b2.size
    have T2 := Lib.hid (TT.out.below b2 (by omega))
    have E2 := Lib.hid (E1.out.below b2)
    have S2 := Lib.hid (S1.out.below b2)
    have B2 := Lib.hid (BB1.out.trans (b2.mono (by omega)))
    clear b2
    go_wp2_with (first | (refine wpList_load_mid rfl 28 (.tmp 5) rfl w.heap.size 0 rfl (prc x y b m cp) _ T2.out.range D1 D2 D3 ?_) | (go_at_call 39; fail))
    refine (impl_wellFormed_no n x y b m cp hs _ ea E2.out S2.out h4 hf).mono ?_
    rintro e w3 ⟨rfl, b3⟩
    obtain ⟨A, V, hA, nt, hV, bh, ch, zh⟩ := prf_put w3 0 0 none 0 0 58
    have NT := Lib.hid nt
    have ev : V.cell? ⟨0, 0, none⟩ = some (.iface 122 (.pointer (some ea))) := (E2.out.below b3).below bh
    have B3 := Lib.hid ((B2.out.trans (b3.mono B2.out.size)).trans (bh.mono (by have := b3.size; have := B2.out.size; omega)))
    clear b3 bh ch zh nt
    go_wp2_with (first | (refine wpList_store_mid rfl 58 (.tmp 8) (.tmp 20) rfl w3.heap.size 0 (prc 0 0 none 0 0).toArray rfl rfl NT.out D3' (prc_one _ _ _ _ _) ?_; rw [show (prc 0 0 none 0 0).toArray.toList = prc 0 0 none 0 0 from rfl, hV]) | (go_at_call 40; refine (is_same _ _).mono ?_; rintro e w' ⟨rfl, rfl⟩))
    go_ret2
    exact own_nil_b _ _ B3.out
  have hm9 : m ≤ 9 := by rw [← h'.len, (Fp.wf_iff.1 hf).2.2.1]; omega
  have E : Fp.pall k zs x y hs = true := by simp [Fp.pall, hv, L, hf]
  rw [Fp.palL_yes E, E]
  clear L T1 B1 h h' E
  go_enter Tryd.func17, Tryd.ntmps17
  go_wp2_with fail
  clear hw1
  refine (impl_fits _ _ _ _ _ _ H1.out).mono ?_
  rintro e w2 ⟨rfl, b2⟩
  rw [hv]
  have z2 := b2.size
  have T2 := Lib.hid (TT.out.below b2 (by omega))
  have E2 := Lib.hid (E1.out.below b2)
  have S2 := Lib.hid (S1.out.below b2)
  have H2 := Lib.hid (H1.out.below b2)
  have B2 := Lib.hid (BB1.out.trans (b2.mono (by omega)))
  clear b2 he
  go_wp2_with (first | (refine wpList_load_mid rfl 28 (.tmp 5) rfl w.heap.size 0 rfl (prc x y b m cp) _ T2.out.range D1 D2 D3 ?_) | (go_at_call 39; fail))
  refine (impl_wellFormed_yes n x y b m cp hs _ S2.out h4 hf).mono ?_
  rintro e w3 ⟨rfl, b3⟩
  obtain ⟨A, V, hA, nt, hV, bh, ch, zh⟩ := prf_put w3 x y b m cp 58
  have NT := Lib.hid nt
  have ev : V.cell? ⟨0, 0, none⟩ = some (.iface 122 (.pointer (some ea))) := (E2.out.below b3).below bh
  have B3 := (B2.out.trans (b3.mono B2.out.size)).trans (bh.mono (by have := b3.size; have := B2.out.size; omega))
  obtain ⟨w5, hw5, Z5, B5, S5⟩ := two_new V x y 3
  obtain ⟨w6, hw6, B6, k1, k2, k3⟩ := row_new w5 (.slice a n cap) (.slice (some ⟨V.heap.size, 0, none⟩) 2 2) (.slice b m cp) 22
  have c2 : w5.cell? ⟨w3.heap.size, 2, none⟩ = some (.slice b m cp) := (three_keep ch B5).2.2
  have SS := Lib.hid ((((S2.out.below b3).below bh).below B5).below B6)
  have HH := Lib.hid ((((H2.out.below b3).below bh).below B5).below B6)
  have SD := Lib.hid (S5.below B6)
  have BB := Lib.hid ((B3.trans (B5.mono B3.size)).trans (B6.mono (by have := B3.size; omega)))
  obtain ⟨c0, c1, -⟩ := ch
  clear b3 bh zh nt B3 B5 S5 B6
  go_wp2_with (first | (refine wpList_store_mid rfl 58 (.tmp 8) (.tmp 20) rfl w3.heap.size 0 (prc x y b m cp).toArray rfl rfl NT.out D3' (prc_one _ _ _ _ _) ?_; rw [show (prc x y b m cp).toArray.toList = prc x y b m cp from rfl, hV]) | (go_at_call 40; refine (is_nil _ _).mono ?_; rintro e w' ⟨rfl, rfl⟩) | (go_at_call 45; fail))
  rw [Z5] at k1 k2 k3
  refine (slices_Concat3 _ _ _ _ _ _ _ _ _ _ zs [x, y] hs _ HH.out SD.out SS.out k1 k2 k3 (by omega)).mono ?_
  rintro e w7 ⟨a7, n7, c7, rfl, o7, b7⟩
  have O7 := Lib.hid o7
  have B7 := Lib.hid (BB.out.trans (b7.mono BB.out.size))
  have z7 := BB.out.size
  clear o7 b7
  go_wp2
  go_ret2
  exact ⟨_, _, _, rfl, O7.out.more z7 (Nat.le_refl _), B7.out⟩
end Go.Proofs.YtmfmhhopnmglcaaDoor
