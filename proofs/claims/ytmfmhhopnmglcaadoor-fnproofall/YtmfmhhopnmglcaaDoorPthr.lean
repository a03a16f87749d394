/-
  Interpolation: the program's PolyThrough (Newton's way, in arrays) and the model's (Lagrange's way).
-/
import Derived.Test.YtmfmhhopnmglcaaDoorPmul
import Derived.Test.YtmfmhhopnmglcaaDoorPr
namespace Go.Proofs.YtmfmhhopnmglcaaDoor
open Go.RowKit
set_option linter.unusedVariables false
set_option linter.unusedSimpArgs false
set_option maxRecDepth 20000
theorem nine_desc : Tryd.prog.underlying 110 = some (.array 9 54) := by kernel_rfl
theorem nine_info : (Tryd.prog.info? 110).map (·.size) = some 9 := by kernel_rfl
/-- An array of nine in block g, of which p holds. -/
def Arr (lo g : Nat) (p : List Int → Prop) (w : World) : Prop := ∃ zs, Own lo (g + 1) w (some ⟨g, 0, none⟩) 9 9 zs ∧ p zs ∧ ∀ t, Fp.ok (zs.getD t 0) = true
def DifPost (n : Nat) (vals : List Int) (w : World) (e : Ending) (w' : World) : Prop :=
  ∃ zs : List Int, zs.length = 9 ∧ (∀ i, i < n → zs.getD i 0 = Fp.dd (fun j => vals.getD j 0) i 0) ∧ (∀ t, Fp.ok (zs.getD t 0) = true) ∧ e = .returned (.agg (zs.map (Value.int .i64)).toArray) ∧ Below w.heap.size w w'
theorem Arr.set {lo g : Nat} {p q : List Int → Prop} {w : World} {k : Nat} {v : Int} {zs : List Int} (h : Own lo (g + 1) w (some ⟨g, 0, none⟩) 9 9 zs) (ho : ∀ t, Fp.ok (zs.getD t 0) = true) (hk : k < 9) (hv : Fp.ok v = true) (hq : q (zs.set k v)) :
    Arr lo g q (w.setCell ⟨g, k, none⟩ (.int .i64 v)) := ⟨_, h.set0 hk v, hq, set_ok ho _ hv⟩
theorem Arr.drew {lo g : Nat} {p : List Int → Prop} {w : World} (h : Arr lo g p w) : Arr lo g p w.drew := by
  obtain ⟨zs, h1, h2, h3⟩ := h
  exact ⟨zs, h1.drew, h2, h3⟩
theorem Arr.far {lo g : Nat} {p : List Int → Prop} {w : World} (h : Arr lo g p w) {q : Addr} (hq : q.block < lo ∨ g + 1 ≤ q.block) (v : Value) : Arr lo g p (w.setCell q v) := by
  obtain ⟨zs, h1, h2, h3⟩ := h
  exact ⟨zs, h1.far hq v, h2, h3⟩
theorem Arr.alloc {lo g : Nat} {p : List Int → Prop} {w : World} (h : Arr lo g p w) (o : Obj) : Arr lo g p (w.alloc o) := by
  obtain ⟨zs, h1, h2, h3⟩ := h
  exact ⟨zs, h1.alloc o, h2, h3⟩
theorem Arr.mono {lo g : Nat} {p q : List Int → Prop} {w : World} (h : Arr lo g p w) (hpq : ∀ zs, zs.length = 9 → p zs → q zs) : Arr lo g q w := by
  obtain ⟨zs, h1, h2, h3⟩ := h
  exact ⟨zs, h1, hpq zs h1.len h2, h3⟩
theorem rep9 : (List.replicate 9 (0 : Int)).length = 9 := rfl
set_option maxHeartbeats 1000000 in
theorem impl_differences (a : Option Addr) (n cap : Nat) (vals : List Int) (w : World) (h : Sl w a n vals) (hp : Fp.pok vals = true) :
    Calls Tryd.prog 90 #[.slice a n cap] w (DifPost n vals w) := by
  have H := Lib.hid h
  have L := Lib.hid h.len
  have V := Lib.hid (Fp.pok_get hp)
  have n9 : n ≤ 9 := by have := Fp.pok_len hp; rw [L.out] at this; exact this
  clear h hp
  go_enter Tryd.func90, Tryd.ntmps90
  go_wp2
  have A0 : Hid (Arr w.heap.size w.heap.size (fun _ => True) (w.alloc (.cells #[.int .i64 0, .int .i64 0, .int .i64 0, .int .i64 0, .int .i64 0, .int .i64 0, .int .i64 0, .int .i64 0, .int .i64 0] 110))) := ⟨_, own_nine _ w _ (Nat.le_refl _), trivial, rep_ok _⟩
  go_loopw [11] (fun i wr => ∃ k : Nat, k ≤ n ∧ i = .int .i64 k ∧ Hid (Arr w.heap.size w.heap.size (fun _ => True) wr) ∧ Hid (Arr (w.heap.size + 1) (w.heap.size + 1) (fun zs => zs = fill (List.replicate 9 0) (fun j => vals.getD j 0) k) wr) ∧ Hid (Below w.heap.size w wr)) (fun i _ => n - (intOf i).toNat)
  case atStart =>
    refine ⟨0, by omega, rfl, A0.out.alloc _, ⟨_, ?_, rfl, rep_ok _⟩, ((Below.refl _ _).alloc (Nat.le_refl _) _).alloc (by simp) _⟩
    have := own_nine (w.heap.size + 1) (w.alloc (.cells #[.int .i64 0, .int .i64 0, .int .i64 0, .int .i64 0, .int .i64 0, .int .i64 0, .int .i64 0, .int .i64 0, .int .i64 0] 110)) 110 (by simp)
    simpa [fill] using this
  case round =>
    obtain ⟨k, hk, rfl, h0, h1, hB⟩ := hrel
    by_cases hlt : k < n
    · obtain ⟨b, off, z, rfl, hc, hz⟩ := (H.out.below hB.out).get hlt
      have hzo : Fp.ok z = true := by rw [hz.out]; exact V.out k
      obtain ⟨zs, g1, g2, g3⟩ := h1.out
      obtain ⟨hlo, hhi, z', hc', hf', -⟩ := g1.get0 (show k < 9 by omega)
      have A1 : Hid (Arr (w.heap.size + 1) (w.heap.size + 1) (fun zs => zs = fill (List.replicate 9 0) (fun j => vals.getD j 0) (k + 1)) (wr.setCell ⟨w.heap.size + 1, k, none⟩ (.int .i64 z))) :=
        Arr.set (p := fun _ => True) g1 g3 (show k < 9 by omega) hzo (by rw [g2, hz.out]; rfl)
      clear g1 g2 g3
      go_wp2
      go_roundw
      case rel => exact ⟨k + 1, by omega, by go_num, h0.out.far (by simp) _, A1.out, hB.out.setCell (by simp) _⟩
      case measure => simp [intOf]; omega
    · have e : k = n := by omega
      subst e
      have A1 : Hid (Arr (w.heap.size + 1) (w.heap.size + 1) (Fp.difTo (fun j => vals.getD j 0) k 0) wr) := h1.out.mono fun zs hl e => Fp.difTo_start fun i hi => by
        rw [e, fill_get _ _ _ _ (by simp; omega), if_pos hi]
      clear h1
      go_wp2
      go_loopw [6] (fun i wr => ∃ v : Nat, v ≤ k ∧ i = .int .i64 ((v : Int) + 1) ∧ Hid (Arr w.heap.size w.heap.size (fun _ => True) wr) ∧ Hid (Arr (w.heap.size + 1) (w.heap.size + 1) (Fp.difTo (fun j => vals.getD j 0) k v) wr) ∧ Hid (Below w.heap.size w wr)) (fun i _ => k - (intOf i).toNat)
      case atStart => exact ⟨0, by omega, rfl, h0.out, A1.out, hB.out⟩
      case round =>
        clear h0 A1 hB
        obtain ⟨v, hv, rfl, h0, h1, hB⟩ := hrel
        by_cases hvt : v + 1 < k
        · have hvo : Fp.ok ((v : Int) + 1) = true := (Fp.ok_iff _).2 ⟨by omega, by omega⟩
          have hv0 : Hid ((v : Int) + 1 ≠ 0) := by show (v : Int) + 1 ≠ 0; omega
          have hso := Fp.inv_ok' hvo hv0.out
          go_wp2_with (go_at_call 91; (with_reducible refine (impl_inverse _ _ hvo hv0.out).mono ?_); rintro e w' ⟨rfl, rfl⟩)
          go_loopw [8] (fun i wr => ∃ q : Nat, v + 1 ≤ q ∧ q ≤ k ∧ i = .int .i64 ((q : Int) - 1) ∧ Hid (Arr w.heap.size w.heap.size (fun _ => True) wr) ∧ Hid (Arr (w.heap.size + 1) (w.heap.size + 1) (Fp.difIn (fun j => vals.getD j 0) k v q) wr) ∧ Hid (Below w.heap.size w wr)) (fun i _ => (intOf i).toNat)
          case atStart => exact ⟨k, by omega, by omega, rfl, h0.out, h1.out.mono fun zs _ hd => Fp.difIn_start hd, hB.out⟩
          case round =>
            clear h0 h1 hB
            obtain ⟨q, hq1, hq2, rfl, h0, h1, hB⟩ := hrel
            by_cases hqt : v + 2 ≤ q
            · obtain ⟨j, rfl⟩ : ∃ j, q = j + 1 := ⟨q - 1, by omega⟩
              obtain ⟨j', rfl⟩ : ∃ j', j = j' + 1 := ⟨j - 1, by omega⟩
              have e : ((j' + 1 + 1 : Nat) : Int) - 1 = (j' : Int) + 1 := by omega
              rw [e]; clear e
              obtain ⟨zs, g1, g2, g3⟩ := h1.out
              obtain ⟨hlo, hhi, x, hcx, hfx, hx⟩ := g1.get0 (show j' + 1 < 9 by omega)
              obtain ⟨-, -, y, hcy, -, hy⟩ := g1.get0 (show j' < 9 by omega)
              have hxo : Fp.ok x = true := by rw [hx.out]; exact g3 _
              have hyo : Fp.ok y = true := by rw [hy.out]; exact g3 _
              have A2 : Hid (Arr (w.heap.size + 1) (w.heap.size + 1) (Fp.difIn (fun j => vals.getD j 0) k v (j' + 1)) (wr.setCell ⟨w.heap.size + 1, j' + 1, none⟩ (.int .i64 ((x - y) % 31 * Fp.inv ((v : Int) + 1) % 31)))) :=
                Arr.set (p := fun _ => True) g1 g3 (show j' + 1 < 9 by omega) (Fp.emod_ok _) (Fp.difIn_step g2 (by omega) (by omega) (by rw [g1.len]; omega) hx.out hy.out rfl)
              clear g1 g2 g3
              have s0 : (0 : Int) ≤ (j' : Int) + 1 := by omega
              have s1 : (j' : Int) + 1 < 9 := by omega
              have s2 : (0 : Int) ≤ (j' : Int) := by omega
              have s3 : (j' : Int) < 9 := by omega
              have f1 : IntKind.i64.wrap ((j' : Int) + 1 - 1) = (j' : Int) := by rw [Int.add_sub_cancel]; exact IntWalk.i64_in _ (by omega)
              have f2 : ((j' : Int) + 1).toNat = j' + 1 := by omega
              have f3 : IntKind.i64.wrap (j' : Int) = (j' : Int) := IntWalk.i64_in _ (by omega)
              go_wp2
              go_still_tail 12, (by kernel_rfl)
              still_call (quiet_l (impl_minus _ _ _ hxo hyo))
              repeat still_step
              still_call (quiet_l (impl_times _ _ _ (Fp.emod_ok _) hso))
              repeat still_step
              refine wpStill_nil ?_
              change wpList _ _ _ _ _ wr.drew
              clear f1 f2 f3
              go_wp2
              go_roundw
              case rel => exact ⟨j' + 1, by omega, by omega, by go_num, (h0.out.far (by simp <;> omega) _).drew, A2.out.drew, (hB.out.setCell (by simp <;> omega) _).drew⟩
              case measure => simp [intOf]
            · have e : q = v + 1 := by omega
              subst e
              have e : ((v + 1 : Nat) : Int) - 1 = (v : Int) := by omega
              rw [e]; clear e
              have A2 := Lib.hid (h1.out.mono (q := Fp.difTo (fun j => vals.getD j 0) k (v + 1)) fun zs _ hd => Fp.difIn_end hd)
              clear h1
              go_wp2
              go_roundw
              case rel => exact ⟨v + 1, by omega, by go_num, h0.out, A2.out, hB.out⟩
              case measure => simp [intOf]; omega
        · obtain ⟨zs, g1, g2, g3⟩ := h1.out
          obtain ⟨zs0, k1, -, -⟩ := h0.out
          have G := Lib.hid (Fp.difTo_end g2 (by omega))
          have G3 := Lib.hid g3
          have R := Lib.hid g1.range
          have T := Lib.hid k1.there
          have LZ := Lib.hid g1.len
          clear g1 g2 g3 k1 h1 h0
          have NI := Lib.hid (show (Tryd.prog.info? 110).map (·.size) = some (zs.map (Value.int .i64)).length by rw [nine_info, List.length_map, LZ.out])
          have NJ := Lib.hid (show (Tryd.prog.info? 110).map (·.size) = some (zs.map (Value.int .i64)).toArray.size by rw [nine_info]; simp [LZ.out])
          have NT : Hid (wr.there w.heap.size 0 (zs.map (Value.int .i64)).toArray.size) := by show wr.there _ _ _; simp only [List.size_toArray, List.length_map, LZ.out]; exact T.out
          go_wp2_with (first | (with_reducible refine wpList_load_mid rfl 110 (.tmp 3) rfl (w.heap.size + 1) 0 rfl (zs.map (Value.int .i64)) _ R.out nine_desc rfl NI.out ?_) | (with_reducible refine wpList_store_mid rfl 110 (.tmp 2) (.tmp 48) rfl w.heap.size 0 (zs.map (Value.int .i64)).toArray rfl rfl NT.out NJ.out (map_one zs) ?_))
          have NR : Hid ((wr.setCells w.heap.size 0 (zs.map (Value.int .i64))).rangeAt w.heap.size 0 (zs.map (Value.int .i64))) := World.rangeAt_setCells_same _ _ _ _ (by rw [List.length_map, LZ.out]; exact T.out)
          refine bodyPost_ret (v := .agg (zs.map (Value.int .i64)).toArray) (results_mid rfl _ _ w.heap.size (zs.map (Value.int .i64)) _ rfl NR.out nine_desc rfl NI.out) rfl ?_
          exact ⟨zs, LZ.out, G.out, G3.out, rfl, below_cells (Nat.le_refl _) _ _ hB.out⟩
def ExPost (n : Nat) (nw : List Int) (w : World) (e : Ending) (w' : World) : Prop :=
  ∃ zs : List Int, zs.length = 9 ∧ Fp.exTo (fun i => nw.getD i 0) n n zs ∧ (∀ t, Fp.ok (zs.getD t 0) = true) ∧ e = .returned (.agg (zs.map (Value.int .i64)).toArray) ∧ Below w.heap.size w w'
set_option maxHeartbeats 1000000 in
theorem impl_expand (n : Nat) (nw : List Int) (w : World) (hl : nw.length = 9) (hw : ∀ t, Fp.ok (nw.getD t 0) = true) (n9 : n ≤ 9) :
    Calls Tryd.prog 89 #[.agg (nw.map (Value.int .i64)).toArray, .int .i64 (n : Int)] w (ExPost n nw w) := by
  have L := Lib.hid hl
  have V := Lib.hid hw
  clear hl hw
  have A0 : Hid (Own w.heap.size (w.heap.size + 1) (w.alloc (.cells (nw.map (Value.int .i64)).toArray 110)) (some ⟨w.heap.size, 0, none⟩) 9 9 nw) := by
    have := own_boxed w.heap.size w 110 nw (Nat.le_refl _) (by rw [L.out]; unfold maxLen; omega)
    rw [L.out] at this
    exact this
  go_enter Tryd.func89, Tryd.ntmps89
  go_wp2
  go_loopw [6] (fun i wr => ∃ pt m : Nat, Hid (pt + m = n) ∧ i = .int .i64 ((pt : Int) - 1) ∧ Hid (Own w.heap.size (w.heap.size + 1) wr (some ⟨w.heap.size, 0, none⟩) 9 9 nw) ∧ Hid (Arr (w.heap.size + 1) (w.heap.size + 1) (fun _ => True) wr) ∧ Hid (Arr (w.heap.size + 1 + 1) (w.heap.size + 1 + 1) (Fp.exTo (fun i => nw.getD i 0) n m) wr) ∧ Hid (Below w.heap.size w wr)) (fun i _ => (intOf i + 1).toNat)
  case atStart =>
    refine ⟨n, 0, rfl, rfl, (A0.out.alloc _).alloc _, Arr.alloc ⟨List.replicate 9 0, ?_, trivial, rep_ok _⟩ _, ⟨List.replicate 9 0, ?_, Fp.exTo_start _ _ _, rep_ok _⟩, (((Below.refl _ _).alloc (Nat.le_refl _) _).alloc (by simp) _).alloc (by simp; omega) _⟩
    · have := own_nine (w.heap.size + 1) (w.alloc (.cells (nw.map (Value.int .i64)).toArray 110)) 110 (by simp)
      simpa using this
    · have := own_nine (w.heap.size + 1 + 1) ((w.alloc (.cells (nw.map (Value.int .i64)).toArray 110)).alloc (.cells #[.int .i64 0, .int .i64 0, .int .i64 0, .int .i64 0, .int .i64 0, .int .i64 0, .int .i64 0, .int .i64 0, .int .i64 0] 110)) 110 (by simp)
      simpa using this
  case round =>
    obtain ⟨pt, m, hpm, rfl, hN, hR, hP, hB⟩ := hrel
    by_cases h1 : 1 ≤ pt
    · obtain ⟨j, rfl⟩ : ∃ j, pt = j + 1 := ⟨pt - 1, by omega⟩
      have e : ((j + 1 : Nat) : Int) - 1 = (j : Int) := by omega
      rw [e]; clear e
      have m1 : j + m + 1 ≤ n := by have := hpm.out; omega
      have m2 : Hid (j + m + 1 = n) := by show j + m + 1 = n; have := hpm.out; omega
      have hjo := Fp.nat_ok (show j < 31 by omega)
      go_wp2
      go_loopw [8] (fun i wr => ∃ q : Nat, q < n ∧ i = .int .i64 (q : Int) ∧ Hid (Own w.heap.size (w.heap.size + 1) wr (some ⟨w.heap.size, 0, none⟩) 9 9 nw) ∧ Hid (Arr (w.heap.size + 1) (w.heap.size + 1) (fun _ => True) wr) ∧ Hid (Arr (w.heap.size + 1 + 1) (w.heap.size + 1 + 1) (Fp.exIn (fun i => nw.getD i 0) n m q) wr) ∧ Hid (Below w.heap.size w wr)) (fun i _ => (intOf i).toNat)
      case atStart => exact ⟨n - 1, by omega, by go_num, hN.out, hR.out, hP.out.mono fun zs _ h => Fp.exIn_start h (by omega), hB.out⟩
      case round =>
        clear hN hR hP hB
        obtain ⟨q, hq, rfl, hN, hR, hP, hB⟩ := hrel
        obtain ⟨zs, g1, g2, g3⟩ := hP.out
        by_cases hq0 : 0 < q
        · obtain ⟨p, rfl⟩ : ∃ p, q = p + 1 := ⟨q - 1, by omega⟩
          have e : ((p + 1 : Nat) : Int) = (p : Int) + 1 := by omega
          rw [e]; clear e
          obtain ⟨hlo, hhi, y, hcy, hfy, hy⟩ := g1.get0 (show p + 1 < 9 by omega)
          obtain ⟨-, -, x, hcx, -, hx⟩ := g1.get0 (show p < 9 by omega)
          have hxo : Fp.ok x = true := by rw [hx.out]; exact g3 _
          have hyo : Fp.ok y = true := by rw [hy.out]; exact g3 _
          have A2 : Hid (Arr (w.heap.size + 1 + 1) (w.heap.size + 1 + 1) (Fp.exIn (fun i => nw.getD i 0) n m p) (wr.setCell ⟨w.heap.size + 1 + 1, p + 1, none⟩ (.int .i64 ((x - (j : Int) * y % 31) % 31)))) :=
            Arr.set (p := fun _ => True) g1 g3 (show p + 1 < 9 by omega) (Fp.emod_ok _) (Fp.exIn_step g2 hq (by rw [g1.len]; omega) hx.out hy.out rfl m2.out)
          clear g1 g2 g3
          have s0 : (0 : Int) ≤ (p : Int) + 1 := by omega
          have s1 : (p : Int) + 1 < 9 := by omega
          have s2 : (0 : Int) ≤ (p : Int) := by omega
          have s3 : (p : Int) < 9 := by omega
          have f1 : IntKind.i64.wrap ((p : Int) + 1 - 1) = (p : Int) := by rw [Int.add_sub_cancel]; exact IntWalk.i64_in _ (by omega)
          have f2 : ((p : Int) + 1).toNat = p + 1 := by omega
          have f3 : IntKind.i64.wrap (p : Int) = (p : Int) := IntWalk.i64_in _ (by omega)
          go_wp2
          go_still_tail 12, (by kernel_rfl)
          still_call (quiet_l (impl_times _ _ _ hjo hyo))
          repeat still_step
          still_call (quiet_l (impl_minus _ _ _ hxo (Fp.emod_ok _)))
          repeat still_step
          refine wpStill_nil ?_
          change wpList _ _ _ _ _ wr.drew
          clear f1 f2 f3
          rw [show (x - (j : Int) * y % 31) % 31 = (x - (j : Int) * y) % 31 by omega] at A2
          go_wp2
          go_roundw
          case rel => exact ⟨p, by omega, by go_num, (hN.out.far (by simp <;> omega) _).drew, (hR.out.far (by simp <;> omega) _).drew, A2.out.drew, (hB.out.setCell (by simp <;> omega) _).drew⟩
          case measure => simp [intOf]
        · have q0 : q = 0 := by omega
          subst q0
          obtain ⟨hlo, hhi, y, hcy, hfy, hy⟩ := g1.get0 (show 0 < 9 by omega)
          obtain ⟨-, -, x, hcx, -, hx⟩ := hN.out.get0 (show j < 9 by omega)
          have hxo : Fp.ok x = true := by rw [hx.out]; exact V.out _
          have hyo : Fp.ok y = true := by rw [hy.out]; exact g3 _
          have A2 : Hid (Arr (w.heap.size + 1 + 1) (w.heap.size + 1 + 1) (Fp.exTo (fun i => nw.getD i 0) n (m + 1)) (wr.setCell ⟨w.heap.size + 1 + 1, 0, none⟩ (.int .i64 ((x - (j : Int) * y % 31) % 31)))) :=
            Arr.set (p := fun _ => True) g1 g3 (show 0 < 9 by omega) (Fp.emod_ok _) (Fp.exIn_end g2 (by omega) (by rw [g1.len]; omega) hx.out hy.out rfl m2.out)
          clear g1 g2 g3
          have s0 : (0 : Int) ≤ (j : Int) := by omega
          have s1 : (j : Int) < 9 := by omega
          have e0 : ((0 : Nat) : Int) = 0 := rfl
          rw [e0]; clear e0
          go_wp2
          go_still_tail 9, (by kernel_rfl)
          still_call (quiet_l (impl_times _ _ _ hjo hyo))
          repeat still_step
          still_call (quiet_l (impl_minus _ _ _ hxo (Fp.emod_ok _)))
          repeat still_step
          refine wpStill_nil ?_
          change wpList _ _ _ _ _ wr.drew
          rw [show (x - (j : Int) * y % 31) % 31 = (x - (j : Int) * y) % 31 by omega] at A2
          go_wp2
          go_roundw
          case rel => exact ⟨j, m + 1, by show j + (m + 1) = n; have := m2.out; omega, rfl, (hN.out.far (by simp <;> omega) _).drew, (hR.out.far (by simp <;> omega) _).drew, A2.out.drew, (hB.out.setCell (by simp <;> omega) _).drew⟩
          case measure => simp [intOf]
    · have p0 : pt = 0 := by omega
      subst p0
      have em : Hid (m = n) := by show m = n; have := hpm.out; omega
      obtain ⟨zs, g1, g2, g3⟩ := hP.out
      obtain ⟨zs0, k1, -, -⟩ := hR.out
      have G : Hid (Fp.exTo (fun i => nw.getD i 0) n n zs) := by rw [em.out] at g2; exact g2
      have G3 := Lib.hid g3
      have R := Lib.hid g1.range
      have T := Lib.hid k1.there
      have LZ := Lib.hid g1.len
      clear g1 g2 g3 k1 hN hR hP
      have NI := Lib.hid (show (Tryd.prog.info? 110).map (·.size) = some (zs.map (Value.int .i64)).length by rw [nine_info, List.length_map, LZ.out])
      have NJ := Lib.hid (show (Tryd.prog.info? 110).map (·.size) = some (zs.map (Value.int .i64)).toArray.size by rw [nine_info]; simp [LZ.out])
      have NT : Hid (wr.there (w.heap.size + 1) 0 (zs.map (Value.int .i64)).toArray.size) := by show wr.there _ _ _; simp only [List.size_toArray, List.length_map, LZ.out]; exact T.out
      have NR : Hid ((wr.setCells (w.heap.size + 1) 0 (zs.map (Value.int .i64))).rangeAt (w.heap.size + 1) 0 (zs.map (Value.int .i64))) := World.rangeAt_setCells_same _ _ _ _ (by rw [List.length_map, LZ.out]; exact T.out)
      have e0 : ((0 : Nat) : Int) - 1 = -1 := rfl
      rw [e0]; clear e0
      go_wp2_with (first | (with_reducible refine wpList_load_mid rfl 110 (.tmp 5) rfl (w.heap.size + 1 + 1) 0 rfl (zs.map (Value.int .i64)) _ R.out nine_desc rfl NI.out ?_) | (with_reducible refine wpList_store_mid rfl 110 (.tmp 4) (.tmp 43) rfl (w.heap.size + 1) 0 (zs.map (Value.int .i64)).toArray rfl rfl NT.out NJ.out (map_one zs) ?_))
      refine bodyPost_ret (v := .agg (zs.map (Value.int .i64)).toArray) (results_mid rfl _ _ (w.heap.size + 1) (zs.map (Value.int .i64)) _ rfl NR.out nine_desc rfl NI.out) rfl ?_
      exact ⟨zs, LZ.out, G.out, G3.out, rfl, below_cells (by omega) _ _ hB.out⟩
/-- What PolyThrough answers. -/
def thrOf (vals : List Int) : List Int := if Fp.pok vals then Fp.thr vals else []
theorem thrOf_no {vals : List Int} (h : Fp.pok vals = false) : thrOf vals = [] := by simp [thrOf, h]
theorem thrOf_len (vals : List Int) : (thrOf vals).length ≤ 9 := by
  unfold thrOf
  split
  · rename_i h
    rw [Fp.thr_len]; exact Fp.pok_len h
  · simp
theorem thrOf_yes {vals : List Int} (h : Fp.pok vals = true) : thrOf vals = Fp.thr vals := by simp [thrOf, h]
set_option maxHeartbeats 400000 in
theorem impl_PolyThrough (a : Option Addr) (n cap : Nat) (vals : List Int) (w : World) (h : Sl w a n vals) :
    Calls Tryd.prog 83 #[.slice a n cap] w (NewInts (thrOf vals) w) := by
  have H := Lib.hid h
  have L := Lib.hid h.len
  clear h
  cases hp : Fp.pok vals
  · rw [thrOf_no hp]
    go_enter Tryd.func83, Tryd.ntmps83
    go_wp2_with fail
    refine (impl_PolyOk _ _ _ _ _ H.out).mono ?_
    rintro e w' ⟨rfl, rfl⟩
    go_wp2
    go_ret
    exact ⟨_, _, _, rfl, Own.nil _ _ _ _ _ (by unfold maxLen; omega), Below.refl _ _⟩
  · rw [thrOf_yes hp]
    have n9 : n ≤ 9 := by have := Fp.pok_len hp; rw [L.out] at this; exact this
    go_enter Tryd.func83, Tryd.ntmps83
    go_wp2_with fail
    refine (impl_PolyOk _ _ _ _ _ H.out).mono ?_
    rintro e w' ⟨rfl, rfl⟩
    go_wp2_with fail
    refine (impl_differences _ _ _ _ _ H.out hp).mono ?_
    rintro e w1 ⟨nw, d1, d2, d3, rfl, b1⟩
    have D1 := Lib.hid d1
    have D2 := Lib.hid d2
    have D3 := Lib.hid d3
    have B1 := Lib.hid b1
    clear d1 d2 d3 b1
    go_wp2_with fail
    refine (impl_expand n nw _ D1.out D3.out n9).mono ?_
    rintro e w2 ⟨zs, d4, d5, d6, rfl, b2⟩
    have D4 := Lib.hid d4
    have D5 := Lib.hid d5
    have B2 := Lib.hid (B1.out.trans (b2.mono B1.out.size))
    clear d4 d5 d6 b2
    have NJ := Lib.hid (show (Tryd.prog.info? 110).map (·.size) = some (zs.map (Value.int .i64)).toArray.size by rw [nine_info]; simp [D4.out])
    have O9 := Lib.hid (own_nine w2.heap.size w2 110 (Nat.le_refl _))
    generalize hww : w2.alloc (.cells #[.int .i64 0, .int .i64 0, .int .i64 0, .int .i64 0, .int .i64 0, .int .i64 0, .int .i64 0, .int .i64 0, .int .i64 0] 110) = ww at O9
    have WW := Lib.hid hww
    clear hww
    have NT : Hid (ww.there w2.heap.size 0 (zs.map (Value.int .i64)).toArray.size) := by show ww.there _ _ _; simp only [List.size_toArray, List.length_map, D4.out]; exact O9.out.there
    have NR : Hid (Sl (ww.setCells w2.heap.size 0 (zs.map (Value.int .i64))) (some ⟨w2.heap.size, 0, none⟩) n (Fp.thr vals)) := by
      have S1 := Sl.of_range (World.rangeAt_setCells_same ww w2.heap.size 0 (zs.map (Value.int .i64)) (by rw [List.length_map, D4.out]; exact O9.out.there))
      have S2 := S1.cut (m := n) (by rw [D4.out]; exact n9)
      have l1 := L.out
      subst l1
      rw [Fp.exTo_end D5.out D2.out n9 D4.out] at S2
      exact S2
    have hsl := nine_cut n n9 w2.heap.size
    have B3 : Hid (Below w.heap.size w (ww.setCells w2.heap.size 0 (zs.map (Value.int .i64)))) := below_cells B2.out.size _ _ (by rw [← WW.out]; exact B2.out.alloc B2.out.size _)
    go_wp2_with (first | (with_reducible refine wpList_store_mid rfl 110 (.tmp 3) (.tmp 11) rfl w2.heap.size 0 (zs.map (Value.int .i64)).toArray rfl rfl (by rw [WW.out]; exact NT.out) NJ.out (map_one zs) ?_))
    rw [WW.out]
    refine (impl_numbers _ _ _ _ _ NR.out (by omega)).mono ?_
    rintro e w3 ⟨a3, m3, c3, rfl, hO3, hB3⟩
    have O3 := Lib.hid (hO3.more B3.out.size (Nat.le_refl _))
    have B4 := Lib.hid (B3.out.trans (hB3.mono B3.out.size))
    clear hO3 hB3
    go_wp2
    go_ret
    exact ⟨_, _, _, rfl, O3.out, B4.out⟩
end Go.Proofs.YtmfmhhopnmglcaaDoor
