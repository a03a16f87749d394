/-
  Chapter 12, plain: how long a list is, the two lists that a proof's polynomials go through, the proof's polynomial.
-/
import Derived.Test.YtmfmhhopnmglcaaDoorTy
import Derived.Test.YtmfmhhopnmglcaaDoorPq
namespace Go.Proofs.YtmfmhhopnmglcaaDoor
namespace Fp
def plen (k : Int) : Nat := if tk k then 3 * tlen k + 3 else 0
theorem plen_no {k : Int} (h : tk k = false) : plen k = 0 := by simp [plen, h]
theorem plen_yes {k : Int} (h : tk k = true) : plen k = 3 * tlen k + 3 := by simp [plen, h]
theorem plen_le (k : Int) : plen k ≤ 15 := by have := tlen_le k; unfold plen; split <;> omega
/-- The numbers, each less c. -/
def less (c : Int) (v : List Int) : List Int := v.map fun x => (x - c) % 31
theorem less_len (c : Int) (v : List Int) : (less c v).length = v.length := by simp [less]
theorem less_zero {v : List Int} (h : sok v = true) : less 0 v = v := by
  have g := sok_get h
  unfold less
  refine (List.map_congr_left (g := id) fun x hx => ?_).trans (List.map_id _)
  obtain ⟨i, hi, rfl⟩ := List.getElem_of_mem hx
  have := g i
  rw [List.getD_eq_getElem?_getD, List.getElem?_eq_getElem hi] at this
  simp only [Option.getD_some] at this
  rw [ok_iff] at this
  simp only [id, Int.sub_zero]
  exact Int.emod_eq_of_lt this.1 this.2
theorem less_get (c : Int) {v : List Int} {i : Nat} (h : i < v.length) : (less c v).getD i 0 = (v.getD i 0 - c) % 31 := by
  simp [less, List.getD_eq_getElem?_getD, h]
theorem less_pok {c u : Int} {v : List Int} (hu : ok u = true) (hl : v.length ≤ 8) : pok (u :: less c v) = true := by
  rw [pok_iff]
  refine ⟨by simp [less_len]; omega, fun z hz => ?_⟩
  rcases List.mem_cons.1 hz with rfl | hz
  · exact hu
  · unfold less at hz
    obtain ⟨x, _, rfl⟩ := List.mem_map.1 hz
    exact emod_ok _
theorem less_succ (c : Int) {v : List Int} {k : Nat} (h : k < v.length) : less c (v.take (k + 1)) = less c (v.take k) ++ [(v.getD k 0 - c) % 31] := by
  rw [List.take_add_one, List.getElem?_eq_getElem h, List.getD_eq_getElem?_getD, List.getElem?_eq_getElem h]
  unfold less
  rw [List.map_append]
  rfl
theorem thr_get (vals : List Int) (i : Nat) : ok ((thr vals).getD i 0) = true := by
  rw [List.getD_eq_getElem?_getD]
  by_cases h : i < (thr vals).length
  · rw [List.getElem?_eq_getElem h]; exact thr_ok vals _ (List.getElem_mem h)
  · rw [List.getElem?_eq_none (by omega)]; rfl
/-- The proof's polynomial. -/
def prf (v : List Int) (u w : Int) : List Int := mulL (thr (u :: less 0 v)) (thr (w :: less 1 v))
theorem prf_len (v : List Int) (u w : Int) : (prf v u w).length = 2 * v.length + 1 := by
  rw [prf, mulL_len (by simp [thr_len]) (by simp [thr_len])]
  simp [thr_len, less_len]; omega
theorem prf_ok (v : List Int) (u w : Int) : ∀ z ∈ prf v u w, ok z = true := mulL_ok _ _
theorem prf_zero {v : List Int} {u w : Int} (hl : v.length ≤ 8) : cg (ev (prf v u w) 0) (u * w) := by
  have h1 := thr_at (vals := u :: less 0 v) (m := 0) (by simp [less_len]; omega) (by simp)
  have h2 := thr_at (vals := w :: less 1 v) (m := 0) (by simp [less_len]; omega) (by simp)
  exact (mulL_ev _ _ _).trans (cg.mul h1 h2)
theorem prf_at {v : List Int} {u w : Int} (hl : v.length ≤ 8) {i : Nat} (hi : i < v.length) : cg (ev (prf v u w) ((i : Int) + 1)) (v.getD i 0 * (v.getD i 0 - 1)) := by
  have h1 := thr_at (vals := u :: less 0 v) (m := i + 1) (by simp [less_len]; omega) (by simp [less_len]; omega)
  have h2 := thr_at (vals := w :: less 1 v) (m := i + 1) (by simp [less_len]; omega) (by simp [less_len]; omega)
  rw [List.getD_cons_succ, less_get _ hi] at h1 h2
  have e : ((i + 1 : Nat) : Int) = (i : Int) + 1 := by omega
  rw [e] at h1 h2
  refine (mulL_ev _ _ _).trans (cg.mul (h1.trans ?_) (h2.trans ?_))
  · unfold cg; rw [Int.emod_emod_of_dvd _ (by decide), Int.sub_zero]
  · unfold cg; rw [Int.emod_emod_of_dvd _ (by decide)]
theorem prf_pok {v : List Int} {u w : Int} (hl : v.length ≤ 4) : pok (prf v u w) = true := by
  rw [pok_iff, prf_len]
  exact ⟨by omega, prf_ok v u w⟩
theorem prf_at0 {v : List Int} {u w : Int} (hl : v.length ≤ 4) : at_ (prf v u w) 0 = (u * w) % 31 := by
  rw [at_eq (prf_pok hl) rfl, horn_ev]
  exact prf_zero (by omega)
theorem prf_at1 {v : List Int} {u w : Int} (hl : v.length ≤ 4) {i : Nat} (hi : i < v.length) : at_ (prf v u w) ((i : Int) + 1) = (v.getD i 0 * (v.getD i 0 - 1)) % 31 := by
  rw [at_eq (prf_pok hl) (by rw [ok_iff]; omega), horn_ev]
  exact prf_at (by omega) hi
/-- Whether there is a proof. -/
def pcan (k : Int) (v : List Int) (u w : Int) : Bool := tvec k v && ok u && ok w
def pU (k : Int) (v : List Int) (u w : Int) : Int := if pcan k v u w then u else 0
def pV (k : Int) (v : List Int) (u w : Int) : Int := if pcan k v u w then w else 0
def pH (k : Int) (v : List Int) (u w : Int) : List Int := if pcan k v u w then prf v u w else []
theorem pcan_iff {k : Int} {v : List Int} {u w : Int} : pcan k v u w = true ↔ tvec k v = true ∧ ok u = true ∧ ok w = true := by simp [pcan, and_assoc]
theorem pcan_nv {k : Int} {v : List Int} {u w : Int} (h : tvec k v = false) : pcan k v u w = false := by simp [pcan, h]
theorem pcan_nu {k : Int} {v : List Int} {u w : Int} (h : ok u = false) : pcan k v u w = false := by simp [pcan, h]
theorem pcan_nw {k : Int} {v : List Int} {u w : Int} (h : ok w = false) : pcan k v u w = false := by simp [pcan, h]
theorem pH_no {k : Int} {v : List Int} {u w : Int} (h : pcan k v u w = false) : pU k v u w = 0 ∧ pV k v u w = 0 ∧ pH k v u w = [] := by simp [pU, pV, pH, h]
theorem pH_yes {k : Int} {v : List Int} {u w : Int} (h : pcan k v u w = true) : pU k v u w = u ∧ pV k v u w = w ∧ pH k v u w = prf v u w := by simp [pU, pV, pH, h]
theorem tvec_len {k : Int} {v : List Int} (h : tvec k v = true) : v.length ≤ 4 := by rw [(tvec_iff.1 h).2.2]; exact tlen_le k
theorem pH_len (k : Int) (v : List Int) (u w : Int) : (pH k v u w).length ≤ 9 := by
  unfold pH; split
  · rename_i h; rw [prf_len]; have := tvec_len (pcan_iff.1 h).1; omega
  · simp
end Fp
end Go.Proofs.YtmfmhhopnmglcaaDoor
