/-
  slices.Reverse over a row of fractions.
-/
import Derived.Test.YtigeffgehckbpabRows
import Derived.Test.YtigeffgehckbpabFs
import Derived.Outline
import Derived.Deep.RegionLaw
namespace Go.Proofs.Ytigeffgehckbpab
open Go.RowKit
set_option linter.unusedVariables false
set_option linter.unusedSimpArgs false
set_option maxRecDepth 20000
/-- What lies at place i when the ends have been turned as far as k and j. -/
def Turned (fs xs : List (Int × Int)) (n k j : Nat) : Prop := xs.length = n ∧ ∀ i, i < n → xs.getD i (0, 0) = if i < k ∨ j < i then fs.getD (n - 1 - i) (0, 0) else fs.getD i (0, 0)
theorem turned_step {fs xs : List (Int × Int)} {n k j : Nat} (h : Turned fs xs n k j) (hn : k + j + 1 = n) (hk : k < j) {x y u v : Int} (h1 : (x, y) = xs.getD j (0, 0)) (h2 : (u, v) = xs.getD k (0, 0)) : Turned fs ((xs.set k (x, y)).set j (u, v)) n (k + 1) (j - 1) := by
  obtain ⟨hl, hx⟩ := h
  refine ⟨by simp [hl], fun i hi => ?_⟩
  have e1 : (x, y) = fs.getD j (0, 0) := by rw [h1, hx j (by omega), if_neg (by omega)]
  have e2 : (u, v) = fs.getD k (0, 0) := by rw [h2, hx k (by omega), if_neg (by omega)]
  by_cases a : i = j
  · subst a
    rw [if_pos (by omega), show n - 1 - i = k by omega, ← e2]
    simp [List.getD_eq_getElem?_getD, List.getElem?_set, hl, hi]
  by_cases b : i = k
  · subst b
    rw [if_pos (by omega), show n - 1 - i = j by omega, ← e1]
    simp [List.getD_eq_getElem?_getD, List.getElem?_set, hl, hi, Ne.symm a, show ¬ j = i by omega]
  · have : ((xs.set k (x, y)).set j (u, v)).getD i (0, 0) = xs.getD i (0, 0) := by
      simp [List.getD_eq_getElem?_getD, List.getElem?_set, show ¬ j = i by omega, show ¬ k = i by omega]
    rw [this, hx i hi]
    by_cases c : i < k ∨ j < i
    · rw [if_pos c, if_pos (by omega)]
    · rw [if_neg c, if_neg (by omega)]
theorem turned_all {fs xs : List (Int × Int)} {n k j : Nat} (h : Turned fs xs n k j) (hf : fs.length = n) (hn : k + j + 1 = n) (hk : j ≤ k) : xs = fs.reverse := by
  obtain ⟨hl, hx⟩ := h
  apply List.ext_getElem (by simp [hl, hf])
  intro i h1 h2
  have hi : i < n := by omega
  have e := hx i hi
  by_cases c : i < k ∨ j < i
  · rw [if_pos c] at e
    simp only [List.getD_eq_getElem?_getD, List.getElem?_eq_getElem h1, Option.getD_some] at e
    rw [e, List.getElem_reverse, List.getElem?_eq_getElem (by omega)]
    simp [hf]
  · rw [if_neg c] at e
    have : i = k := by omega
    have : n - 1 - i = i := by omega
    simp only [List.getD_eq_getElem?_getD, List.getElem?_eq_getElem h1, Option.getD_some] at e
    rw [e, List.getElem_reverse, List.getElem?_eq_getElem (by omega)]
    simp [hf, this]
theorem turned_none (fs : List (Int × Int)) (n : Nat) (hf : fs.length = n) (h0 : 0 < n) : Turned fs fs n 0 (n - 1) := ⟨hf, fun i hi => by rw [if_neg (by omega)]⟩
def RevPost (lo hi : Nat) (a : Option Addr) (n cap : Nat) (fs : List (Int × Int)) (w : World) (e : Ending) (w' : World) : Prop := e = .returned (.tuple #[]) ∧ Of lo hi w' a n cap fs.reverse ∧ Chg (fun k => lo ≤ k ∧ k < hi) w w' ∧ w'.heap.size = w.heap.size
set_option maxHeartbeats 1000000 in
theorem slices_Reverse (lo hi : Nat) (a : Option Addr) (n cap : Nat) (fs : List (Int × Int)) (w : World) (h : Of lo hi w a n cap fs) (hm : n ≤ 1048577) :
    Calls Try.prog 51 #[.slice a n cap] w (RevPost lo hi a n cap fs w) := by
  have H := Lib.hid h
  have L := h.len
  clear h
  by_cases h0 : n = 0
  · subst h0
    have e : fs = [] := List.eq_nil_of_length_eq_zero L
    subst e
    go_enter Try.func51, Try.ntmps51
    go_wp2
    go_loop [2, 3] (fun i jj => i = .int .i64 0 ∧ jj = .int .i64 (-1)) (fun _ _ => 0)
    case atStart => exact ⟨rfl, by go_num⟩
    case round =>
      obtain ⟨rfl, rfl⟩ := hrel
      go_wp2
      go_end0
      exact ⟨rfl, H.out, Chg.refl _ _, rfl⟩
  have e1 : ((n : Int) - 1) = ((n - 1 : Nat) : Int) := by omega
  have T0 := Lib.hid (turned_none fs n L (by omega))
  have LL := Lib.hid L
  clear L
  go_enter Try.func51, Try.ntmps51
  go_wp2
  clear e1
  go_loopw [2, 3] (fun i jj wr => ∃ (k j : Nat) (xs : List (Int × Int)), k + j + 1 = n ∧ k ≤ j + 1 ∧ i = .int .i64 (k : Int) ∧ jj = .int .i64 (j : Int) ∧ Hid (Turned fs xs n k j) ∧ Hid (Of lo hi wr a n cap xs) ∧ Hid (Chg (fun k => lo ≤ k ∧ k < hi) w wr) ∧ Hid (wr.heap.size = w.heap.size)) (fun _ jj _ => (intOf jj).toNat)
  case atStart => exact ⟨0, n - 1, fs, by omega, by omega, rfl, rfl, T0.out, H.out, Chg.refl _ _, rfl⟩
  case round =>
    obtain ⟨k, j, xs, hkj, hkj1, rfl, rfl, hT, hO, hC, hS⟩ := hrel
    by_cases hlt : k < j
    · obtain ⟨b, off, x, y, rfl, hlo, hhi, x0, x1, xf0, xf1, hx⟩ := hO.out.get (k := j) (by omega)
      obtain ⟨b', off', u, v, e, -, -, u0, u1, uf0, uf1, hu⟩ := hO.out.get (k := k) (by omega)
      obtain ⟨rfl, rfl⟩ : b = b' ∧ off = off' := by simpa using e
      have i1 : (j : Int) < (n : Int) := by omega
      have i2 : (k : Int) < (n : Int) := by omega
      have i3 : j < n := by omega
      have i4 : k < n := by omega
      have O2 := Lib.hid ((hO.out.set (k := k) (by omega) x y).set (k := j) (by omega) u v)
      have C2 := Lib.hid ((((hC.out.setCell (q := ⟨b, off + k * 2, none⟩) (.inl ⟨hlo, hhi⟩) (.int .i64 x)).setCell (q := ⟨b, off + k * 2 + 1, none⟩) (.inl ⟨hlo, hhi⟩) (.int .i64 y)).setCell (q := ⟨b, off + j * 2, none⟩) (.inl ⟨hlo, hhi⟩) (.int .i64 u)).setCell (q := ⟨b, off + j * 2 + 1, none⟩) (.inl ⟨hlo, hhi⟩) (.int .i64 v))
      have T2 := Lib.hid (turned_step hT.out hkj hlt hx.out hu.out)
      go_wp2
      go_region_law (fail)
      all_goals
        clear x0 x1 u0 u1 xf0 xf1 uf0 uf1 hT hO hC
        go_wp2
        go_roundw
        case rel => exact ⟨k + 1, j - 1, _, by omega, by omega, by go_num, by go_num, T2.out, O2.out.drew, C2.out.drew, by show _ = _; simp [World.setCell, hS.out]⟩
        case measure => simp [intOf]; omega
    · have XX := Lib.hid (turned_all hT.out LL.out hkj (by omega))
      have O2 := Lib.hid hO.out
      rw [XX.out] at O2
      go_wp2
      go_end0
      exact ⟨rfl, O2.out, hC.out, hS.out⟩
end Go.Proofs.Ytigeffgehckbpab
