/-
  Plain mathematics of Newton's interpolation, step by step as it is reckoned in place. No program is named here.
-/
import Derived.Test.YtmfmhhopnmglcaaDoorPq
namespace Go.Proofs.YtmfmhhopnmglcaaDoor.Fp
set_option linter.unusedSimpArgs false
set_option linter.unusedVariables false
theorem getD_set (zs : List Int) (k t : Nat) (v : Int) (hk : k < zs.length) : (zs.set k v).getD t 0 = if k = t then v else zs.getD t 0 := by
  by_cases e : k = t
  · subst e; simp [List.getD_eq_getElem?_getD, hk]
  · simp [List.getD_eq_getElem?_getD, e]
/-- Differences up to width v lie there. -/
def difTo (f : Nat → Int) (n v : Nat) (zs : List Int) : Prop := ∀ i, i < n → zs.getD i 0 = dd f (min i v) (i - min i v)
/-- On the way to width v + 1: from place q on they are there. -/
def difIn (f : Nat → Int) (n v q : Nat) (zs : List Int) : Prop := ∀ i, i < n → zs.getD i 0 = if q ≤ i then dd f (v + 1) (i - (v + 1)) else dd f (min i v) (i - min i v)
theorem difTo_start {f : Nat → Int} {n : Nat} {zs : List Int} (h : ∀ i, i < n → zs.getD i 0 = f i) : difTo f n 0 zs := fun i hi => by
  rw [h i hi, Nat.min_zero, Nat.sub_zero]; rfl
theorem difIn_start {f : Nat → Int} {n v : Nat} {zs : List Int} (h : difTo f n v zs) : difIn f n v n zs := fun i hi => by rw [if_neg (by omega)]; exact h i hi
theorem difIn_step {f : Nat → Int} {n v j : Nat} {zs : List Int} (h : difIn f n v (j + 1) zs) (hj : j < n) (hv : v + 1 ≤ j) (hl : j < zs.length) {x y s : Int} (hx : x = zs.getD j 0) (hy : y = zs.getD (j - 1) 0) (hs : s = inv ((v : Int) + 1)) :
    difIn f n v j (zs.set j ((x - y) % 31 * s % 31)) := by
  intro i hi
  rw [getD_set _ _ _ _ hl]
  by_cases e : j = i
  · subst e
    rw [if_pos rfl, if_pos (by omega), hx, hy, hs, h j hi, h (j - 1) (by omega), if_neg (by omega), if_neg (by omega)]
    rw [show min j v = v by omega, show min (j - 1) v = v by omega, show j - 1 - v = j - (v + 1) by omega, dd, show j - v = j - (v + 1) + 1 by omega]
  · rw [if_neg e, h i hi]
    by_cases c : j ≤ i
    · rw [if_pos c, if_pos (by omega)]
    · rw [if_neg c, if_neg (by omega)]
theorem difIn_end {f : Nat → Int} {n v : Nat} {zs : List Int} (h : difIn f n v (v + 1) zs) : difTo f n (v + 1) zs := fun i hi => by
  rw [h i hi]
  by_cases c : v + 1 ≤ i
  · rw [if_pos c, show min i (v + 1) = v + 1 by omega]
  · rw [if_neg c, show min i v = i by omega, show min i (v + 1) = i by omega]
theorem difTo_end {f : Nat → Int} {n v : Nat} {zs : List Int} (h : difTo f n v zs) (hv : n ≤ v + 1) : ∀ i, i < n → zs.getD i 0 = dd f i 0 := fun i hi => by
  rw [h i hi, show min i v = i by omega, Nat.sub_self]
/-- On the way from m points to m + 1: behind place q they are there. -/
def exIn (nw : Nat → Int) (n m q : Nat) (zs : List Int) : Prop := ∀ j, j < n → zs.getD j 0 = if q < j then ex nw n (m + 1) j else ex nw n m j
def exTo (nw : Nat → Int) (n m : Nat) (zs : List Int) : Prop := ∀ j, j < n → zs.getD j 0 = ex nw n m j
theorem exTo_start (nw : Nat → Int) (n k : Nat) : exTo nw n 0 (List.replicate k 0) := fun j _ => by
  simp only [List.getD_eq_getElem?_getD, List.getElem?_replicate, ex]
  split <;> rfl
theorem exIn_start {nw : Nat → Int} {n m q : Nat} {zs : List Int} (h : exTo nw n m zs) (hq : n ≤ q + 1) : exIn nw n m q zs := fun j hj => by rw [if_neg (by omega)]; exact h j hj
theorem exIn_step {nw : Nat → Int} {n m q pt : Nat} {zs : List Int} (h : exIn nw n m (q + 1) zs) (hq : q + 1 < n) (hl : q + 1 < zs.length) {x y a : Int} (hx : x = zs.getD q 0) (hy : y = zs.getD (q + 1) 0) (ha : a = (pt : Int)) (hp : pt + m + 1 = n) :
    exIn nw n m q (zs.set (q + 1) ((x - a * y % 31) % 31)) := by
  intro j hj
  rw [getD_set _ _ _ _ hl]
  by_cases e : q + 1 = j
  · subst e
    rw [if_pos rfl, if_pos (by omega), hx, hy, h q (by omega), h (q + 1) hj, if_neg (by omega), if_neg (by omega), ex, if_neg (by omega), show n - 1 - m = pt by omega, ha]; rfl
  · rw [if_neg e, h j hj]
    by_cases c : q < j
    · rw [if_pos c, if_pos (by omega)]
    · rw [if_neg c, if_neg (by omega)]
theorem exIn_end {nw : Nat → Int} {n m pt : Nat} {zs : List Int} (h : exIn nw n m 0 zs) (hn : 0 < n) (hl : 0 < zs.length) {x y a : Int} (hx : x = nw pt) (hy : y = zs.getD 0 0) (ha : a = (pt : Int)) (hp : pt + m + 1 = n) :
    exTo nw n (m + 1) (zs.set 0 ((x - a * y % 31) % 31)) := by
  intro j hj
  rw [getD_set _ _ _ _ hl]
  by_cases e : 0 = j
  · subst e
    rw [if_pos rfl, ex, if_pos rfl, hx, hy, h 0 hj, if_neg (by omega), show n - 1 - m = pt by omega, ha]
  · rw [if_neg e, h j hj, if_pos (by omega)]
theorem ex_congr {nw nw' : Nat → Int} {n : Nat} (h : ∀ i, i < n → nw i = nw' i) (hn : 0 < n) : ∀ m i, ex nw n m i = ex nw' n m i := by
  intro m
  induction m with
  | zero => intro i; rfl
  | succ m ih => intro i; rw [ex, ex, ih, ih, ih, h _ (by omega)]
theorem exTo_end {vals nw zs : List Int} (h : exTo (fun i => nw.getD i 0) vals.length vals.length zs) (hn : ∀ i, i < vals.length → nw.getD i 0 = dd (fun j => vals.getD j 0) i 0) (h9 : vals.length ≤ 9) (hl : zs.length = 9) : zs.take vals.length = thr vals := by
  rw [← newt_thr (by omega)]
  apply ext_getD'
  · simp [newt]; omega
  · intro t ht
    rw [List.length_take] at ht
    have e : (zs.take vals.length).getD t 0 = zs.getD t 0 := by
      simp [List.getD_eq_getElem?_getD, List.getElem?_take, show t < vals.length by omega]
    rw [e, h t (by omega), newt, getD_map _ (by omega)]
    exact ex_congr hn (by omega) _ _
end Go.Proofs.YtmfmhhopnmglcaaDoor.Fp
