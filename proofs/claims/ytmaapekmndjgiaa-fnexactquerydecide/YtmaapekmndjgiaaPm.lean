/-
  Plain mathematics of polynomials modulo 31 as lists of integers: no program is named here.
-/
import Derived.Test.YtmaapekmndjgiaaFp
namespace Go.Proofs.Ytmaapekmndjgiaa.Fp
/-- At most nine field elements. -/
def pok (p : List Int) : Bool := decide (p.length ≤ 9) && p.all ok
theorem pok_iff (p : List Int) : pok p = true ↔ p.length ≤ 9 ∧ ∀ z ∈ p, ok z = true := by simp [pok]
theorem pok_long {p : List Int} (h : 9 < p.length) : pok p = false := by
  simp only [pok, Bool.and_eq_false_iff, decide_eq_false_iff_not]; left; omega
theorem pok_bad {p : List Int} {k : Nat} (hk : k < p.length) (h : ok (p.getD k 0) = false) : pok p = false := by
  cases e : pok p
  · rfl
  · rw [pok_iff] at e
    have := e.2 (p.getD k 0) (by rw [List.getD_eq_getElem?_getD, List.getElem?_eq_getElem hk]; exact List.getElem_mem hk)
    rw [this] at h; cases h
/-- The first k are field elements. -/
def okTo (p : List Int) (k : Nat) : Prop := ∀ i, i < k → ok (p.getD i 0) = true
theorem okTo_zero (p : List Int) : okTo p 0 := fun i h => by omega
theorem okTo_succ {p : List Int} {k : Nat} (h : okTo p k) (hk : ok (p.getD k 0) = true) : okTo p (k + 1) := fun i hi => by
  by_cases e : i = k
  · subst e; exact hk
  · exact h i (by omega)
theorem pok_all {p : List Int} (h : okTo p p.length) : pok p = decide (p.length ≤ 9) := by
  have : p.all ok = true := by
    rw [List.all_eq_true]
    intro z hz
    obtain ⟨i, hi, rfl⟩ := List.getElem_of_mem hz
    have := h i hi
    rwa [List.getD_eq_getElem?_getD, List.getElem?_eq_getElem hi] at this
  simp [pok, this]
theorem pok_get {p : List Int} (h : pok p = true) (k : Nat) : ok (p.getD k 0) = true := by
  rw [pok_iff] at h
  by_cases hk : k < p.length
  · exact h.2 _ (by rw [List.getD_eq_getElem?_getD, List.getElem?_eq_getElem hk]; exact List.getElem_mem hk)
  · rw [List.getD_eq_getElem?_getD, List.getElem?_eq_none (by omega)]; rfl
theorem pok_len {p : List Int} (h : pok p = true) : p.length ≤ 9 := ((pok_iff p).1 h).1
/-- Horner's value of what is left from place k on. -/
def horn (p : List Int) (x : Int) : Int := p.foldr (fun c acc => (acc * x + c) % 31) 0
theorem horn_ok (p : List Int) (x : Int) : ok (horn p x) = true := by
  cases p with
  | nil => rfl
  | cons c p => exact emod_ok _
theorem horn_drop {p : List Int} {k : Nat} (hk : k < p.length) (x : Int) : horn (p.drop k) x = (horn (p.drop (k + 1)) x * x + p.getD k 0) % 31 := by
  rw [List.drop_eq_getElem_cons hk, List.getD_eq_getElem?_getD, List.getElem?_eq_getElem hk]; rfl
def at_ (p : List Int) (x : Int) : Int := if pok p && ok x then horn p x else 0
theorem at_eq {p : List Int} {x : Int} (hp : pok p = true) (hx : ok x = true) : at_ p x = horn p x := by simp [at_, hp, hx]
theorem at_np {p : List Int} {x : Int} (hp : pok p = false) : at_ p x = 0 := by simp [at_, hp]
theorem at_nx {p : List Int} {x : Int} (hx : ok x = false) : at_ p x = 0 := by simp [at_, hx]
theorem at_ok (p : List Int) (x : Int) : ok (at_ p x) = true := by unfold at_; split; exact horn_ok _ _; rfl

/-! ### Congruence modulo 31, sums -/
def cg (a b : Int) : Prop := a % 31 = b % 31
theorem cg.rfl' (a : Int) : cg a a := rfl
theorem cg.of_eq {a b : Int} (h : a = b) : cg a b := by rw [h]; exact rfl
theorem cg.symm {a b : Int} (h : cg a b) : cg b a := Eq.symm h
theorem cg.trans {a b c : Int} (h : cg a b) (k : cg b c) : cg a c := Eq.trans h k
theorem cg.add {a b c d : Int} (h : cg a b) (k : cg c d) : cg (a + c) (b + d) := by unfold cg at *; omega
theorem cg.sub {a b c d : Int} (h : cg a b) (k : cg c d) : cg (a - c) (b - d) := by unfold cg at *; omega
theorem cg.mul {a b c d : Int} (h : cg a b) (k : cg c d) : cg (a * c) (b * d) := by
  unfold cg at *; rw [Int.mul_emod, h, k, ← Int.mul_emod]
theorem cg_mod (a : Int) : cg (a % 31) a := by unfold cg; omega
theorem cg.eq {a b : Int} (h : cg a b) (ha : ok a = true) (hb : ok b = true) : a = b := by
  rw [ok_iff] at ha hb; unfold cg at h; omega
theorem cg.mod {a b : Int} (h : cg a b) (hb : ok b = true) : a % 31 = b := by rw [ok_iff] at hb; unfold cg at h; omega
/-- 31 is a prime. -/
theorem cg_prime {a b : Int} (h : cg (a * b) 0) : cg a 0 ∨ cg b 0 := by
  have h1 : cg (a % 31 * (b % 31)) 0 := ((cg_mod a).mul (cg_mod b)).trans h
  have h2 : mul (a % 31) (b % 31) = 0 := by rw [mul_eq (emod_ok _) (emod_ok _)]; unfold cg at h1; omega
  rcases (mul_none (emod_ok a) (emod_ok b)).1 h2 with h3 | h3
  · left; unfold cg; omega
  · right; unfold cg; omega
theorem inv_cg {a : Int} (ha : ok a = true) (h0 : a ≠ 0) : cg (a * inv a) 1 := by
  obtain ⟨h1, _, h3⟩ := inv_ok ha h0
  rw [mul_eq ha h1] at h3; unfold cg; omega
def S (f : Nat → Int) : Nat → Int
  | 0 => 0
  | n + 1 => S f n + f n
theorem S_succ (f : Nat → Int) (n : Nat) : S f (n + 1) = S f n + f n := rfl
theorem S_congr {f g : Nat → Int} {n : Nat} (h : ∀ i, i < n → f i = g i) : S f n = S g n := by
  induction n with
  | zero => rfl
  | succ n ih => rw [S_succ, S_succ, ih (fun i hi => h i (by omega)), h n (by omega)]
theorem S_cg {f g : Nat → Int} {n : Nat} (h : ∀ i, i < n → cg (f i) (g i)) : cg (S f n) (S g n) := by
  induction n with
  | zero => exact rfl
  | succ n ih => exact (ih (fun i hi => h i (by omega))).add (h n (by omega))
theorem S_zero {f : Nat → Int} {n : Nat} (h : ∀ i, i < n → f i = 0) : S f n = 0 := by
  induction n with
  | zero => rfl
  | succ n ih => rw [S_succ, ih (fun i hi => h i (by omega)), h n (by omega)]; rfl
theorem S_add (f g : Nat → Int) (n : Nat) : S (fun i => f i + g i) n = S f n + S g n := by
  induction n with
  | zero => rfl
  | succ n ih => simp only [S_succ, ih]; omega
theorem S_mul (c : Int) (f : Nat → Int) (n : Nat) : S (fun i => c * f i) n = c * S f n := by
  induction n with
  | zero => simp [S]
  | succ n ih => simp only [S_succ, ih, Int.mul_add]
theorem S_front (f : Nat → Int) (n : Nat) : S f (n + 1) = f 0 + S (fun i => f (i + 1)) n := by
  induction n with
  | zero => simp [S]
  | succ n ih => rw [S_succ, ih, S_succ]; omega
theorem S_swap (f : Nat → Nat → Int) (n m : Nat) : S (fun i => S (fun j => f i j) m) n = S (fun j => S (fun i => f i j) n) m := by
  induction n with
  | zero => rw [S]; symm; exact S_zero fun _ _ => rfl
  | succ n ih => rw [S_succ, ih, ← S_add]; exact S_congr fun _ _ => rfl
theorem S_more {f : Nat → Int} {n m : Nat} (hnm : n ≤ m) (h : ∀ i, n ≤ i → f i = 0) : S f m = S f n := by
  induction m with
  | zero => have : n = 0 := by omega
            subst this; rfl
  | succ m ih =>
    by_cases e : n = m + 1
    · subst e; rfl
    · rw [S_succ, ih (by omega), h m (by omega)]; omega
theorem S_from {f : Nat → Int} {i n : Nat} (hi : i ≤ n) (h : ∀ t, t < i → f t = 0) : S f n = S (fun k => f (i + k)) (n - i) := by
  induction n with
  | zero => have : i = 0 := by omega
            subst this; rfl
  | succ n ih =>
    by_cases e : i = n + 1
    · subst e; rw [Nat.sub_self]; exact S_zero h
    · rw [S_succ, ih (by omega), show n + 1 - i = (n - i) + 1 by omega, S_succ, show i + (n - i) = n by omega]
theorem S_one {f : Nat → Int} {n m : Nat} (hm : m < n) (h : ∀ i, i < n → i ≠ m → f i = 0) : S f n = f m := by
  induction n with
  | zero => omega
  | succ n ih =>
    by_cases e : m = n
    · subst e; rw [S_succ, S_zero fun i hi => h i (by omega) (by omega)]; omega
    · rw [S_succ, ih (by omega) fun i hi hne => h i (by omega) hne, h n (by omega) (by omega)]; omega

/-! ### A polynomial at a place, without the modulus -/
def ev (p : List Int) (x : Int) : Int := p.foldr (fun c acc => c + x * acc) 0
theorem ev_cons (c : Int) (p : List Int) (x : Int) : ev (c :: p) x = c + x * ev p x := rfl
theorem horn_ev (p : List Int) (x : Int) : horn p x = ev p x % 31 := by
  induction p with
  | nil => rfl
  | cons c p ih =>
    show (horn p x * x + c) % 31 = (c + x * ev p x) % 31
    have h : cg (horn p x * x + c) (c + x * ev p x) := by
      rw [Int.add_comm c, Int.mul_comm x]
      exact ((cg.trans (by rw [ih]; exact cg_mod _) (cg.rfl' _)).mul (cg.rfl' x)).add (cg.rfl' c)
    exact h
theorem pow_zero' (x : Int) : x ^ 0 = 1 := Int.pow_zero x
theorem ev_S (p : List Int) (x : Int) : ev p x = S (fun i => p.getD i 0 * x ^ i) p.length := by
  induction p with
  | nil => rfl
  | cons c p ih =>
    rw [ev_cons, ih, List.length_cons, S_front]
    simp only [List.getD_cons_zero, List.getD_cons_succ, pow_zero', Int.mul_one]
    rw [← S_mul]
    congr 1
    exact S_congr fun i _ => by rw [Int.pow_succ]; grind
/-- The polynomial divided by (x - r). -/
def dv (r : Int) : List Int → List Int
  | [] => []
  | [_] => []
  | _ :: d :: p => ev (d :: p) r :: dv r (d :: p)
theorem dv_len (r : Int) (c : Int) (p : List Int) : (dv r (c :: p)).length = p.length := by
  induction p generalizing c with
  | nil => rfl
  | cons d p ih => rw [dv, List.length_cons, ih d, List.length_cons]
theorem dv_ev (r : Int) (c : Int) (p : List Int) (x : Int) : ev (c :: p) x = (x - r) * ev (dv r (c :: p)) x + ev (c :: p) r := by
  induction p generalizing c with
  | nil => simp [dv, ev]
  | cons d p ih =>
    have := ih d
    rw [dv, ev_cons c, ev_cons c, ev_cons (ev (d :: p) r)]
    rw [this]
    grind
theorem dv_zero (r : Int) (c : Int) (p : List Int) (h : ∀ z ∈ dv r (c :: p), cg z 0) (h0 : cg (ev (c :: p) r) 0) : ∀ z ∈ c :: p, cg z 0 := by
  induction p generalizing c with
  | nil =>
    intro z hz
    simp at hz; subst hz
    simpa [ev] using h0
  | cons d p ih =>
    rw [dv] at h
    have h1 : cg (ev (d :: p) r) 0 := h _ (by simp)
    have h2 := ih d (fun z hz => h z (by simp [hz])) h1
    intro z hz
    rcases List.mem_cons.1 hz with rfl | hz
    · rw [ev_cons] at h0
      have h3 : cg (r * ev (d :: p) r) 0 := by simpa using (cg.rfl' r).mul h1
      have := h0.sub h3
      simpa using this
    · exact h2 z hz
/-- A polynomial that is 0 at as many places as it has numbers is 0. -/
theorem roots (p : List Int) (xs : List Int) (hl : p.length ≤ xs.length) (hd : xs.Pairwise fun a b => ¬ cg (b - a) 0) (h : ∀ x ∈ xs, cg (ev p x) 0) : ∀ z ∈ p, cg z 0 := by
  induction xs generalizing p with
  | nil =>
    have : p = [] := List.eq_nil_of_length_eq_zero (by simpa using hl)
    subst this; simp
  | cons r xs ih =>
    cases p with
    | nil => simp
    | cons c p =>
      rw [List.pairwise_cons] at hd
      have hr : cg (ev (c :: p) r) 0 := h r (by simp)
      refine dv_zero r c p (ih _ (by rw [dv_len]; simpa using hl) hd.2 fun s hs => ?_) hr
      have hs' : cg (ev (c :: p) s) 0 := h s (by simp [hs])
      rw [dv_ev r] at hs'
      have : cg ((s - r) * ev (dv r (c :: p)) s) 0 := by simpa using hs'.sub hr
      rcases cg_prime this with h' | h'
      · exact absurd h' (hd.1 s hs)
      · exact h'
def pts (n : Nat) : List Int := (List.range n).map fun (i : Nat) => (i : Int)
theorem pts_pair (n : Nat) (hn : n ≤ 31) : (pts n).Pairwise fun a b => ¬ cg (b - a) 0 := by
  unfold pts
  rw [List.pairwise_map]
  refine List.Pairwise.imp_of_mem ?_ List.pairwise_lt_range
  intro a b ha hb hlt
  simp at ha hb
  unfold cg; omega
theorem zip_ev (p q : List Int) (h : p.length = q.length) (x : Int) : ev (List.zipWith (· - ·) p q) x = ev p x - ev q x := by
  induction p generalizing q with
  | nil => cases q with
    | nil => rfl
    | cons => simp at h
  | cons c p ih => cases q with
    | nil => simp at h
    | cons d q =>
      rw [List.zipWith_cons_cons, ev_cons, ev_cons, ev_cons, ih q (by simpa using h)]; grind
/-- Two polynomials of as many numbers that are the same at as many places are the same. -/
theorem uniq {p q : List Int} (hl : p.length = q.length) (h31 : p.length ≤ 31) (hp : ∀ z ∈ p, ok z = true) (hq : ∀ z ∈ q, ok z = true)
    (h : ∀ i : Nat, i < p.length → cg (ev p i) (ev q i)) : p = q := by
  have hz := roots (List.zipWith (· - ·) p q) (pts p.length) (by simp [pts]; omega) (pts_pair _ h31) (by
    intro x hx
    simp [pts] at hx
    obtain ⟨i, hi, rfl⟩ := hx
    rw [zip_ev p q hl]
    have := (h i hi).sub (cg.rfl' (ev q i))
    simpa using this)
  apply List.ext_getElem hl
  intro i h1 h2
  have hm : p[i] - q[i] ∈ List.zipWith (· - ·) p q := by
    rw [List.mem_iff_getElem]
    exact ⟨i, by simp; omega, by simp⟩
  have := hz _ hm
  have a1 := (ok_iff _).1 (hp p[i] (List.getElem_mem h1))
  have a2 := (ok_iff _).1 (hq q[i] (List.getElem_mem h2))
  unfold cg at this
  omega
end Go.Proofs.Ytmaapekmndjgiaa.Fp
