/-
  Plain mathematics for trees: the root by halves, the whole trees of a list, a leaf more. Nothing here speaks of the program. No condition.
-/
import Derived.Test.YtphknicdllcbmaaDoorMath
namespace Go.Proofs.YtphknicdllcbmaaDoor
namespace TreeM
abbrev D := Nat → UInt8
def idl (f : D) : List UInt8 := (List.range 32).map f
def node (l r : D) : D := sha (1 :: (idl l ++ idl r))
/-- The greatest power of two that is at most n. -/
def top2 (n : Nat) : Nat := 2 ^ Nat.log2 n
theorem top2_le {n : Nat} (h : n ≠ 0) : top2 n ≤ n := Nat.log2_self_le h
theorem top2_pos (n : Nat) : 0 < top2 n := Nat.two_pow_pos _
theorem top2_lt {n : Nat} : n < 2 * top2 n := by
  unfold top2
  have := Nat.lt_log2_self (n := n)
  rw [Nat.pow_succ] at this
  omega
/-- What is at most n and more than half of it, and a power of two, is it. -/
theorem top2_eq {n j : Nat} (h1 : 2 ^ j ≤ n) (h2 : n < 2 * 2 ^ j) : top2 n = 2 ^ j := by
  unfold top2
  congr 1
  have hn : n ≠ 0 := by have := Nat.two_pow_pos j; omega
  exact (Nat.log2_eq_iff hn).2 ⟨h1, by rw [Nat.pow_succ]; omega⟩
/-- The greatest power of two below n. -/
def half (n : Nat) : Nat := top2 (n - 1)
theorem half_lt {n : Nat} (h : 2 ≤ n) : half n < n := by
  have := top2_le (n := n - 1) (by omega)
  unfold half
  omega
theorem half_pos (n : Nat) : 0 < half n := top2_pos _
/-- The root of a list, by halves. -/
def mth (l : List D) : D :=
  match l with
  | [] => sha []
  | [x] => x
  | x :: y :: r => node (mth ((x :: y :: r).take (half (r.length + 2)))) (mth ((x :: y :: r).drop (half (r.length + 2))))
termination_by l.length
decreasing_by
  · have := half_lt (n := r.length + 2) (by omega)
    simp only [List.length_take, List.length_cons]
    omega
  · have := half_pos (r.length + 2)
    simp only [List.length_drop, List.length_cons]
    omega
theorem mth_nil : mth [] = sha [] := by rw [mth]
theorem mth_one (x : D) : mth [x] = x := by rw [mth]
theorem mth_halves {l : List D} (h : 2 ≤ l.length) : mth l = node (mth (l.take (half l.length))) (mth (l.drop (half l.length))) := by
  match l, h with
  | x :: y :: r, _ => rw [mth]; rfl
/-- The sums of the whole trees of a list, from the left. -/
def tops (l : List D) : List D :=
  if _h : l = [] then [] else mth (l.take (top2 l.length)) :: tops (l.drop (top2 l.length))
termination_by l.length
decreasing_by
  have := top2_pos l.length
  have := List.length_pos_iff.2 _h
  simp only [List.length_drop]
  omega
theorem tops_nil : tops [] = [] := by rw [tops]; rfl
theorem tops_cons {l : List D} (h : l ≠ []) : tops l = mth (l.take (top2 l.length)) :: tops (l.drop (top2 l.length)) := by
  conv => lhs; rw [tops]
  rw [dif_neg h]
/-- A leaf more: it carries over each lowest one. -/
def carry (n : Nat) (ts : List D) (x : D) : List D :=
  if _h : n % 2 = 1 then carry (n / 2) ts.dropLast (node (ts.getLastD x) x) else ts ++ [x]
termination_by n
decreasing_by omega
theorem carry_odd {n : Nat} (h : n % 2 = 1) (ts : List D) (x : D) : carry n ts x = carry (n / 2) ts.dropLast (node (ts.getLastD x) x) := by
  conv => lhs; rw [carry]
  rw [dif_pos h]
theorem carry_even {n : Nat} (h : ¬ n % 2 = 1) (ts : List D) (x : D) : carry n ts x = ts ++ [x] := by
  rw [carry, dif_neg h]
/-- How many ones a number has among its digits. -/
def pop (n : Nat) : Nat := if h : n = 0 then 0 else n % 2 + pop (n / 2)
termination_by n
decreasing_by omega
theorem pop_zero : pop 0 = 0 := by rw [pop]; rfl
theorem pop_step (n : Nat) : pop n = n % 2 + pop (n / 2) := by
  by_cases h : n = 0
  · subst h
    simp [pop_zero]
  · conv => lhs; rw [pop]
    rw [dif_neg h]
theorem pop_odd_pos {n : Nat} (h : n % 2 = 1) : 0 < pop n := by rw [pop_step]; omega
theorem pop_two (m : Nat) : pop (2 * m) = pop m := by
  rw [pop_step (2 * m), show 2 * m / 2 = m from by omega]; omega
theorem pop_two1 (m : Nat) : pop (2 * m + 1) = pop m + 1 := by
  rw [pop_step (2 * m + 1), show (2 * m + 1) / 2 = m from by omega]; omega
theorem pop_le : ∀ (j n : Nat), n < 2 ^ j → pop n ≤ j := by
  intro j
  induction j with
  | zero =>
    intro n hn
    rw [show n = 0 from by omega, pop_zero]; omega
  | succ j ih =>
    intro n hn
    rw [pop_step]
    have := ih (n / 2) (by rw [Nat.pow_succ] at hn; omega)
    omega
theorem pop_pow (j m : Nat) (h : m < 2 ^ j) : pop (2 ^ j + m) = pop m + 1 := by
  induction j generalizing m with
  | zero =>
    rw [show m = 0 from by omega, pop_zero]
    show pop (2 * 0 + 1) = 0 + 1
    rw [pop_two1, pop_zero]
  | succ j ih =>
    have hm : m / 2 < 2 ^ j := by rw [Nat.pow_succ] at h; omega
    rw [pop_step (2 ^ (j + 1) + m), pop_step m, show (2 ^ (j + 1) + m) / 2 = 2 ^ j + m / 2 from by rw [Nat.pow_succ]; omega, ih _ hm, show (2 ^ (j + 1) + m) % 2 = m % 2 from by rw [Nat.pow_succ]; omega]
    omega
theorem carry_length : ∀ (n : Nat) (ts : List D) (x : D), ts.length = pop n → (carry n ts x).length = pop (n + 1) := by
  intro n
  induction n using Nat.strongRecOn with
  | _ n ih =>
    intro ts x hl
    by_cases h : n % 2 = 1
    · rw [carry_odd h, ih (n / 2) (by omega) _ _ (by rw [List.length_dropLast, hl, pop_step n]; omega)]
      rw [pop_step (n + 1), show (n + 1) / 2 = n / 2 + 1 from by omega]
      omega
    · rw [carry_even h, List.length_append, hl]
      have e : n = 2 * (n / 2) := by omega
      rw [e, pop_two, pop_two1]
      rfl
theorem getLastD_cons_ne {t d : D} {ts : List D} (h : ts ≠ []) : (t :: ts).getLastD d = ts.getLastD d := by
  cases ts with
  | nil => exact absurd rfl h
  | cons a r => rfl
/-- The highest digit's tree, and what is below it: a leaf more below it. -/
theorem carry_cons : ∀ (j m : Nat) (t : D) (ts : List D) (x : D), m < 2 ^ j → ts.length = pop m →
    carry (2 ^ j + m) (t :: ts) x = if m + 1 = 2 ^ j then [node t ((carry m ts x).getLastD x)] else t :: carry m ts x := by
  intro j
  induction j with
  | zero =>
    intro m t ts x hm hl
    obtain rfl : m = 0 := by omega
    have hts : ts = [] := List.eq_nil_of_length_eq_zero (by rw [hl, pop_zero])
    subst hts
    rw [if_pos rfl, carry_odd (by rfl), carry_even (n := 0) (by decide)]
    rw [carry_even (n := 0) (by decide)]
    rfl
  | succ j ih =>
    intro m t ts x hm hl
    by_cases h : m % 2 = 1
    · have hne : ts ≠ [] := by
        intro e
        have := pop_odd_pos h
        rw [e] at hl
        simp at hl
        omega
      have hm2 : m / 2 < 2 ^ j := by rw [Nat.pow_succ] at hm; omega
      rw [carry_odd (by rw [Nat.pow_succ]; omega), show (2 ^ (j + 1) + m) / 2 = 2 ^ j + m / 2 from by rw [Nat.pow_succ]; omega, List.dropLast_cons_of_ne_nil hne, getLastD_cons_ne hne,
        ih (m / 2) t ts.dropLast (node (ts.getLastD x) x) hm2 (by rw [List.length_dropLast, hl, pop_step m]; omega), carry_odd h]
      by_cases h2 : m / 2 + 1 = 2 ^ j
      · rw [if_pos h2, if_pos (by rw [Nat.pow_succ]; omega)]
        congr 2
        have hc : ∀ (n : Nat) (ts : List D) (x : D), carry n ts x ≠ [] := by
          intro n
          induction n using Nat.strongRecOn with
          | _ n ih2 =>
            intro ts x
            by_cases h : n % 2 = 1
            · rw [carry_odd h]; exact ih2 _ (by omega) _ _
            · rw [carry_even h]; simp
        have := hc (m / 2) ts.dropLast (node (ts.getLastD x) x)
        cases hcc : carry (m / 2) ts.dropLast (node (ts.getLastD x) x) with
        | nil => exact absurd hcc this
        | cons a r => rfl
      · rw [if_neg h2, if_neg (by rw [Nat.pow_succ]; omega)]
    · rw [carry_even (by rw [Nat.pow_succ]; omega), carry_even h, if_neg (by rw [Nat.pow_succ]; omega)]
      rfl
theorem tops_length : ∀ (n : Nat) (l : List D), l.length = n → (tops l).length = pop n := by
  intro n
  induction n using Nat.strongRecOn with
  | _ n ih =>
    intro l hl
    by_cases h : l = []
    · subst h
      simp at hl
      subst hl
      rw [tops_nil, pop_zero]; rfl
    · have hp := List.length_pos_iff.2 h
      have h1 := top2_le (n := n) (by omega)
      have h2 := top2_lt (n := n)
      have h3 := top2_pos n
      rw [tops_cons h, List.length_cons, hl, ih (n - top2 n) (by omega) _ (by rw [List.length_drop, hl])]
      have := pop_pow (Nat.log2 n) (n - top2 n) (by show n - top2 n < top2 n; omega)
      rw [show 2 ^ Nat.log2 n + (n - top2 n) = n from by show top2 n + (n - top2 n) = n; omega] at this
      exact this.symm
/-- A power of two has one whole tree. -/
theorem tops_pow (j : Nat) (l : List D) (h : l.length = 2 ^ j) : tops l = [mth l] := by
  have hp := Nat.two_pow_pos j
  have hne : l ≠ [] := by intro e; rw [e] at h; simp at h; omega
  rw [tops_cons hne, h, top2_eq (j := j) (by omega) (by omega), List.take_of_length_le (by omega), List.drop_eq_nil_of_le (by omega), tops_nil]
/-- THE WHOLE TREES OF A LEAF MORE. -/
theorem tops_snoc : ∀ (n : Nat) (l : List D) (x : D), l.length = n → tops (l ++ [x]) = carry n (tops l) x := by
  intro n
  induction n using Nat.strongRecOn with
  | _ n ih =>
    intro l x hl
    by_cases h : l = []
    · subst h
      simp at hl
      subst hl
      rw [tops_nil, carry_even (by decide), List.nil_append, tops_pow 0 [x] rfl, mth_one]
    · have hp := List.length_pos_iff.2 h
      have h1 := top2_le (n := n) (by omega)
      have h2 := top2_lt (n := n)
      have h3 := top2_pos n
      have hj : top2 n = 2 ^ Nat.log2 n := rfl
      have hd : (l.drop (top2 n)).length = n - top2 n := by rw [List.length_drop, hl]
      have ht : (l.take (top2 n)).length = top2 n := by rw [List.length_take, hl]; omega
      have hi := ih (n - top2 n) (by omega) (l.drop (top2 n)) x hd
      have hc := carry_cons (Nat.log2 n) (n - top2 n) (mth (l.take (top2 n))) (tops (l.drop (top2 n))) x (by show _ < top2 n; omega) (tops_length _ _ hd)
      rw [show 2 ^ Nat.log2 n + (n - top2 n) = n from by show top2 n + (n - top2 n) = n; omega] at hc
      rw [tops_cons h, hl, hc, ← hi]
      have hne : l ++ [x] ≠ [] := by simp
      have hl1 : (l ++ [x]).length = n + 1 := by simp [hl]
      by_cases hfull : n - top2 n + 1 = 2 ^ Nat.log2 n
      · rw [if_pos hfull, tops_pow (Nat.log2 n + 1) (l ++ [x]) (by rw [hl1, Nat.pow_succ]; omega), tops_pow (Nat.log2 n) (l.drop (top2 n) ++ [x]) (by rw [List.length_append, hd]; exact hfull)]
        rw [mth_halves (by omega)]
        have hhalf : half (l ++ [x]).length = top2 n := by
          rw [hl1]; rfl
        rw [hhalf, List.take_append_of_le_length (by omega), List.drop_append_of_le_length (by omega)]
        rfl
      · rw [if_neg hfull, tops_cons hne, hl1]
        have e : top2 (n + 1) = top2 n := by rw [hj]; exact top2_eq (by omega) (by omega)
        rw [e, List.take_append_of_le_length (by omega), List.drop_append_of_le_length (by omega)]
/-- The root of whole trees. -/
def rootOf (ts : List D) : D := if ts = [] then sha [] else ts.dropLast.foldr node (ts.getLastD (sha []))
theorem rootOf_one (t : D) : rootOf [t] = t := rfl
theorem rootOf_cons {t : D} {ts : List D} (h : ts ≠ []) : rootOf (t :: ts) = node t (rootOf ts) := by
  unfold rootOf
  rw [if_neg (by simp), if_neg h, List.dropLast_cons_of_ne_nil h, getLastD_cons_ne h, List.foldr_cons]
/-- THE ROOT OF THE WHOLE TREES IS THE LIST'S. -/
theorem root_tops : ∀ (n : Nat) (l : List D), l.length = n → rootOf (tops l) = mth l := by
  intro n
  induction n using Nat.strongRecOn with
  | _ n ih =>
    intro l hl
    by_cases h : l = []
    · subst h
      rw [tops_nil, mth_nil]; rfl
    · have hp := List.length_pos_iff.2 h
      have h1 := top2_le (n := n) (by omega)
      have h2 := top2_lt (n := n)
      have h3 := top2_pos n
      rw [tops_cons h, hl]
      by_cases he : top2 n = n
      · rw [he, List.drop_eq_nil_of_le (by omega), tops_nil, rootOf_one, List.take_of_length_le (by omega)]
      · have hd : (l.drop (top2 n)).length = n - top2 n := by rw [List.length_drop, hl]
        have hdn : l.drop (top2 n) ≠ [] := by intro e; rw [e] at hd; simp at hd; omega
        have htn : tops (l.drop (top2 n)) ≠ [] := by rw [tops_cons hdn]; simp
        rw [rootOf_cons htn, ih (n - top2 n) (by omega) _ hd, mth_halves (l := l) (by omega)]
        have hh : half l.length = top2 n := by
          rw [hl]
          unfold half
          have hj : top2 n = 2 ^ Nat.log2 n := rfl
          rw [hj]
          exact top2_eq (by omega) (by omega)
        rw [hh]
end TreeM
end Go.Proofs.YtphknicdllcbmaaDoor