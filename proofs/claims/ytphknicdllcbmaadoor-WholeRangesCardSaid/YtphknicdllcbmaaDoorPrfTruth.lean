/-
  Plain mathematics: the parts' roots lead from a leaf to the list's root, and from an elder list's root to both. Nothing here speaks of the program. No condition.
-/
import Derived.Test.YtphknicdllcbmaaDoorPrfRoots
import Derived.Test.YtphknicdllcbmaaDoorPrfCon
namespace Go.Proofs.YtphknicdllcbmaaDoor
open Go Go.RowKit Go.Shelf TreeM

theorem leadP_snoc (a : Nat) : ∀ (xs : List Pt) (ys : List D) (p : Pt) (y t : D), xs.length = ys.length → leadP a (xs ++ [p]) (ys ++ [y]) t = if p.1 > a then node (leadP a xs ys t) y else node y (leadP a xs ys t) := by
  intro xs
  induction xs with
  | nil =>
    intro ys p y t h
    cases ys with
    | nil => rfl
    | cons _ _ => simp at h
  | cons x xs ih =>
    intro ys p y t h
    cases ys with
    | nil => simp at h
    | cons z ys =>
      simp only [List.cons_append, leadP]
      exact ih ys p y _ (by simpa using h)
theorem bothP_snoc (m : Nat) : ∀ (xs : List Pt) (ys : List D) (p : Pt) (y e n : D), xs.length = ys.length → bothP m (xs ++ [p]) (ys ++ [y]) e n = if p.2 = m then (y, y) else if p.2 < m then (node y (bothP m xs ys e n).1, node y (bothP m xs ys e n).2) else ((bothP m xs ys e n).1, node (bothP m xs ys e n).2 y) := by
  intro xs
  induction xs with
  | nil =>
    intro ys p y e n h
    cases ys with
    | nil =>
      simp only [List.nil_append, bothP]
    | cons _ _ => simp at h
  | cons x xs ih =>
    intro ys p y e n h
    cases ys with
    | nil => simp at h
    | cons z ys =>
      have h' : xs.length = ys.length := by simpa using h
      simp only [List.cons_append, bothP]
      by_cases h1 : x.2 = m
      · rw [if_pos h1, if_pos h1]
        exact ih ys p y _ _ h'
      · rw [if_neg h1, if_neg h1]
        by_cases h2 : x.2 < m
        · rw [if_pos h2, if_pos h2]
          exact ih ys p y _ _ h'
        · rw [if_neg h2, if_neg h2]
          exact ih ys p y _ _ h'
/-- A part's root, by its halves. -/
theorem rtP_halves (l : List D) (f t : Nat) (h : f + 2 ≤ t) (ht : t ≤ l.length) : rtP l (f, t) = node (rtP l (f, f + half (t - f))) (rtP l (f + half (t - f), t)) := by
  have h1 := half_lt (n := t - f) (by omega)
  have hlen : ((l.drop f).take (t - f)).length = t - f := by rw [List.length_take, List.length_drop]; omega
  unfold rtP
  simp only
  rw [mth_halves (by rw [hlen]; omega), hlen, List.take_take, Nat.min_eq_left (by omega), List.drop_take, List.drop_drop, show f + half (t - f) - f = half (t - f) from by omega, show t - f - half (t - f) = t - (f + half (t - f)) from by omega]
theorem rtP_one (l : List D) (f : Nat) (h : f < l.length) : rtP l (f, f + 1) = l.getD f dz := by
  unfold rtP
  simp only
  rw [show f + 1 - f = 1 from by omega, List.drop_eq_getElem_cons h]
  simp only [List.take_succ_cons, List.take_zero, mth_one]
  rw [List.getD_eq_getElem?_getD, List.getElem?_eq_getElem h]
  rfl
/-- The way leads from a leaf to the part's root. -/
theorem lead_true (l : List D) : ∀ (j a f t : Nat), t - f ≤ j → f ≤ a → a < t → t ≤ l.length → leadP a (wayP a f t).reverse ((wayP a f t).reverse.map (rtP l)) (l.getD a dz) = rtP l (f, t) := by
  intro j
  induction j with
  | zero =>
    intro a f t h h1 h2 _
    omega
  | succ j ih =>
    intro a f t h h1 h2 h3
    by_cases h4 : f + 2 ≤ t
    · have hr := inP_range (a := a) h4
      have hh := inP_has (f := f) (t := t) h1 h2
      have hi := ih a (inP a f t).1 (inP a f t).2 (by omega) hh.1 hh.2 (by omega)
      rw [wayP_step h4, List.reverse_cons, List.map_append, List.map_cons, List.map_nil, leadP_snoc _ _ _ _ _ _ (by simp), hi, rtP_halves l f t h4 h3]
      unfold inP besP
      by_cases h5 : a < f + half (t - f)
      · rw [if_pos h5, if_pos h5, if_pos h5]
      · rw [if_neg h5, if_neg (by simp only; omega), if_neg h5]
    · obtain rfl : t = f + 1 := by omega
      obtain rfl : a = f := by omega
      rw [wayP_end h4, rtP_one l a (by omega)]
      simp [leadP]
/-- The greatest power of two below a number that lies between. -/
theorem half_mid {n k : Nat} (h2 : 2 ≤ n) (h : half n < k) (hk : k ≤ n) : half k = half n := by
  have hp : 0 < 2 ^ Nat.log2 (n - 1) := Nat.two_pow_pos _
  unfold half top2 at h ⊢
  have h3 : Nat.log2 (k - 1) = Nat.log2 (n - 1) := by
    have h4 : 2 ^ Nat.log2 (n - 1) ≤ k - 1 := by omega
    have h5 := (Nat.le_log2 (n := k - 1) (by omega)).2 h4
    have h6 : 2 ^ Nat.log2 (k - 1) ≤ n - 1 := Nat.le_trans (Nat.log2_self_le (by omega)) (by omega)
    have h7 := (Nat.le_log2 (n := n - 1) (by omega)).2 h6
    omega
  rw [h3]
/-- The link leads to both roots. -/
theorem both_true (l : List D) (m : Nat) : ∀ (j f t : Nat), t - f ≤ j → f < m → m ≤ t → t ≤ l.length → bothP m (linkP m f t).reverse ((linkP m f t).reverse.map (rtP l)) (rtP l (0, m)) (rtP l (0, m)) = (rtP l (f, m), rtP l (f, t)) := by
  intro j
  induction j with
  | zero =>
    intro f t h h1 h2 _
    omega
  | succ j ih =>
    intro f t h h1 h2 h3
    by_cases h4 : m < t
    · have h5 : f + 2 ≤ t := by omega
      have hr := inP_range (a := m - 1) h5
      have hh := inP_has (a := m - 1) (f := f) (t := t) (by omega) (by omega)
      have hi := ih (inP (m - 1) f t).1 (inP (m - 1) f t).2 (by omega) (by omega) (by omega) (by omega)
      rw [linkP_step h4 h5, List.reverse_cons, List.map_append, List.map_cons, List.map_nil, bothP_snoc _ _ _ _ _ _ _ (by simp), hi, rtP_halves l f t h5 h3]
      unfold inP besP
      by_cases h6 : m - 1 < f + half (t - f)
      · rw [if_pos h6, if_pos h6, if_neg (by simp only; omega), if_neg (by simp only; omega)]
      · have h7 : half (m - f) = half (t - f) := half_mid (by omega) (by omega) (by omega)
        rw [if_neg h6, if_neg h6, if_neg (by simp only; omega), if_pos (by simp only; omega), rtP_halves l f m (by have := half_pos (t - f); omega) (by omega), h7]
    · obtain rfl : m = t := by omega
      rw [linkP_end (by omega)]
      by_cases h5 : f > 0
      · rw [if_pos h5]
        simp [bothP]
      · rw [if_neg h5]
        obtain rfl : f = 0 := by omega
        simp [bothP]
theorem rtP_all (l : List D) : rtP l (0, l.length) = mth l := by
  unfold rtP
  simp
theorem rtP_head (l : List D) (m : Nat) : rtP l (0, m) = mth (l.take m) := by
  unfold rtP
  simp
/-- A leaf's own path proves it. -/
theorem cinc_true (l : List D) (a : Nat) (ha : a < l.length) (hl : l.length ≤ 1000000) : cincV (l.getD a dz) a l.length ((wayP a 0 l.length).reverse.map (rtP l)) (mth l) = 0 := by
  unfold cincV
  rw [if_neg (by omega), Int.toNat_natCast, Int.toNat_natCast, if_neg (by simp), lead_true l l.length a 0 l.length (by omega) (by omega) ha (Nat.le_refl _), rtP_all]
  simp
/-- A list's own path proves that it begins so. -/
theorem ccon_true (l : List D) (m : Nat) (h1 : 1 ≤ m) (hm : m ≤ l.length) (hl : l.length ≤ 1000000) : cconV m l.length (mth (l.take m)) (mth l) ((linkP m 0 l.length).reverse.map (rtP l)) = 0 := by
  unfold cconV
  rw [if_neg (by omega), Int.toNat_natCast, Int.toNat_natCast, if_neg (by simp), ← rtP_head, both_true l m l.length 0 l.length (by omega) (by omega) hm (Nat.le_refl _), rtP_all]
  simp
end Go.Proofs.YtphknicdllcbmaaDoor
