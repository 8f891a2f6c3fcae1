/-
  Plain mathematics: to what the reference's walk from the root down leads, and that it is what the parts' walk leads to. Nothing here speaks of the program. No condition.
-/
import Derived.Test.YtdfgffmefonelaaDoorPrfTruth
namespace Go.Proofs.YtdfgffmefonelaaDoor
open Go Go.RowKit Go.Shelf TreeM

/-- The reference's walk from a leaf: the path, the highest first. -/
def leadR : List D → Nat → Nat → D → D × Bool
  | [], _, n, id => (id, decide (n = 1))
  | x :: rp, a, n, id =>
    if n = 1 then (id, false)
    else if a < half n then (node (leadR rp a (half n) id).1 x, (leadR rp a (half n) id).2)
    else (node x (leadR rp (a - half n) (n - half n) id).1, (leadR rp (a - half n) (n - half n) id).2)
theorem leadR_way (id : D) : ∀ (rp : List D) (a f t : Nat), f ≤ a → a < t →
    (leadR rp (a - f) (t - f) id).2 = decide (rp.length = (wayP a f t).length) ∧ (rp.length = (wayP a f t).length → (leadR rp (a - f) (t - f) id).1 = leadP a (wayP a f t).reverse rp.reverse id) := by
  intro rp
  induction rp with
  | nil =>
    intro a f t h1 h2
    by_cases h : f + 2 ≤ t
    · rw [wayP_step h]
      refine ⟨?_, fun h' => by simp at h'⟩
      simp only [leadR, List.length_nil, List.length_cons]
      rw [decide_eq_false (by omega), decide_eq_false (by omega)]
    · rw [wayP_end h]
      refine ⟨?_, fun _ => rfl⟩
      simp only [leadR, List.length_nil]
      rw [decide_eq_true (by omega)]
      simp
  | cons x rp ih =>
    intro a f t h1 h2
    by_cases h : f + 2 ≤ t
    · have hh := inP_has (f := f) (t := t) h1 h2
      have hi := ih a (inP a f t).1 (inP a f t).2 hh.1 hh.2
      rw [wayP_step h]
      unfold leadR
      rw [if_neg (by omega)]
      simp only [List.reverse_cons, List.length_cons]
      have hpos := half_pos (t - f)
      have hlt := half_lt (n := t - f) (by omega)
      by_cases h5 : a < f + half (t - f)
      · have e1 : inP a f t = (f, f + half (t - f)) := by unfold inP; rw [if_pos h5]
        have e2 : besP a f t = (f + half (t - f), t) := by unfold besP; rw [if_pos h5]
        rw [e1] at hi ⊢
        simp only at hi ⊢
        rw [show f + half (t - f) - f = half (t - f) from by omega] at hi
        rw [if_pos (by omega), e2]
        refine ⟨?_, fun h' => ?_⟩
        · simp only [hi.1]
          congr 1
          simp
        · rw [leadP_snoc _ _ _ _ _ _ (by simp; omega), if_pos (by simp only; omega), ← hi.2 (by omega)]
      · have e1 : inP a f t = (f + half (t - f), t) := by unfold inP; rw [if_neg h5]
        have e2 : besP a f t = (f, f + half (t - f)) := by unfold besP; rw [if_neg h5]
        rw [e1] at hi ⊢
        simp only at hi ⊢
        rw [show a - (f + half (t - f)) = a - f - half (t - f) from by omega, show t - (f + half (t - f)) = t - f - half (t - f) from by omega] at hi
        rw [if_neg (by omega), e2]
        refine ⟨?_, fun h' => ?_⟩
        · simp only [hi.1]
          congr 1
          simp
        · rw [leadP_snoc _ _ _ _ _ _ (by simp; omega), if_neg (by simp only; omega), ← hi.2 (by omega)]
    · rw [wayP_end h]
      refine ⟨?_, fun h' => by simp at h'⟩
      unfold leadR
      rw [if_pos (by omega)]
      simp
/-- CheckInclusion's answer, by the reference's walk. -/
theorem cincV_ref (leaf root : D) (a n : Nat) (path : List D) (ha : a < n) (hn : n ≤ 1099511627776) :
    cincV leaf (a : Int) (n : Int) path root = if (leadR path.reverse a n leaf).2 = true ∧ (id32 (leadR path.reverse a n leaf).1 == id32 root) = true then 0 else 60 := by
  have h := leadR_way leaf path.reverse a 0 n (Nat.zero_le _) ha
  rw [Nat.sub_zero, Nat.sub_zero, List.length_reverse, List.reverse_reverse] at h
  unfold cincV
  rw [if_neg (by omega), Int.toNat_natCast, Int.toNat_natCast, h.1]
  by_cases hl : path.length = (wayP a 0 n).length
  · rw [if_neg (fun h' => h' hl), h.2 hl]
    simp [hl]
  · rw [if_pos hl, if_neg (by simp [hl])]
/-- The reference's walk to two roots: the path, the highest first. -/
def bothR : List D → Nat → Nat → D → Bool → D × D × Bool
  | [], m, n, one, whole => (one, one, decide (m = n) && whole)
  | x :: rp, m, n, one, whole =>
    if m = n then if whole then (one, one, false) else if rp.length = 0 then (x, x, true) else (one, one, false)
    else if m ≤ half n then ((bothR rp m (half n) one whole).1, node (bothR rp m (half n) one whole).2.1 x, (bothR rp m (half n) one whole).2.2)
    else (node x (bothR rp (m - half n) (n - half n) one false).1, node x (bothR rp (m - half n) (n - half n) one false).2.1, (bothR rp (m - half n) (n - half n) one false).2.2)
theorem bothR_link (one : D) : ∀ (rp : List D) (m f t : Nat), f < m → m ≤ t →
    (bothR rp (m - f) (t - f) one (decide (f = 0))).2.2 = decide (rp.length = (linkP m f t).length) ∧
    (rp.length = (linkP m f t).length → ((bothR rp (m - f) (t - f) one (decide (f = 0))).1, (bothR rp (m - f) (t - f) one (decide (f = 0))).2.1) = bothP m (linkP m f t).reverse rp.reverse one one) := by
  intro rp
  induction rp with
  | nil =>
    intro m f t h1 h2
    by_cases h : m < t
    · rw [linkP_step h (by omega)]
      refine ⟨?_, fun h' => by simp at h'⟩
      simp only [bothR, List.length_nil, List.length_cons]
      rw [decide_eq_false (by omega)]
      simp
    · obtain rfl : m = t := by omega
      rw [linkP_end h]
      by_cases hf : f > 0
      · rw [if_pos hf]
        refine ⟨?_, fun h' => by simp at h'⟩
        simp only [bothR, List.length_nil, List.length_cons]
        rw [decide_eq_false (show ¬ f = 0 by omega)]
        simp
      · obtain rfl : f = 0 := by omega
        rw [if_neg hf]
        refine ⟨by simp [bothR], fun _ => rfl⟩
  | cons x rp ih =>
    intro m f t h1 h2
    by_cases h : m < t
    · have h5 : f + 2 ≤ t := by omega
      have hpos := half_pos (t - f)
      have hlt := half_lt (n := t - f) (by omega)
      rw [linkP_step h h5]
      unfold bothR
      rw [if_neg (by omega)]
      simp only [List.reverse_cons, List.length_cons]
      by_cases h6 : m - 1 < f + half (t - f)
      · have hi := ih m f (f + half (t - f)) h1 (by omega)
        have e1 : inP (m - 1) f t = (f, f + half (t - f)) := by unfold inP; rw [if_pos h6]
        have e2 : besP (m - 1) f t = (f + half (t - f), t) := by unfold besP; rw [if_pos h6]
        rw [show f + half (t - f) - f = half (t - f) from by omega] at hi
        rw [e1, e2, if_pos (by omega)]
        refine ⟨?_, fun h' => ?_⟩
        · simp only [hi.1]
          congr 1
          simp
        · have h7 := hi.2 (by simpa using h')
          rw [bothP_snoc _ _ _ _ _ _ _ (by simpa using h'.symm), if_neg (by simp only; omega), if_neg (by simp only; omega), ← h7]
      · have hi := ih m (f + half (t - f)) t (by omega) h2
        have e1 : inP (m - 1) f t = (f + half (t - f), t) := by unfold inP; rw [if_neg h6]
        have e2 : besP (m - 1) f t = (f, f + half (t - f)) := by unfold besP; rw [if_neg h6]
        rw [decide_eq_false (show ¬ f + half (t - f) = 0 by omega), show m - (f + half (t - f)) = m - f - half (t - f) from by omega, show t - (f + half (t - f)) = t - f - half (t - f) from by omega] at hi
        rw [e1, e2, if_neg (by omega)]
        refine ⟨?_, fun h' => ?_⟩
        · simp only [hi.1]
          congr 1
          simp
        · have h7 := hi.2 (by simpa using h')
          rw [bothP_snoc _ _ _ _ _ _ _ (by simpa using h'.symm), if_neg (by simp only; omega), if_pos (by simp only; omega), ← h7]
    · obtain rfl : m = t := by omega
      rw [linkP_end h]
      unfold bothR
      rw [if_pos rfl]
      by_cases hf : f > 0
      · rw [if_pos hf, decide_eq_false (show ¬ f = 0 by omega)]
        simp only [Bool.false_eq_true, if_false, List.length_cons, List.length_nil]
        by_cases hr : rp.length = 0
        · obtain rfl : rp = [] := List.eq_nil_of_length_eq_zero hr
          refine ⟨by simp, fun _ => by simp [bothP]⟩
        · rw [if_neg hr]
          refine ⟨by simp; exact fun h' => hr (by simp [h']), fun h' => absurd h' (by omega)⟩
      · obtain rfl : f = 0 := by omega
        rw [if_neg hf]
        refine ⟨by simp, fun h' => by simp at h'⟩
/-- CheckConsistency's answer, by the reference's walk. -/
theorem cconV_ref (one two : D) (m n : Nat) (path : List D) (hm : 1 ≤ m) (hmn : m ≤ n) (hn : n ≤ 1099511627776) :
    cconV (m : Int) (n : Int) one two path = if (bothR path.reverse m n one true).2.2 = true ∧ (id32 (bothR path.reverse m n one true).1 == id32 one) = true ∧ (id32 (bothR path.reverse m n one true).2.1 == id32 two) = true then 0 else 60 := by
  have h := bothR_link one path.reverse m 0 n (by omega) hmn
  rw [Nat.sub_zero, Nat.sub_zero, List.length_reverse, List.reverse_reverse, decide_eq_true rfl] at h
  unfold cconV
  rw [if_neg (by omega), Int.toNat_natCast, Int.toNat_natCast, h.1]
  by_cases hl : path.length = (linkP m 0 n).length
  · rw [if_neg (fun h' => h' hl), ← h.2 hl]
    simp [hl]
  · rw [if_pos hl, if_neg (by simp [hl])]
end Go.Proofs.YtdfgffmefonelaaDoor
