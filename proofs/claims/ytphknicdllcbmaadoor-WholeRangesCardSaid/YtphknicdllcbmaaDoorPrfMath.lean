/-
  Plain mathematics: the parts beside a leaf's way, and those of a link, from the root down. Nothing here speaks of the program. No condition.
-/
import Derived.Test.YtphknicdllcbmaaDoorPartBase
namespace Go.Proofs.YtphknicdllcbmaaDoor
namespace TreeM
abbrev Pt := Nat × Nat
/-- The half that has the place, and the other one. -/
def inP (a f t : Nat) : Pt := if a < f + half (t - f) then (f, f + half (t - f)) else (f + half (t - f), t)
def besP (a f t : Nat) : Pt := if a < f + half (t - f) then (f + half (t - f), t) else (f, f + half (t - f))
theorem inP_range {a f t : Nat} (h : f + 2 ≤ t) : f ≤ (inP a f t).1 ∧ (inP a f t).1 < (inP a f t).2 ∧ (inP a f t).2 ≤ t ∧ (inP a f t).2 - (inP a f t).1 < t - f := by
  have h1 := half_lt (n := t - f) (by omega)
  have h2 := half_pos (t - f)
  unfold inP
  split
  · exact ⟨Nat.le_refl _, by simp only; omega, by simp only; omega, by simp only; omega⟩
  · exact ⟨by simp only; omega, by simp only; omega, Nat.le_refl _, by simp only; omega⟩
theorem inP_has {a f t : Nat} (hf : f ≤ a) (ht : a < t) : (inP a f t).1 ≤ a ∧ a < (inP a f t).2 := by
  unfold inP
  split
  · exact ⟨hf, by simpa⟩
  · exact ⟨by simp only; omega, ht⟩
theorem besP_range {a f t : Nat} (h : f + 2 ≤ t) : f ≤ (besP a f t).1 ∧ (besP a f t).1 < (besP a f t).2 ∧ (besP a f t).2 ≤ t := by
  have h1 := half_lt (n := t - f) (by omega)
  have h2 := half_pos (t - f)
  unfold besP
  split
  · exact ⟨by simp only; omega, by simp only; omega, Nat.le_refl _⟩
  · exact ⟨Nat.le_refl _, by simp only; omega, by simp only; omega⟩
/-- The parts beside the way to a leaf, the highest first. -/
def wayP (a f t : Nat) : List Pt := if _h : f + 2 ≤ t then besP a f t :: wayP a (inP a f t).1 (inP a f t).2 else []
termination_by t - f
decreasing_by exact (inP_range _h).2.2.2
theorem wayP_step {a f t : Nat} (h : f + 2 ≤ t) : wayP a f t = besP a f t :: wayP a (inP a f t).1 (inP a f t).2 := by
  conv => lhs; rw [wayP]
  rw [dif_pos h]
theorem wayP_end {a f t : Nat} (h : ¬ f + 2 ≤ t) : wayP a f t = [] := by rw [wayP, dif_neg h]
/-- The parts of a link, the highest first; the last of them, if it isn't all. -/
def linkP (m f t : Nat) : List Pt := if _h : m < t ∧ f + 2 ≤ t then besP (m - 1) f t :: linkP m (inP (m - 1) f t).1 (inP (m - 1) f t).2 else if f > 0 then [(f, t)] else []
termination_by t - f
decreasing_by exact (inP_range _h.2).2.2.2
theorem linkP_step {m f t : Nat} (h1 : m < t) (h2 : f + 2 ≤ t) : linkP m f t = besP (m - 1) f t :: linkP m (inP (m - 1) f t).1 (inP (m - 1) f t).2 := by
  conv => lhs; rw [linkP]
  rw [dif_pos ⟨h1, h2⟩]
theorem linkP_end {m f t : Nat} (h : ¬ m < t) : linkP m f t = if f > 0 then [(f, t)] else [] := by
  rw [linkP, dif_neg (fun hh => h hh.1)]
/-- A way is short. -/
theorem wayP_length : ∀ (j a f t : Nat), t - f ≤ 2 ^ j → (wayP a f t).length ≤ j := by
  intro j
  induction j with
  | zero =>
    intro a f t h
    rw [wayP_end (by omega)]
    simp
  | succ j ih =>
    intro a f t h
    by_cases h2 : f + 2 ≤ t
    · rw [wayP_step h2, List.length_cons]
      have hb : half (t - f) ≤ 2 ^ j := by
        have h1 := half_lt (n := t - f) (by omega)
        unfold half top2 at h1 ⊢
        have hlt : 2 ^ Nat.log2 (t - f - 1) < 2 ^ (j + 1) := by omega
        have := (Nat.pow_lt_pow_iff_right (a := 2) (by omega)).1 hlt
        exact Nat.pow_le_pow_right (by omega) (by omega)
      have hc : t - f - half (t - f) ≤ 2 ^ j := by
        have h3 := top2_lt (n := t - f - 1)
        have h4 : half (t - f) = top2 (t - f - 1) := rfl
        by_cases h5 : t - f ≤ 2 ^ j
        · omega
        · have h6 : 2 ^ j ≤ half (t - f) := by
            unfold half top2
            have : j ≤ Nat.log2 (t - f - 1) := (Nat.le_log2 (by omega)).2 (by omega)
            exact Nat.pow_le_pow_right (by omega) this
          rw [Nat.pow_succ] at h
          omega
      have := ih a (inP a f t).1 (inP a f t).2 (by
        unfold inP
        split
        · simp only; omega
        · simp only; omega)
      omega
    · rw [wayP_end h2]
      simp
theorem linkP_length : ∀ (j m f t : Nat), t - f ≤ 2 ^ j → f < m → m ≤ t → (linkP m f t).length ≤ j + 1 := by
  intro j
  induction j with
  | zero =>
    intro m f t h h1 h2
    rw [linkP_end (by omega)]
    split <;> simp
  | succ j ih =>
    intro m f t h h1 h2
    by_cases hm : m < t
    · rw [linkP_step hm (by omega), List.length_cons]
      have hb : half (t - f) ≤ 2 ^ j := by
        have h1 := half_lt (n := t - f) (by omega)
        unfold half top2 at h1 ⊢
        have hlt : 2 ^ Nat.log2 (t - f - 1) < 2 ^ (j + 1) := by omega
        have := (Nat.pow_lt_pow_iff_right (a := 2) (by omega)).1 hlt
        exact Nat.pow_le_pow_right (by omega) (by omega)
      have hc : t - f - half (t - f) ≤ 2 ^ j := by
        have h3 := top2_lt (n := t - f - 1)
        have h4 : half (t - f) = top2 (t - f - 1) := rfl
        by_cases h5 : t - f ≤ 2 ^ j
        · omega
        · have h6 : 2 ^ j ≤ half (t - f) := by
            unfold half top2
            have : j ≤ Nat.log2 (t - f - 1) := (Nat.le_log2 (by omega)).2 (by omega)
            exact Nat.pow_le_pow_right (by omega) this
          rw [Nat.pow_succ] at h
          omega
      have hin := inP_has (a := m - 1) (f := f) (t := t) (by omega) (by omega)
      have := ih m (inP (m - 1) f t).1 (inP (m - 1) f t).2 (by
        unfold inP
        split
        · simp only; omega
        · simp only; omega) (by omega) (by omega)
      omega
    · rw [linkP_end hm]
      split <;> simp
end TreeM
open Go Go.RowKit Go.Shelf TreeM
set_option maxHeartbeats 1000000 in
set_option maxRecDepth 100000 in
theorem below_any (n : Nat) (h0 : 2 ≤ n) (hn : n ≤ 1099511627776) (w : World) : Calls Tryd.prog 60 #[.int .i64 (n : Int)] w fun e w' => e = .returned (.int .i64 (half n : Int)) ∧ w' = w := by
  have hl := bitLen_log2 (n - 1) (by omega) (by omega)
  have hle : Nat.log2 (n - 1) ≤ 40 := by
    have h1 := Nat.log2_self_le (n := n - 1) (by omega)
    have h2 : 2 ^ Nat.log2 (n - 1) < 2 ^ 41 := by omega
    have := (Nat.pow_lt_pow_iff_right (a := 2) (by omega)).1 h2
    omega
  have HL := Lib.hid (len_any (n - 1) w (by omega))
  have HT : Hid (half n = 2 ^ Nat.log2 (n - 1)) := Lib.hid rfl
  rw [hl, Int.natCast_sub (by omega)] at HL
  have hn0 : (n : Int) ≤ 1099511627776 := by omega
  have hn2 : (2 : Int) ≤ (n : Int) := by omega
  generalize Nat.log2 (n - 1) = k at *
  rw [HT.out]
  clear hl HT
  go_enter Tryd.func60, Tryd.ntmps60
  go_wp2_with (go_at_call 59; refine HL.out.mono ?_; rintro e w2 ⟨rfl, rfl⟩)
  have hp : (2 ^ k : Nat) ≤ 2 ^ 40 := Nat.pow_le_pow_right (by omega) hle
  have he : wrap64 ((2 : Int) ^ k) = ((2 ^ k : Nat) : Int) := by
    rw [Int.natCast_pow]
    have e2 : (2 : Int) ^ k = ((2 ^ k : Nat) : Int) := by
      have e : ((2 : Nat) : Int) ^ k = ((2 ^ k : Nat) : Int) := by rw [Int.natCast_pow]
      exact e
    rw [e2]
    exact w64 (Int.natCast_nonneg _) (by omega)
  rw [he]
  go_ret
  exact ⟨rfl, rfl⟩
end Go.Proofs.YtphknicdllcbmaaDoor