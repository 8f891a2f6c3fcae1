/-
  Plain mathematics of ways: the sides from a leaf up are those from the root down; the texts on a path. Nothing here speaks of the program. No condition.
-/
import Derived.Test.YtlnapnbccojohaaDoorShTree
namespace Go.Proofs.YtlnapnbccojohaaDoor
open Go Go.RowKit Go.Shelf TreeM

/-- On which side the others lie, from the leaf up (true: at the left). -/
def stepsB (a l : Nat) : List Bool :=
  if _h : l = 0 then [] else if a = l ∧ a % 2 = 0 then stepsB (a / 2) (l / 2) else decide (a % 2 = 1) :: stepsB (a / 2) (l / 2)
termination_by l
decreasing_by all_goals omega
theorem stepsB_end (a : Nat) : stepsB a 0 = [] := by rw [stepsB, dif_pos rfl]
theorem stepsB_skip {a l : Nat} (hl : l ≠ 0) (h : a = l ∧ a % 2 = 0) : stepsB a l = stepsB (a / 2) (l / 2) := by rw [stepsB, dif_neg hl, if_pos h]
theorem stepsB_step {a l : Nat} (hl : l ≠ 0) (h : ¬ (a = l ∧ a % 2 = 0)) : stepsB a l = decide (a % 2 = 1) :: stepsB (a / 2) (l / 2) := by rw [stepsB, dif_neg hl, if_neg h]
theorem half_up {n : Nat} (h : 3 ≤ n) : half n = 2 * half ((n - 1) / 2 + 1) := by
  unfold half top2
  rw [Nat.add_sub_cancel]
  have e : Nat.log2 (n - 1) = Nat.log2 ((n - 1) / 2) + 1 := by
    conv => lhs; rw [Nat.log2_def]
    rw [if_pos (by omega)]
  rw [e, Nat.pow_succ, Nat.mul_comm]
theorem half_two : half 2 = 1 := by decide
/-- The sides, from the root down. -/
theorem steps_split : ∀ (n a : Nat), 2 ≤ n → a < n → stepsB a (n - 1) = if a < half n then stepsB a (half n - 1) ++ [false] else stepsB (a - half n) (n - half n - 1) ++ [true] := by
  intro n
  induction n using Nat.strongRecOn with
  | _ n ih =>
    intro a h2 ha
    by_cases h3 : n = 2
    · subst h3
      rw [half_two]
      have : a = 0 ∨ a = 1 := by omega
      rcases this with rfl | rfl
      · rw [if_pos (by omega), stepsB_step (by omega) (by omega)]
        simp [stepsB_end]
      · rw [if_neg (by omega), stepsB_step (by omega) (by omega)]
        simp [stepsB_end]
    · have hup := half_up (n := n) (by omega)
      have hpos := half_pos n
      have hlt := half_lt (n := n) h2
      obtain ⟨m, hm⟩ : ∃ m, (n - 1) / 2 + 1 = m := ⟨_, rfl⟩
      have hi := ih m (by omega) (a / 2) (by omega) (by omega)
      rw [hm] at hup
      obtain ⟨q, hq⟩ : ∃ q, half m = q := ⟨_, rfl⟩
      rw [hq] at hi hup
      have hqlt := half_lt (n := m) (by omega)
      rw [hq] at hqlt
      have hm1 : m - 1 = (n - 1) / 2 := by omega
      rw [hm1] at hi
      rw [hup] at hpos hlt ⊢
      by_cases hak : a < 2 * q
      · rw [if_pos (show a / 2 < q by omega)] at hi
        rw [if_pos hak, stepsB_step (l := n - 1) (by omega) (by omega), hi]
        by_cases hq1 : 2 * q - 1 = 0
        · omega
        · rw [stepsB_step (l := 2 * q - 1) hq1 (by omega), show (2 * q - 1) / 2 = q - 1 from by omega]
          rfl
      · rw [if_neg (show ¬ a / 2 < q by omega)] at hi
        rw [if_neg hak]
        have e1 : (a - 2 * q) / 2 = a / 2 - q := by omega
        have e2 : (n - 2 * q - 1) / 2 = m - q - 1 := by omega
        by_cases hs : a = n - 1 ∧ a % 2 = 0
        · rw [stepsB_skip (by omega) hs, hi]
          by_cases h0 : n - 2 * q - 1 = 0
          · have e3 : m - q - 1 = 0 := by omega
            rw [h0, e3, stepsB_end, stepsB_end]
          · rw [stepsB_skip (l := n - 2 * q - 1) h0 ⟨by omega, by omega⟩, e1, e2]
        · rw [stepsB_step (by omega) hs, hi]
          have h0 : n - 2 * q - 1 ≠ 0 := by omega
          rw [stepsB_step (l := n - 2 * q - 1) h0 (by omega), e1, e2, show (a - 2 * q) % 2 = a % 2 from by omega]
          rfl
theorem steps_length : ∀ (j a l : Nat), l < 2 ^ j → (stepsB a l).length ≤ j := by
  intro j
  induction j with
  | zero =>
    intro a l h
    obtain rfl : l = 0 := by omega
    rw [stepsB_end]
    simp
  | succ j ih =>
    intro a l h
    by_cases hl : l = 0
    · subst hl; rw [stepsB_end]; simp
    · have hj : l / 2 < 2 ^ j := by rw [Nat.pow_succ] at h; omega
      have := ih (a / 2) (l / 2) hj
      by_cases hs : a = l ∧ a % 2 = 0
      · rw [stepsB_skip hl hs]; omega
      · rw [stepsB_step hl hs, List.length_cons]; omega
/-- The text above, of the one below and the sum beside it. -/
def side (c : Int) (t : List UInt8) (left : Bool) (x : D) : List UInt8 := if left then 1 :: (id32 x ++ id32 (cutD c (sha t))) else 1 :: (id32 (cutD c (sha t)) ++ id32 x)
theorem side_length (c : Int) (t : List UInt8) (b : Bool) (x : D) : (side c t b x).length = 65 := by
  unfold side
  cases b <;> simp [id32]
/-- The texts on a path, the lowest first; the last of them. -/
def textsP (c : Int) : List Bool → List D → List UInt8 → List (List UInt8)
  | b :: bs, x :: xs, t => t :: textsP c bs xs (side c t b x)
  | _, _, t => [t]
def topP (c : Int) : List Bool → List D → List UInt8 → List UInt8
  | b :: bs, x :: xs, t => topP c bs xs (side c t b x)
  | _, _, t => t
theorem textsP_last (c : Int) : ∀ (bs : List Bool) (xs : List D) (t : List UInt8), (textsP c bs xs t).getLast? = some (topP c bs xs t) := by
  intro bs
  induction bs with
  | nil => intro xs t; cases xs <;> rfl
  | cons b bs ih =>
    intro xs t
    cases xs with
    | nil => rfl
    | cons x xs =>
      simp only [textsP, topP]
      rw [List.getLast?_cons, ih]
      rfl
theorem textsP_length (c : Int) : ∀ (bs : List Bool) (xs : List D) (t : List UInt8), bs.length = xs.length → (textsP c bs xs t).length = bs.length + 1 := by
  intro bs
  induction bs with
  | nil => intro xs t h; cases xs <;> simp_all [textsP]
  | cons b bs ih =>
    intro xs t h
    cases xs with
    | nil => simp at h
    | cons x xs =>
      simp only [textsP, List.length_cons]
      rw [ih xs _ (by simpa using h)]
theorem topP_snoc (c : Int) : ∀ (bs : List Bool) (xs : List D) (b : Bool) (x : D) (t : List UInt8), bs.length = xs.length → topP c (bs ++ [b]) (xs ++ [x]) t = side c (topP c bs xs t) b x := by
  intro bs
  induction bs with
  | nil => intro xs b x t h; cases xs <;> simp_all [topP]
  | cons b' bs ih =>
    intro xs b x t h
    cases xs with
    | nil => simp at h
    | cons x' xs =>
      simp only [List.cons_append, topP]
      exact ih xs b x _ (by simpa using h)
/-- The texts that textsOf answers with. -/
def textsC (c : Int) (entry : List UInt8) (a n : Nat) (path : List D) : List (List UInt8) :=
  if path.length = (stepsB a (n - 1)).length then textsP c (stepsB a (n - 1)) path (0 :: entry) else []
/-- The reference's walk: the path, the highest first. -/
def leadsR (c : Int) (entry : List UInt8) : List D → Nat → Nat → D × Bool
  | [], _, n => if n = 1 then (cutD c (sha (0 :: entry)), true) else (fun _ => 0, false)
  | x :: rp, a, n =>
    if n = 1 then (cutD c (sha (0 :: entry)), false)
    else if a < half n then (cutD c (sha (1 :: (id32 (leadsR c entry rp a (half n)).1 ++ id32 x))), (leadsR c entry rp a (half n)).2)
    else (cutD c (sha (1 :: (id32 x ++ id32 (leadsR c entry rp (a - half n) (n - half n)).1))), (leadsR c entry rp (a - half n) (n - half n)).2)
theorem leadsR_steps (c : Int) (entry : List UInt8) : ∀ (rp : List D) (a n : Nat), a < n →
    (leadsR c entry rp a n).2 = decide (rp.length = (stepsB a (n - 1)).length) ∧ (rp.length = (stepsB a (n - 1)).length → (leadsR c entry rp a n).1 = cutD c (sha (topP c (stepsB a (n - 1)) rp.reverse (0 :: entry)))) := by
  intro rp
  induction rp with
  | nil =>
    intro a n ha
    by_cases h1 : n = 1
    · subst h1
      rw [show 1 - 1 = 0 from rfl, stepsB_end]
      exact ⟨by simp [leadsR], fun _ => by simp [leadsR, topP]⟩
    · rw [steps_split n a (by omega) ha]
      unfold leadsR
      rw [if_neg h1]
      refine ⟨?_, fun h => ?_⟩
      · split <;> simp
      · split at h <;> simp at h
  | cons x rp ih =>
    intro a n ha
    by_cases h1 : n = 1
    · subst h1
      rw [show 1 - 1 = 0 from rfl, stepsB_end]
      exact ⟨by simp [leadsR], fun h => by simp at h⟩
    · have hlt := half_lt (n := n) (by omega)
      have hpos := half_pos n
      rw [steps_split n a (by omega) ha]
      unfold leadsR
      rw [if_neg h1]
      by_cases hk : a < half n
      · have hi := ih a (half n) hk
        rw [if_pos hk, if_pos hk]
        refine ⟨?_, fun h => ?_⟩
        · simp only [hi.1]
          simp
        · have hl : (stepsB a (half n - 1)).length = rp.length := by simp at h; omega
          simp only [List.reverse_cons]
          rw [topP_snoc _ _ _ _ _ _ (by simp [hl]), hi.2 hl.symm]
          rfl
      · have hi := ih (a - half n) (n - half n) (by omega)
        rw [if_neg hk, if_neg hk]
        refine ⟨?_, fun h => ?_⟩
        · simp only [hi.1]
          simp
        · have hl : (stepsB (a - half n) (n - half n - 1)).length = rp.length := by simp at h; omega
          simp only [List.reverse_cons]
          rw [topP_snoc _ _ _ _ _ _ (by simp [hl]), hi.2 hl.symm]
          rfl
end Go.Proofs.YtlnapnbccojohaaDoor
