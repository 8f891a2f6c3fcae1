/-
  What pack.writeNumber hands back reads as the number's digits. No condition but the number's bound.
-/
import Derived.Test.YtplcanoihojnpaaPackNum
import Derived.Test.YtplcanoihojnpaaRd
namespace Go.Proofs.Ytplcanoihojnpaa
open Go Go.RowKit PackMath

theorem digits_getD (n j : Nat) (hj : j < (digits n).length) : (digits n).getD j 0 = UInt8.ofNat (n / 256 ^ ((digits n).length - 1 - j)) := by
  induction n using Nat.strongRecOn with
  | _ n ih =>
    by_cases h0 : n = 0
    · subst h0; rw [digits_zero] at hj; cases hj
    · have e := digits_pos (n := n) (by omega)
      have hl : (digits n).length = (digits (n / 256)).length + 1 := by rw [e]; simp
      rw [hl] at hj ⊢
      rw [e, List.getD_eq_getElem?_getD]
      by_cases h : j < (digits (n / 256)).length
      · have := ih (n / 256) (by omega) h
        rw [List.getD_eq_getElem?_getD] at this
        rw [List.getElem?_append_left h, this, Nat.div_div_eq_div_mul, Nat.mul_comm, ← Nat.pow_succ]
        congr 3
        omega
      · obtain rfl : j = (digits (n / 256)).length := by omega
        rw [List.getElem?_append_right (by omega)]
        simp
theorem num_rd {W : World} {g n : Nat} (hk : (digits n).length ≤ 6) (h : Blk W g 114 (arr 6 (numF n (digits n).length))) (A : Option Addr) (hA : 0 < (digits n).length → A = some ⟨g, 6 - (digits n).length, none⟩) :
    RdB W (fun b => b = g) (.slice A (digits n).length (digits n).length) (digits n) := by
  refine ⟨A, _, rfl, Nat.le_refl _, by omega, fun h0 => ⟨_, hA h0, rfl, fun j hj => ?_⟩⟩
  have e : (⟨g, 6 - (digits n).length, none⟩ : Addr).add j = ⟨g, 6 - (digits n).length + j, none⟩ := by simp [Addr.add]
  rw [e, h.cell, arr_get, if_pos (by omega)]
  unfold numF
  rw [if_neg (by omega), digits_getD n j hj, show 5 - (6 - (digits n).length + j) = (digits n).length - 1 - j by omega]
theorem number_run (n : Nat) (hn : n ≤ 1099511627776) (w : World) :
    Calls Try.prog 40 #[.int .i64 (n : Int)] w fun e w' => ∃ A, e = .returned (.slice A (digits n).length (digits n).length) ∧ RdB w' (fun b => w.heap.size ≤ b ∧ b < w'.heap.size) (.slice A (digits n).length (digits n).length) (digits n) ∧ Below w.heap.size w w' := by
  refine (writeNumber_any n (by omega) w).mono ?_
  rintro e w' ⟨⟨A, he, hA⟩, hB, hW⟩
  refine ⟨A, he, ?_, hW⟩
  obtain ⟨A', c', h1, h2, h3, h4⟩ := num_rd (digits_length 6 n (by omega)) hB A hA
  exact ⟨A', c', h1, h2, h3, fun h0 => by
    obtain ⟨ad, q1, q2, q3⟩ := h4 h0
    exact ⟨ad, q1, ⟨by rw [q2]; exact Nat.le_refl _, by rw [q2]; exact hB.lt⟩, q3⟩⟩
end Go.Proofs.Ytplcanoihojnpaa
