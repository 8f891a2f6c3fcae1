/-
  The reference's Half and Root: for every list of leaves, in whatever memory. No condition.
-/
import Derived.Test.YtlnapnbccojohaaDoorTreeGo
import Derived.Test.YtlnapnbccojohaaDoorRefSumT
import Derived.Deep.DeepMust
namespace Go.Proofs.YtlnapnbccojohaaDoor
open Go Go.RowKit Go.Shelf TreeM

set_option maxRecDepth 100000 in
set_option maxHeartbeats 1000000 in
theorem half_any (n : Nat) (h2 : 2 ≤ n) (hn : n ≤ 1099511627776) (w : World) : Calls Tryd.prog 43 #[.int .i64 (n : Int)] w fun e w' => e = .returned (.int .i64 (half n : Int)) ∧ w' = w := by
  go_enter Tryd.func43, Tryd.ntmps43
  go_wp2
  go_loopw [3] (fun k wr => ∃ j : Nat, k = .int .i64 ((2 ^ j : Nat) : Int) ∧ 2 ^ j < n ∧ wr = w) (fun k _ => n - (intOf k).toNat)
  case atStart => exact ⟨0, rfl, by simp; omega, rfl⟩
  case round =>
    obtain ⟨j, rfl, hj, rfl⟩ := hrel
    have hpos := Nat.two_pow_pos j
    have hsucc : 2 ^ (j + 1) = 2 ^ j * 2 := Nat.pow_succ ..
    obtain ⟨p, hp⟩ : ∃ p, 2 ^ j = p := ⟨_, rfl⟩
    have HP := Lib.hid hp
    have HS := Lib.hid hsucc
    rw [hp] at hj hpos ⊢
    clear hp hsucc
    have hp1 : (p : Int) ≤ 1099511627776 := by omega
    have hp0 : (0 : Int) < (p : Int) := by omega
    by_cases hlt : p * 2 < n
    · have hl2 : (p : Int) * 2 < (n : Int) := by omega
      go_wp2
      go_roundw
      case rel => exact ⟨j + 1, by rw [HS.out, HP.out]; go_num, by rw [HS.out, HP.out]; omega, by first | rfl | trivial⟩
      case measure => simp [intOf]; omega
    · have hl2 : ¬ ((p : Int) * 2 < (n : Int)) := by omega
      have he : half n = p := by
        unfold half
        rw [← HP.out]
        exact top2_eq (by rw [HP.out]; omega) (by rw [HP.out]; omega)
      go_wp2
      go_ret
      exact ⟨rfl, rfl⟩
end Go.Proofs.YtlnapnbccojohaaDoor
