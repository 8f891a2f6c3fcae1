/-
  bits.Len and tree's greatest: of every number of not more than 2^40. No condition.
-/
import Derived.Test.YtkkanaefngggoaaDoorTreePk
import Derived.Test.YtkkanaefngggoaaDoorRegK
import Derived.Lib.BitFns
import Derived.Lib.Strings
import Derived.Lib.Small
import Derived.Lib.Walk
import Derived.Lib.Hide
import Derived.Deep.DeepMust
namespace Go.Proofs.YtkkanaefngggoaaDoor
open Go Go.RowKit Go.Shelf TreeM

theorem bitLen_log2 : ∀ n : Nat, n ≠ 0 → n < 2 ^ 64 → Lib.bitLen n = Nat.log2 n + 1 := by
  intro n
  induction n using Nat.strongRecOn with
  | _ n ih =>
    intro h0 h
    rw [Lib.bitLen_half n h0 h, Nat.log2_def]
    by_cases h2 : n ≥ 2
    · rw [if_pos h2, ih (n / 2) (by omega) (by omega) (by omega)]
      omega
    · rw [if_neg h2]
      obtain rfl : n = 1 := by omega
      rfl
/-- The table's byte of what is left behind a shift by s bits, and s. -/
theorem len_fin (n s : Nat) (m t : Int) (ht : t = s) (hm : m = ((n / 2 ^ s : Nat) : Int)) (h8 : n / 2 ^ s < 256) (hs : s = 0 ∨ 2 ^ s ≤ n) (hn : n < 2 ^ 64) : t + Lib.len8 m = (Lib.bitLen n : Int) := by
  subst ht hm
  have h := Lib.len8_eq ⟨n / 2 ^ s, h8⟩
  simp only at h
  rw [h]
  rcases hs with rfl | hs
  · simp
  · rw [Lib.bitLen_shift s n hs hn]
    omega
theorem len8_range (m : Int) (h0 : 0 ≤ m) (h8 : m < 256) : 0 ≤ Lib.len8 m ∧ Lib.len8 m ≤ 8 := by
  obtain ⟨k, rfl⟩ := Int.eq_ofNat_of_zero_le h0
  have h := Lib.len8_eq ⟨k, by omega⟩
  have l := Lib.bitLen_le8 ⟨k, by omega⟩
  simp only at h l
  rw [h]
  omega
theorem w64 {n : Int} (h0 : 0 ≤ n) (h1 : n ≤ 9223372036854775807) : wrap64 n = n := by unfold wrap64; omega
theorem len_wrapA (n s : Nat) (m t : Int) (ht : t = s) (hm : m = ((n / 2 ^ s : Nat) : Int)) (h8 : n / 2 ^ s < 256) (hs : 2 ^ s ≤ n) (hn : n < 2 ^ 64) : wrap64 (t + wrap64 (Lib.len8 m)) = (Lib.bitLen n : Int) := by
  have h := len_fin n s m t ht hm h8 (.inr hs) hn
  have r := len8_range m (by rw [hm]; exact Int.natCast_nonneg _) (by rw [hm]; omega)
  have hs64 : s < 64 := (Nat.pow_lt_pow_iff_right (a := 2) (by omega)).1 (Nat.lt_of_le_of_lt hs hn)
  rw [w64 r.1 (by omega), w64 (by omega) (by omega), h]
theorem len_wrap (n s : Nat) (m : Int) (_hs : s = 0) (hm : m = (n : Int)) (h8 : n < 256) (hn : n < 2 ^ 64) : wrap64 (wrap64 (Lib.len8 m)) = (Lib.bitLen n : Int) := by
  have h := len_fin n 0 m 0 rfl (by simpa using hm) (by simpa using h8) (.inl rfl) hn
  have r := len8_range m (by omega) (by omega)
  rw [w64 r.1 (by omega), w64 r.1 (by omega), ← h]
  omega
section
variable {P : Program} {ops : Array Oper} {rest : List Oper} {o : Oper} {a : Act} {w : World} {Q : Exit → Act → World → Prop}
theorem wpList_index_run (hgd : o.guard = none) (t : TypeId) (x y : Operand) (ho : o.op = .index t x y) (vx vy v : Value) (hx : a.eval x = vx) (hy : a.eval y = vy) (hr : (Instr.index t vx vy).run P w = .ok v w)
    (h : wpList P ops Q rest (a.put o.dst v) w) : wpList P ops Q (o :: rest) a w := by
  refine wpList_plain hgd fun K hK => ?_
  subst hx hy
  unfold Oper.wp
  simp [execOp, ho, hr, Result.andThen, Oper.upon]
  exact hK _ _ h
end
set_option maxHeartbeats 4000000 in
set_option maxRecDepth 100000 in
theorem len64_any (n : Nat) (w : World) (hn : n < 2 ^ 64) : Calls Tryd.prog 75 #[.int .u64 (n : Int)] w fun e w' => e = .returned (.int .i64 (Lib.bitLen n)) ∧ w' = w := by
  obtain ⟨x, hx⟩ : ∃ x : Int, (n : Int) = x := ⟨_, rfl⟩
  have h0 : 0 ≤ x := by omega
  have h1 : x ≤ 18446744073709551615 := by omega
  have HX := Lib.hid hx
  rw [hx]
  clear hx hn
  go_enter Tryd.func75, Tryd.ntmps75
  go_wp2_with (guard_target = wpList _ _ _ (Oper.mk _ (.index _ _ _) _ _ _ _ :: _) _ _; go_must (refine wpList_index_run rfl _ _ _ rfl (.string Lib.len8tab) _ _ rfl rfl (Lib.run_index_len8tab _ _ _ _ Tryd.underlying9 (by omega) (by omega)) ?_))
  all_goals (go_ret; refine ⟨congrArg Ending.returned (congrArg (Value.int IntKind.i64) ?_), rfl⟩; have hx := HX.out)
  all_goals first
    | exact len_wrap n 0 _ (by omega) (by omega) (by omega) (by omega)
    | exact len_wrapA n 8 _ _ (by omega) (by omega) (by omega) (by omega) (by omega)
    | exact len_wrapA n 16 _ _ (by omega) (by omega) (by omega) (by omega) (by omega)
    | exact len_wrapA n 24 _ _ (by omega) (by omega) (by omega) (by omega) (by omega)
    | exact len_wrapA n 32 _ _ (by omega) (by omega) (by omega) (by omega) (by omega)
    | exact len_wrapA n 40 _ _ (by omega) (by omega) (by omega) (by omega) (by omega)
    | exact len_wrapA n 48 _ _ (by omega) (by omega) (by omega) (by omega) (by omega)
    | exact len_wrapA n 56 _ _ (by omega) (by omega) (by omega) (by omega) (by omega)
/-- The greatest power of two that is at most a number. -/
theorem len_any (n : Nat) (w : World) (hn : n < 2 ^ 64) : Calls Tryd.prog 67 #[.int .u64 (n : Int)] w fun e w' => e = .returned (.int .i64 (Lib.bitLen n)) ∧ w' = w := by
  go_enter Tryd.func67, Tryd.ntmps67
  go_wp2_with (go_at_call 75; refine (len64_any n _ hn).mono ?_; rintro e w2 ⟨rfl, rfl⟩)
  go_ret
  exact ⟨rfl, rfl⟩
set_option maxHeartbeats 1000000 in
set_option maxRecDepth 100000 in
theorem greatest_any (n : Nat) (h0 : n ≠ 0) (hn : n ≤ 1099511627776) (w : World) : Calls Tryd.prog 51 #[.int .i64 (n : Int)] w fun e w' => e = .returned (.int .i64 (top2 n : Int)) ∧ w' = w := by
  have hl := bitLen_log2 n h0 (by omega)
  have hle : Nat.log2 n ≤ 40 := by
    have h1 := Nat.log2_self_le h0
    have h2 : 2 ^ Nat.log2 n < 2 ^ 41 := by omega
    have := (Nat.pow_lt_pow_iff_right (a := 2) (by omega)).1 h2
    omega
  have HL := Lib.hid (len_any n w (by omega))
  have HT : Hid (top2 n = 2 ^ Nat.log2 n) := Lib.hid rfl
  rw [hl] at HL
  have hn0 : (n : Int) ≤ 1099511627776 := by omega
  generalize Nat.log2 n = k at *
  rw [HT.out]
  clear hl HT
  go_enter Tryd.func51, Tryd.ntmps51
  go_wp2_with (go_at_call 67; refine HL.out.mono ?_; rintro e w2 ⟨rfl, rfl⟩)
  have hp : (2 ^ k : Nat) ≤ 2 ^ 40 := Nat.pow_le_pow_right (by omega) hle
  have he : wrap64 ((2 : Int) ^ k) = ((2 ^ k : Nat) : Int) := by
    rw [Int.natCast_pow]
    have e : ((2 : Nat) : Int) ^ k = ((2 ^ k : Nat) : Int) := by rw [Int.natCast_pow]
    have e2 : (2 : Int) ^ k = ((2 ^ k : Nat) : Int) := e
    rw [e2]
    exact w64 (Int.natCast_nonneg _) (by omega)
  rw [he]
  go_ret
  exact ⟨rfl, rfl⟩
end Go.Proofs.YtkkanaefngggoaaDoor
