/-
  pack.writeNumber: for every number below 256^6, in whatever memory: a slice of a new variable of six bytes, in which the number's digits lie last.
  What pack.writeNumber hands back reads as the number's digits. No condition but the number's bound.
-/
import Derived.Test.YtkbdkeclbokhdaaDoorPackKit
import Derived.Test.YtkbdkeclbokhdaaDoorOps
import Derived.Test.YtkbdkeclbokhdaaDoorQ9
import Derived.Test.YtkbdkeclbokhdaaDoorRd
namespace Go.Proofs.YtkbdkeclbokhdaaDoor
open Go Go.RowKit PackMath

theorem run_arr_end {P : Program} (t e : TypeId) (N : Nat) (ht : P.underlying t = some (.array N e)) (hs : (P.info? e).map (·.size) = some 1) (g : Nat) :
    ∃ A, ∀ w, (Instr.sliceAt t (.pointer (some ⟨g, 0, none⟩)) (some (.int .i64 (N : Int))) none none).run P w = .ok (.slice A 0 0) w := by
  simp [Instr.sliceAt, Instr.sureAddr, run_underlying ht, Instr.sliceBounds, Instr.sliceBound, asIntOf, Sem.run_bind, size_one hs]
theorem digits_len_succ {n k : Nat} (h : 0 < n / 256 ^ k) : k < (digits n).length := by
  induction k generalizing n with
  | zero =>
    rw [digits_pos (by simpa using h)]
    simp
  | succ k ih =>
    have hq : 0 < n / 256 / 256 ^ k := by rw [Nat.div_div_eq_div_mul, Nat.mul_comm, ← Nat.pow_succ]; exact h
    have hn : 0 < n := by
      rcases Nat.eq_zero_or_pos n with h0 | h0
      · subst h0; simp at h
      · exact h0
    rw [digits_pos hn, List.length_append]
    have := ih hq
    simp
    omega
theorem digits_len {n k : Nat} (h1 : n / 256 ^ k = 0) (h2 : k = 0 ∨ 0 < n / 256 ^ (k - 1)) : (digits n).length = k := by
  have hlt : n < 256 ^ k := by
    rcases Nat.lt_or_ge n (256 ^ k) with h | h
    · exact h
    · have := Nat.div_pos h (Nat.pow_pos (by omega)); omega
  have hle := digits_length k n hlt
  rcases h2 with rfl | h2
  · omega
  · have := digits_len_succ h2
    omega
/-- What lies in the variable once j digits are written. -/
def numF (n j : Nat) (i : Nat) : Value := if i < 6 - j then bv 0 else bv (UInt8.ofNat (n / 256 ^ (5 - i)))
theorem numF_set (n j : Nat) (hj : j < 6) : (arr 6 (numF n j)).setIfInBounds (5 - j) (bv (UInt8.ofNat (n / 256 ^ j))) = arr 6 (numF n (j + 1)) := by
  apply Array.ext_getElem?
  intro i
  rw [Array.getElem?_setIfInBounds, arr_get, arr_get, arr_size]
  by_cases hi : i < 6
  · by_cases e : 5 - j = i
    · subst e
      rw [if_pos rfl, if_pos (by omega), if_pos hi]
      unfold numF
      rw [if_neg (by omega), show 5 - (5 - j) = j by omega]
    · rw [if_neg e, if_pos hi, if_pos hi]
      unfold numF
      by_cases h : i < 6 - j
      · rw [if_pos h, if_pos (by omega)]
      · rw [if_neg h, if_neg (by omega)]
  · rw [if_neg hi, if_neg hi]
    split
    · rw [if_neg (by omega)]
    · rfl
set_option maxRecDepth 100000 in
set_option maxHeartbeats 1000000 in
theorem writeNumber_any (n : Nat) (hn : n < 281474976710656) (w : World) :
    Calls Tryd.prog 63 #[.int .i64 (n : Int)] w fun e w' => (∃ A, e = .returned (.slice A (digits n).length (digits n).length) ∧ (0 < (digits n).length → A = some ⟨w.heap.size, 6 - (digits n).length, none⟩)) ∧ Blk w' w.heap.size 130 (arr 6 (numF n (digits n).length)) ∧ Below w.heap.size w w' := by
  have h0 : (arr 6 fun _ => bv 0) = arr 6 (numF n 0) := arr_congr fun i hi => by simp [numF, hi]
  go_enter Tryd.func63, Tryd.ntmps63
  go_wp2
  have hB0 : Blk (w.alloc (Obj.cells #[Value.int IntKind.u8 0, Value.int IntKind.u8 0, Value.int IntKind.u8 0, Value.int IntKind.u8 0, Value.int IntKind.u8 0, Value.int IntKind.u8 0] 130)) w.heap.size 130 (arr 6 (numF n 0)) := Blk.newAt _ _ rfl (by rw [← h0, arr_list]; rfl)
  have hW0 : Below w.heap.size w (w.alloc (Obj.cells #[Value.int IntKind.u8 0, Value.int IntKind.u8 0, Value.int IntKind.u8 0, Value.int IntKind.u8 0, Value.int IntKind.u8 0, Value.int IntKind.u8 0] 130)) := (Below.refl _ _).alloc (Nat.le_refl _) _
  generalize w.alloc (Obj.cells #[Value.int IntKind.u8 0, Value.int IntKind.u8 0, Value.int IntKind.u8 0, Value.int IntKind.u8 0, Value.int IntKind.u8 0, Value.int IntKind.u8 0] 130) = W2 at *
  go_loopw [0, 4] (fun v i wr => ∃ j : Nat, j ≤ 6 ∧ v = .int .i64 ((n / 256 ^ j : Nat) : Int) ∧ i = .int .i64 ((6 - j : Nat) : Int) ∧ (j = 0 ∨ 0 < n / 256 ^ (j - 1)) ∧ Blk wr w.heap.size 130 (arr 6 (numF n j)) ∧ Below w.heap.size w wr) (fun _ i _ => (intOf i).toNat)
  case atStart => exact ⟨0, by omega, by simp, rfl, .inl rfl, hB0, hW0⟩
  case round =>
    clear hB0 hW0 h0
    obtain ⟨j, hj, rfl, rfl, hp, hB, hW⟩ := hrel
    by_cases hlt : 0 < n / 256 ^ j
    · have hj6 : j < 6 := by
        rcases Nat.lt_or_ge j 6 with h | h
        · exact h
        · obtain rfl : j = 6 := by omega
          have : n / 256 ^ 6 = 0 := Nat.div_eq_of_lt (by simpa using hn)
          omega
      have c1 := hB.cell (5 - j)
      have f1 := hB.frozen (5 - j)
      rw [arr_get, if_pos (by omega)] at c1
      have HS := Lib.hid (numF_set n j hj6)
      have HN : Hid (n / 256 ^ j / 256 = n / 256 ^ (j + 1)) := Lib.hid (by rw [Nat.div_div_eq_div_mul, ← Nat.pow_succ])
      obtain ⟨a, ha⟩ : ∃ a, n / 256 ^ j = a := ⟨_, rfl⟩
      rw [ha] at hlt HS HN ⊢
      have HA := Lib.hid ha
      obtain ⟨p, hpp⟩ : ∃ p, 5 - j = p := ⟨_, rfl⟩
      have hp6 : ((6 - j : Nat) : Int) - 1 = (p : Int) := by omega
      rw [hpp] at c1 f1 HS
      have hp5 : p < 6 := by omega
      have e4 : IntKind.u8.wrap (a : Int) = ((UInt8.ofNat a).toNat : Int) := by rw [IntKind.wrap_u8']; simp
      have han : (a : Int) ≤ 281474976710656 := by
        have := Nat.div_le_self n (256 ^ j)
        omega
      have HB := Lib.hid hB
      have HW := Lib.hid hW
      have hlt' : decide ((0 : Int) < (a : Int)) = true := by simp; omega
      clear hB hW hp ha
      go_wp2
      have e5 : (a : Int) % 256 = ((UInt8.ofNat a).toNat : Int) := by rw [UInt8.toNat_ofNat']; omega
      rw [e5]
      refine ⟨⟨j + 1, by omega, ?_, by congr 1; omega, .inr ?_, (HB.out.store p (bv (UInt8.ofNat a))).same HS.out, HW.out.setCell (Nat.le_refl _) _⟩, by simp [intOf]; omega⟩
      · rw [← HN.out]; congr 1
      · rw [Nat.add_sub_cancel, HA.out]; exact hlt
    · have hz : n / 256 ^ j = 0 := Nat.eq_zero_of_not_pos hlt
      have hlen := digits_len hz hp
      rw [hz]
      have HB := Lib.hid hB
      have HW := Lib.hid hW
      have HL := Lib.hid hlen
      obtain ⟨A, hsl, hA⟩ : ∃ A, (∀ w', (Instr.sliceAt 130 (.pointer (some ⟨w.heap.size, 0, none⟩)) (some (.int .i64 ((6 - j : Nat) : Int))) none none).run Tryd.prog w' = .ok (.slice A j j) w') ∧ (0 < j → A = some ⟨w.heap.size, 6 - j, none⟩) := by
        rcases Nat.eq_zero_or_pos j with rfl | h0
        · obtain ⟨A, hA⟩ := run_arr_end (P := Tryd.prog) 130 5 6 Tryd.underlying130 (by kernel_rfl) w.heap.size
          exact ⟨A, fun w' => hA w', fun h => by omega⟩
        · refine ⟨_, fun w' => ?_, fun _ => rfl⟩
          have := run_arr_from (P := Tryd.prog) 130 5 6 Tryd.underlying130 (by kernel_rfl) w.heap.size (6 - j) (by omega) w'
          rw [show 6 - (6 - j) = j by omega] at this
          exact this
      obtain ⟨p, hpp⟩ : ∃ p, 6 - j = p := ⟨_, rfl⟩
      rw [hpp] at hsl ⊢
      clear hB hW hp hz hlt hlen
      go_wp2
      go_ret
      exact ⟨⟨A, by rw [HL.out]; rfl, fun h => by rw [HL.out]; exact hA (by rwa [HL.out] at h)⟩, by rw [HL.out]; exact HB.out, HW.out⟩
end Go.Proofs.YtkbdkeclbokhdaaDoor
namespace Go.Proofs.YtkbdkeclbokhdaaDoor
open Go Go.RowKit PackMath

theorem digits_getD (n j : Nat) (hj : j < (digits n).length) : (digits n).getD j 0 = UInt8.ofNat (n / 256 ^ ((digits n).length - 1 - j)) := by
  induction n using Nat.strongRecOn with
  | _ n ih =>
    by_cases h0 : n = 0
    · subst h0; rw [digits_zero] at hj; cases hj
    · have e := digits_pos (n := n) (by omega)
      have hl : (digits n).length = (digits (n / 256)).length + 1 := by rw [e]; simp
      rw [hl] at hj ⊢
      rw [e, List.getD_eq_getElem?_getD]
      by_cases h : j < (digits (n / 256)).length
      · have := ih (n / 256) (by omega) h
        rw [List.getD_eq_getElem?_getD] at this
        rw [List.getElem?_append_left h, this, Nat.div_div_eq_div_mul, Nat.mul_comm, ← Nat.pow_succ]
        congr 3
        omega
      · obtain rfl : j = (digits (n / 256)).length := by omega
        rw [List.getElem?_append_right (by omega)]
        simp
theorem num_rd {W : World} {g n : Nat} (hk : (digits n).length ≤ 6) (h : Blk W g 130 (arr 6 (numF n (digits n).length))) (A : Option Addr) (hA : 0 < (digits n).length → A = some ⟨g, 6 - (digits n).length, none⟩) :
    RdB W (fun b => b = g) (.slice A (digits n).length (digits n).length) (digits n) := by
  refine ⟨A, _, rfl, Nat.le_refl _, by omega, fun h0 => ⟨_, hA h0, rfl, fun j hj => ?_⟩⟩
  have e : (⟨g, 6 - (digits n).length, none⟩ : Addr).add j = ⟨g, 6 - (digits n).length + j, none⟩ := by simp [Addr.add]
  rw [e, h.cell, arr_get, if_pos (by omega)]
  unfold numF
  rw [if_neg (by omega), digits_getD n j hj, show 5 - (6 - (digits n).length + j) = (digits n).length - 1 - j by omega]
theorem number_run (n : Nat) (hn : n ≤ 1099511627776) (w : World) :
    Calls Tryd.prog 63 #[.int .i64 (n : Int)] w fun e w' => ∃ A, e = .returned (.slice A (digits n).length (digits n).length) ∧ RdB w' (fun b => w.heap.size ≤ b ∧ b < w'.heap.size) (.slice A (digits n).length (digits n).length) (digits n) ∧ Below w.heap.size w w' := by
  refine (writeNumber_any n (by omega) w).mono ?_
  rintro e w' ⟨⟨A, he, hA⟩, hB, hW⟩
  refine ⟨A, he, ?_, hW⟩
  obtain ⟨A', c', h1, h2, h3, h4⟩ := num_rd (digits_length 6 n (by omega)) hB A hA
  exact ⟨A', c', h1, h2, h3, fun h0 => by
    obtain ⟨ad, q1, q2, q3⟩ := h4 h0
    exact ⟨ad, q1, ⟨by rw [q2]; exact Nat.le_refl _, by rw [q2]; exact hB.lt⟩, q3⟩⟩
end Go.Proofs.YtkbdkeclbokhdaaDoor
