/-
  pack.readNumber, pack.readID: for all bytes, in whatever memory: the number, the ID, or that it is none.
-/
import Derived.Test.YtjdgcciemlfapaaPackCut
import Derived.Deep.MidRow
namespace Go.Proofs.Ytjdgcciemlfapaa
open Go Go.RowKit PackMath

theorem num_le (s : List UInt8) (k : Nat) (h : s.length ≤ k) : num s < 256 ^ k := by
  induction k generalizing s with
  | zero => obtain rfl := List.eq_nil_of_length_eq_zero (Nat.le_zero.1 h); show num [] < 1; decide
  | succ k ih =>
    rcases List.eq_nil_or_concat s with rfl | ⟨t, d, rfl⟩
    · exact Nat.lt_of_lt_of_le (by show num [] < 1; decide) (Nat.pow_pos (by omega))
    · rw [List.concat_eq_append] at h ⊢
      rw [num_snoc, Nat.pow_succ]
      have := ih t (by rw [List.length_append] at h; simp at h; omega)
      have := d.toNat_lt
      omega
theorem num_take (s : List UInt8) (k : Nat) (h : k < s.length) : num (s.take (k + 1)) = num (s.take k) * 256 + (s.getD k 0).toNat := by
  rw [List.take_succ_eq_append_getElem h, num_snoc, List.getD_eq_getElem?_getD, List.getElem?_eq_getElem h]
  rfl
/-- What readNumber hands back. -/
def NumOut (bs : List UInt8) (e : Ending) : Prop := e = match number bs with
  | none => .returned (.tuple #[.int .i64 0, .int .i64 23])
  | some n => .returned (.tuple #[.int .i64 (n : Int), .int .i64 0])
set_option maxRecDepth 100000 in
set_option maxHeartbeats 1000000 in
theorem readNumber_any (A : Option Addr) (c : Nat) (bs : List UInt8) (hne : bs ≠ []) (ok : Nat → Prop) (w : World) (hr : RdB w ok (.slice A bs.length c) bs) :
    Calls Try.prog 50 #[.slice A bs.length c] w fun e w' => NumOut bs e ∧ w' = w := by
  obtain ⟨x, s, rfl⟩ : ∃ x s, bs = x :: s := by
    cases bs with
    | nil => exact absurd rfl hne
    | cons x s => exact ⟨x, s, rfl⟩
  clear hne
  obtain ⟨ad, rfl, c0⟩ := hr.getc (j := 0) (by simp)
  have hcell : Hid (∀ j, j < (x :: s).length → w.cell? (ad.add j) = some (bv ((x :: s).getD j 0))) := Lib.hid fun j hj => by
    obtain ⟨_, e1, h⟩ := hr.getc hj
    injection e1 with e1
    rw [e1]; exact h
  have hnl : (x :: s).length ≤ 140737488351232 := by
    obtain ⟨A', c', hv, h1, h2, h3⟩ := hr
    exact h2
  rw [show ad.add 0 = ad by simp [Addr.add], List.getD_cons_zero] at c0
  unfold bv at c0
  have hnum : number (x :: s) = if x = 0 ∨ 6 < (x :: s).length ∨ 1099511627776 < num (x :: s) then none else some (num (x :: s)) := rfl
  obtain ⟨bs, hbs⟩ : ∃ bs, x :: s = bs := ⟨_, rfl⟩
  rw [hbs] at hcell hnl hnum ⊢
  have hn1 : 0 < bs.length := by rw [← hbs]; simp
  obtain ⟨n, hn⟩ : ∃ n, bs.length = n := ⟨_, rfl⟩
  rw [hn] at hcell hnl hnum hn1 ⊢
  have HN := Lib.hid hn
  have HNU := Lib.hid hnum
  have hx256 := x.toNat_lt
  clear hr hbs hn hnum
  by_cases h0 : x = 0
  · have hz : ((x.toNat : Int) == 0) = true := by rw [h0]; rfl
    have HO : Hid (number bs = none) := Lib.hid (by rw [HNU.out, if_pos (.inl h0)])
    go_enter Try.func50, Try.ntmps50
    go_wp2
    go_ret2
    exact ⟨by unfold NumOut; rw [HO.out]; rfl, rfl⟩
  · have hz : ((x.toNat : Int) == 0) = false := by
      have : x.toNat ≠ 0 := fun e => h0 (UInt8.toNat_inj.1 (by simpa using e))
      simp; omega
    by_cases h6 : 6 < n
    · have d6 : (6 : Int) < (n : Int) := by omega
      have HO : Hid (number bs = none) := Lib.hid (by rw [HNU.out, if_pos (.inr (.inl h6))])
      clear h0
      go_enter Try.func50, Try.ntmps50
      go_wp2
      go_ret2
      exact ⟨by unfold NumOut; rw [HO.out]; rfl, rfl⟩
    · have d6 : decide ((6 : Int) < (n : Int)) = false := decide_eq_false (by omega)
      have H0 := Lib.hid h0
      clear h0
      go_enter Try.func50, Try.ntmps50
      go_wp2
      clear c0 hz d6
      go_loop [4, 18] (fun t i => ∃ k : Nat, k ≤ n ∧ i = .int .i64 (k : Int) ∧ t = .int .i64 ((num (bs.take k) : Nat) : Int)) (fun _ i => n - (intOf i).toNat)
      case atStart => exact ⟨0, by omega, rfl, rfl⟩
      case round =>
        obtain ⟨k, hk, rfl, rfl⟩ := hrel
        by_cases hlt : k < n
        · have hck := hcell.out k hlt
          have HT := Lib.hid (num_take bs k (by rw [HN.out]; exact hlt))
          have hle := num_le (bs.take k) 5 (by rw [List.length_take]; omega)
          obtain ⟨y, hy⟩ : ∃ y, bs.getD k 0 = y := ⟨_, rfl⟩
          rw [hy] at hck HT
          obtain ⟨t, ht⟩ : ∃ t, num (bs.take k) = t := ⟨_, rfl⟩
          rw [ht] at hle HT ⊢
          unfold bv at hck
          have hy256 := y.toNat_lt
          have hkl : (k : Int) < (n : Int) := by omega
          have w1 : IntKind.i64.wrap (y.toNat : Int) = (y.toNat : Int) := by rw [IntKind.wrap_i64]; omega
          have w2 : IntKind.i64.wrap ((t : Int) * 256) = (t : Int) * 256 := by rw [IntKind.wrap_i64]; omega
          have b1 : bits .or .i64 ((t : Int) * 256) (y.toNat : Int) = ((t * 256 + y.toNat : Nat) : Int) := by
            have := or_join 8 (t * 256) y.toNat (by omega) (by omega) (by omega) (by omega)
            rw [← this, Int.natCast_mul]
            rfl
          obtain ⟨z, hz⟩ : ∃ z, t * 256 + y.toNat = z := ⟨_, rfl⟩
          rw [hz] at b1
          have HZ := Lib.hid hz
          clear hz ht hy
          go_wp2
          go_round
          case rel => exact ⟨k + 1, by omega, by go_num, by rw [HT.out, HZ.out]⟩
          case measure => simp [intOf]; omega
        · obtain rfl : k = n := by omega
          have e : bs.take k = bs := by rw [← HN.out]; simp
          rw [e]
          have hle := num_le bs 6 (by rw [HN.out]; omega)
          obtain ⟨t, ht⟩ : ∃ t, num bs = t := ⟨_, rfl⟩
          have HTT := Lib.hid ht
          rw [ht] at hle ⊢
          clear e ht
          by_cases hbig : 1099511627776 < t
          · have HO : Hid (number bs = none) := Lib.hid (by rw [HNU.out, if_pos (.inr (.inr (by rw [HTT.out]; exact hbig)))])
            have dl : (1099511627776 : Int) < (t : Int) := by omega
            go_wp2
            go_ret2
            exact ⟨by unfold NumOut; rw [HO.out]; rfl, rfl⟩
          · have HO : Hid (number bs = some t) := Lib.hid (by rw [HNU.out, if_neg (by rw [HTT.out]; exact fun h => by rcases h with h | h | h; exact H0.out h; omega; omega), HTT.out])
            have dl : decide ((1099511627776 : Int) < (t : Int)) = false := decide_eq_false (by omega)
            go_wp2
            go_ret2
            exact ⟨by unfold NumOut; rw [HO.out]; rfl, rfl⟩
end Go.Proofs.Ytjdgcciemlfapaa
