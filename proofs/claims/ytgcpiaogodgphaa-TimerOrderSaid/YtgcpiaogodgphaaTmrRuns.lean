/-
  Timers: the guard of the laws. No condition.
-/
import Derived.Test.YtgcpiaogodgphaaTmrOver
namespace Go.Proofs.Ytgcpiaogodgphaa
open Go Go.RowKit
theorem pair_info : (Try.prog.info? 41).map (·.size) = some 2 := by kernel_rfl
theorem load_pair {W : World} {B : Nat} {v : Value} {l : List (List Int)} (h : RdK 2 W B v l) {j : Nat} {r s : Int} (hj : l[j]? = some [r, s]) : ∃ ad c, v = .slice (some ad) l.length c ∧ ∀ W', Below B W W' → (Instr.loadAt 41 (.pointer (some (ad.add (j * 2))))).run Try.prog W' = .ok (.agg #[.int .i64 r, .int .i64 s]) W' := by
  obtain ⟨ad, c, he, _, _, hc⟩ := h.here hj
  exact ⟨ad, c, he, fun W' hb => run_load_ic W' 41 _ Try.underlying41 rfl _ [r, s] pair_info fun i hi => hc W' hb i (by simpa using hi)⟩
theorem int_size (w : World) : (sizeOf 3).run Try.prog w = .ok 1 w := by kernel_rfl
theorem eql_int (d : Nat) (n : Int) (w : World) : (Op.equalIn (d + 1) 3 (.int .i64 n) (.int .i64 n)).run Try.prog w = .ok true w := by
  simp [Op.equalIn, run_underlying Try.underlying3]
theorem eql_pair (d : Nat) (r s : Int) (w : World) : (Op.equalIn (d + 2) 41 (.agg #[.int .i64 r, .int .i64 s]) (.agg #[.int .i64 r, .int .i64 s])).run Try.prog w = .ok true w := by
  rw [Op.equalIn]
  have e : List.range' 0 2 1 = [0, 1] := rfl
  simp only [Sem.run_bind, run_underlying Try.underlying41, Result.andThen_ok, int_size, Std.Legacy.Range.forIn_eq_forIn_range', Std.Legacy.Range.size, Nat.sub_zero, Nat.add_sub_cancel, Nat.div_one, e]
  simp [part, isAgg, run_underlying Try.underlying3, eql_int, Sem.run_bind]
theorem neq_pair (r s : Int) (w : World) : (binOp .neq 41 (.agg #[.int .i64 r, .int .i64 s]) (.agg #[.int .i64 r, .int .i64 s])).run Try.prog w = .ok (.bool false) w := by
  have := eql_pair 9998 r s w
  go_simp
  first | done | (rw [this]; rfl)
theorem timer_zero (w : World) : (zeroValue 28).run Try.prog w = .ok (.agg (intN 122 fun _ => 0)) w := by kernel_rfl
theorem timer_new (w : World) : TimerAt (w.alloc (.cells (intN 122 fun _ => 0) 28)) w.heap.size 0 [] := ⟨_, Blk.new _ _ _, rfl, rfl, by simp, fun _ h => by simp at h, fun _ _ h => by simp at h⟩
theorem runs_facts (k : Nat) (hk : k < 3) : ∃ (R : List (List Int)) (m : Nat), (overL ((k : Int) + 1) [[0, 1, 0]]).map pairT = R ∧ R.length = m ∧ m ≤ 1 ∧ (∀ (q : Nat) (x : List Int), R[q]? = some x → x = [0, 1] ∧ k = 2) ∧ (k + 1 < 3 ∧ keepL ((k : Int) + 1) [[0, 1, 0]] = [[0, 1, 0]] ∧ m = 0 ∨ k + 1 = 3 ∧ keepL ((k : Int) + 1) [[0, 1, 0]] = [] ∧ m = 1) := by
  have hk : k = 0 ∨ k = 1 ∨ k = 2 := by omega
  rcases hk with rfl | rfl | rfl
  · exact ⟨[], 0, by decide, rfl, by omega, fun q x h => by simp at h, .inl ⟨by omega, by decide, rfl⟩⟩
  · exact ⟨[], 0, by decide, rfl, by omega, fun q x h => by simp at h, .inl ⟨by omega, by decide, rfl⟩⟩
  · refine ⟨[[0, 1]], 1, by decide, rfl, by omega, fun q x h => ?_, .inr ⟨rfl, by decide, rfl⟩⟩
    cases q with
    | zero => exact ⟨by simpa [eq_comm] using h, rfl⟩
    | succ q => simp at h
set_option maxRecDepth 100000 in
set_option maxHeartbeats 4000000 in
theorem runs_any (W : World) : Calls Try.prog 7 #[] W fun e w' => e = .returned (.bool true) ∧ Below W.heap.size W w' := by
  have hzt := timer_zero
  go_enter Try.func7, Try.ntmps7
  go_upto_region 2 with fail
  obtain ⟨g, hg⟩ : ∃ g, W.heap.size = g := ⟨_, rfl⟩
  obtain ⟨W0, hW0⟩ : ∃ W0, W.alloc (.cells (intN 122 fun _ => 0) 28) = W0 := ⟨_, rfl⟩
  have hT0 := timer_new W
  have hb0 : Below W.heap.size W W0 := by rw [← hW0]; exact (Below.refl _ _).alloc (Nat.le_refl _) _
  rw [hW0] at hT0 ⊢
  rw [hg] at hT0 ⊢
  have HB0 := Lib.hid hb0
  have HS := Lib.hid (set_any hT0 0 1 (by simp))
  clear hT0 hb0 hW0
  have HBG : Hid (∀ W1 W2, Below W.heap.size W W1 → W1.grownBy W2 (some g) → Below W.heap.size W W2) := Lib.hid fun W1 W2 hb hgr => hb.grown hgr hb.size (fun i hi => by have := Option.some.inj hi; omega)
  go_upto_region 4 with (first
    | (go_at_call 9; refine HS.out.mono ?_; rintro e W1 ⟨rfl, ht1, hg1⟩; have HT1 := Lib.hid ht1; have HB1 := Lib.hid (HBG.out _ _ HB0.out hg1); have HL := Lib.hid (len_any ht1); clear ht1 hg1)
    | (go_at_call 15; refine HL.out.mono ?_; rintro e W1b ⟨rfl, h1⟩; obtain rfl := h1.symm))
  go_upto_region 6 with fail
  go_loopw [2, 3] (fun s2 s3 wr => ∃ k : Nat, k ≤ 3 ∧ s3 = .int .i64 ((k : Int) + 1) ∧ Below g W wr ∧ (k < 3 ∧ TimerAt wr g (k : Int) [[0, 1, 0]] ∧ s2 = .int .i64 0 ∨ k = 3 ∧ TimerAt wr g 3 [] ∧ s2 = .int .i64 1)) (fun _ s3 _ => 4 - (intOf s3).toNat)
  case atStart => exact ⟨0, by omega, by go_num, by rw [← hg]; exact HB1.out, .inl ⟨by omega, HT1.out, rfl⟩⟩
  case round =>
    obtain ⟨k, hk, rfl, hb, hcase⟩ := hrel
    have HB := Lib.hid hb
    rcases hcase with ⟨hk3, ht, rfl⟩ | ⟨rfl, ht, rfl⟩
    · obtain ⟨R, m, hR, hm, hm1, hRx, hK1⟩ := runs_facts k hk3
      obtain ⟨K, hK⟩ : ∃ K, keepL ((k : Int) + 1) [[0, 1, 0]] = K := ⟨_, rfl⟩
      rw [hK] at hK1
      have hov := over_any ht (show OkL ((k : Int) + 1) [[0, 1, 0]] from ⟨by omega, fun x hx => by rw [List.mem_singleton] at hx; subst hx; simp; omega⟩) (by omega)
      rw [hR, hK] at hov
      have HOV := Lib.hid hov
      have HM := Lib.hid hm
      have HRX := Lib.hid hRx
      have HK1 := Lib.hid hK1
      have hk3i : (k : Int) + 1 ≤ 3 := by omega
      clear hov hm hRx hK1 ht hb hR hK
      rcases HK1.out with ⟨h1, hKe, rfl⟩ | ⟨h1, hKe, rfl⟩
      · go_upto_region 9 with (first
          | (go_at_call 13; refine HOV.out.mono ?_; rintro e W4 ⟨v, rfl, hrd, ht4, hg4⟩; obtain ⟨A, c, rfl⟩ : ∃ A c, v = .slice A 0 c := (by obtain ⟨_, A, c, h, _⟩ := hrd; exact ⟨A, c, (by rw [h, HM.out])⟩); have HRD := Lib.hid hrd; have HT4 := Lib.hid ht4; have HB4 : Hid (Below g W W4) := Lib.hid (by have := HBG.out _ _ (by rw [hg]; exact HB.out) hg4; rw [hg] at this; exact this); clear hrd ht4 hg4))
        go_loopw [2, 18] (fun s2 s18 wx => ∃ q : Nat, q ≤ 0 ∧ s18 = .int .i64 (q : Int) ∧ s2 = .int .i64 (q : Int) ∧ Below W4.heap.size W4 wx) (fun _ s18 _ => 0 - (intOf s18).toNat)
        case atStart => exact ⟨0, Nat.zero_le _, rfl, rfl, Below.refl _ _⟩
        case round =>
          obtain ⟨q, hq, rfl, rfl, hbq⟩ := hrel
          have HBQ := Lib.hid hbq
          clear hbq
          by_cases hlt : q < 0
          · omega
          · obtain rfl : q = 0 := by omega
            go_wp2_with fail
            go_roundw
            case rel =>
              have hbw : Below g W wr := HB4.out.trans (HBQ.out.mono (by rw [← hg]; exact HB4.out.size))
              exact ⟨k + 1, by omega, by go_num, hbw, .inl ⟨h1, by have := HT4.out.below HBQ.out; rw [hKe] at this; simpa using this, rfl⟩⟩
            case measure => simp [intOf]; omega
      · obtain rfl : k = 2 := by omega
        rw [show (((2 : Nat) : Int) + 1) = 3 from rfl]
        go_upto_region 9 with (first
          | (go_at_call 13; refine HOV.out.mono ?_; rintro e W4 ⟨v, rfl, hrd, ht4, hg4⟩; obtain ⟨A, c, rfl⟩ : ∃ A c, v = .slice A 1 c := (by obtain ⟨_, A, c, h, _⟩ := hrd; exact ⟨A, c, (by rw [h, HM.out])⟩); have HRD := Lib.hid hrd; have HT4 := Lib.hid ht4; have HB4 : Hid (Below g W W4) := Lib.hid (by have := HBG.out _ _ (by rw [hg]; exact HB.out) hg4; rw [hg] at this; exact this); clear hrd ht4 hg4))
        go_loopw [2, 18] (fun s2 s18 wx => ∃ q : Nat, q ≤ 1 ∧ s18 = .int .i64 (q : Int) ∧ s2 = .int .i64 (q : Int) ∧ Below W4.heap.size W4 wx) (fun _ s18 _ => 1 - (intOf s18).toNat)
        case atStart => exact ⟨0, Nat.zero_le _, rfl, rfl, Below.refl _ _⟩
        case round =>
          obtain ⟨q, hq, rfl, rfl, hbq⟩ := hrel
          have HBQ := Lib.hid hbq
          clear hbq
          by_cases hlt : q < 1
          · have hqi : (q : Int) < 1 := by omega
            have hq0 : (0 : Int) ≤ (q : Int) := by omega
            obtain ⟨x, hx⟩ : ∃ x, R[q]? = some x := ⟨_, List.getElem?_eq_getElem (by rw [HM.out]; exact hlt)⟩
            obtain ⟨rfl, hk2⟩ := HRX.out q x hx
            obtain ⟨ad, c', he, hld⟩ := load_pair HRD.out hx
            rw [HM.out] at he
            obtain ⟨rfl, -, rfl⟩ := Value.slice.inj he
            have HLD := Lib.hid (hld _ HBQ.out)
            clear hx he hld
            go_upto_region 11 with (first
              | (guard_target = wpList _ _ _ (Oper.mk _ (.load 41 _) _ _ _ _ :: _) _ _; refine wpList_load_runT (by rfl) 41 _ rfl (.pointer (some (ad.add (q * 2)))) (.agg #[.int .i64 0, .int .i64 1]) rfl (HLD.out) ?_))
            obtain ⟨wz, hwz⟩ : ∃ z, z = wr := ⟨_, rfl⟩
            subst hwz
            have hL5 : (Instr.loadAt 41 (.pointer (some ⟨wz.heap.size, 0, none⟩))).run Try.prog (wz.alloc (.cells #[.int .i64 0, .int .i64 1] 41)) = .ok (.agg #[.int .i64 0, .int .i64 1]) (wz.alloc (.cells #[.int .i64 0, .int .i64 1] 41)) := run_loadVar_row _ wz.heap.size 41 41 #[.int .i64 0, .int .i64 1] (0, 0) _ (Blk.new _ _ _) Try.underlying41 rfl pair_info
            have HL5 := Lib.hid hL5
            have hnq := neq_pair 0 1
            have hb5 : Below wz.heap.size wz (wz.alloc (.cells #[.int .i64 0, .int .i64 1] 41)) := (Below.refl _ _).alloc (Nat.le_refl _) _
            have HB5 := Lib.hid (HBQ.out.trans (hb5.mono HBQ.out.size))
            clear hL5 hb5
            go_wp2_with (first
              | (guard_target = wpList _ _ _ (Oper.mk _ (.load 41 _) _ _ _ _ :: _) _ _; refine wpList_load_runT (by rfl) 41 _ rfl (.pointer (some ⟨wz.heap.size, 0, none⟩)) (.agg #[.int .i64 0, .int .i64 1]) rfl (HL5.out) ?_))
            go_roundw
            case rel => exact ⟨q + 1, by omega, by go_num, by go_num, HB5.out⟩
            case measure => simp [intOf]; omega
          · obtain rfl : q = 1 := by omega
            go_wp2_with fail
            go_roundw
            case rel =>
              have hbw : Below g W wr := HB4.out.trans (HBQ.out.mono (by rw [← hg]; exact HB4.out.size))
              exact ⟨3, by omega, rfl, hbw, .inr ⟨rfl, by have := HT4.out.below HBQ.out; rw [hKe] at this; simpa using this, rfl⟩⟩
            case measure => simp [intOf]
    · have HT := Lib.hid ht
      have HL3 := Lib.hid (len_any ht)
      have HN3 := Lib.hid (now_any ht)
      clear ht hb
      go_wp2_with (first
        | (go_at_call 15; refine HL3.out.mono ?_; rintro e W1b ⟨rfl, h1⟩; obtain rfl := h1.symm)
        | (go_at_call 16; refine HN3.out.mono ?_; rintro e W1b ⟨rfl, h1⟩; obtain rfl := h1.symm))
      go_ret
      exact ⟨rfl, by rw [hg]; exact HB.out⟩
end Go.Proofs.Ytgcpiaogodgphaa
