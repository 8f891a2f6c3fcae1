/-
  The reference's Check: for every message, in whatever memory: the error's number.
-/
import Derived.Test.YtjdgcciemlfapaaPackCheck
namespace Go.Proofs.Ytjdgcciemlfapaa
open Go Go.RowKit PackMath

set_option maxRecDepth 100000 in
set_option maxHeartbeats 2000000 in
theorem refCheck_any (r : Raw) (d i l : Value) (w : World) (hr : RdR w (fun b => b < w.heap.size) r d i l) :
    Calls Try.prog 21 #[.agg (msgA r d i l)] w fun e w' => e = .returned (.int .i64 (r.check : Int)) ∧ Below w.heap.size w w' := by
  have hb1 : Below w.heap.size w (w.alloc (.cells (msgA r d i l) 28)) := (Below.refl _ _).alloc (Nat.le_refl _) _
  have hb2 : Below w.heap.size w ((w.alloc (.cells (msgA r d i l) 28)).alloc (.cells #[.int .i64 r.who, .int .i64 r.height, .int .i64 r.round, .int .i64 r.valid, .int .i64 r.num] 3)) := hb1.alloc (by simp) _
  obtain ⟨hd, ⟨Ai, ci, rfl, hni, _⟩, ⟨Al, cl, rfl, hnl, hpl⟩⟩ := hr
  have hd' := hd
  obtain ⟨Ad, cd, rfl, _, hnd, _⟩ := hd'
  have b0 : Blk (w.alloc (.cells (msgA r (.slice Ad r.data.length cd) (.slice Ai r.ids.length ci) (.slice Al r.list.length cl)) 28)) w.heap.size 28 (msgA r (.slice Ad r.data.length cd) (.slice Ai r.ids.length ci) (.slice Al r.list.length cl)) := Blk.new _ _ _
  obtain ⟨c0, c1, c2, c3, c4, c5, c38, c39, c40⟩ := msg_cells b0
  obtain ⟨_, _, _, _, _, _, x38, x39, x40⟩ := msg_cells (b0.alloc (.cells #[.int .i64 r.who, .int .i64 r.height, .int .i64 r.round, .int .i64 r.valid, .int .i64 r.num] 3))
  have HP := Lib.hid (hpl.kept (W' := (w.alloc (.cells (msgA r (.slice Ad r.data.length cd) (.slice Ai r.ids.length ci) (.slice Al r.list.length cl)) 28)).alloc (.cells #[.int .i64 r.who, .int .i64 r.height, .int .i64 r.round, .int .i64 r.valid, .int .i64 r.num] 3)) fun a x ha h => (hb2.cell (p := a) ha).trans h)
  have HB := Lib.hid hb1
  have HB2 := Lib.hid hb2
  clear hb1 hb2 hd b0 hpl
  obtain ⟨M, hM⟩ : ∃ M, msgA r (.slice Ad r.data.length cd) (.slice Ai r.ids.length ci) (.slice Al r.list.length cl) = M := ⟨_, rfl⟩
  rw [hM] at c0 c1 c2 c3 c4 c5 c38 c39 c40 x38 x39 x40 HP HB HB2 ⊢
  clear hM c38 c39 c40
  obtain ⟨nd, hndd⟩ : ∃ nd, r.data.length = nd := ⟨_, rfl⟩
  obtain ⟨ni, hnid⟩ : ∃ ni, r.ids.length = ni := ⟨_, rfl⟩
  obtain ⟨nl, hnld⟩ : ∃ nl, r.list.length = nl := ⟨_, rfl⟩
  rw [hndd] at x38 hnd
  rw [hnid] at x39 hni
  rw [hnld] at x40 hnl
  have HD := Lib.hid hndd
  have HI := Lib.hid hnid
  have HL := Lib.hid hnld
  clear hndd hnid hnld
  by_cases hk : r.KindOk
  · obtain ⟨hk1, hk2⟩ := id hk
    have HK := Lib.hid hk
    clear hk
    obtain ⟨kk, hkk⟩ : ∃ kk, r.kind = kk := ⟨_, rfl⟩
    rw [hkk] at hk1 hk2 c0
    have dk1 : decide (kk < 1) = false := decide_eq_false (by omega)
    have dk2 : decide (31 < kk) = false := decide_eq_false (by omega)
    have HIX : Hid (∀ k : Nat, k < 5 → ((w.alloc (.cells M 28)).alloc (.cells #[.int .i64 r.who, .int .i64 r.height, .int .i64 r.round, .int .i64 r.valid, .int .i64 r.num] 3)).cell? ⟨w.heap.size + 1, k, none⟩ = some (.int .i64 (r.nums k))) := Lib.hid fun k hk => by
      have b1 : Blk ((w.alloc (.cells M 28)).alloc (.cells #[.int .i64 r.who, .int .i64 r.height, .int .i64 r.round, .int .i64 r.valid, .int .i64 r.num] 3)) (w.heap.size + 1) 3 #[.int .i64 r.who, .int .i64 r.height, .int .i64 r.round, .int .i64 r.valid, .int .i64 r.num] := Blk.newAt _ _ (by simp) rfl
      rw [b1.cell, nums_built r, arr_get, if_pos hk]
    clear hkk
    go_enter Try.func21, Try.ntmps21
    go_wp2
    generalize hWW : (w.alloc (.cells M 28)).alloc (.cells #[.int .i64 r.who, .int .i64 r.height, .int .i64 r.round, .int .i64 r.valid, .int .i64 r.num] 3) = W2 at *
    clear c0 c1 c2 c3 c4 c5 hWW
    go_loop [4] (fun i => ∃ k : Nat, k ≤ 5 ∧ i = .int .i64 (k : Int) ∧ ∀ j, j < k → NumOk (r.nums j)) (fun i => 5 - (intOf i).toNat)
    case atStart => exact ⟨0, by omega, rfl, fun j hj => absurd hj (by omega)⟩
    case round =>
      obtain ⟨k, hk5, rfl, hok⟩ := hrel
      have HOK := Lib.hid hok
      clear hok
      by_cases hlt : k < 5
      · have hix := HIX.out k hlt
        have HN : Hid (∀ a, r.nums k = a → NumOk a → ∀ j, j < k + 1 → NumOk (r.nums j)) := Lib.hid fun a ha hn j hj => by
          rcases Nat.lt_or_ge j k with h | h
          · exact HOK.out j h
          · obtain rfl : j = k := by omega
            rw [ha]; exact hn
        have HC : Hid (∀ a, r.nums k = a → ¬ NumOk a → r.check = 1) := Lib.hid fun a ha hn => check_num HK.out hlt (by rw [ha]; exact hn)
        have hkl : (k : Int) < 5 := by omega
        obtain ⟨a, ha⟩ : ∃ a, r.nums k = a := ⟨_, rfl⟩
        rw [ha] at hix
        have HA := Lib.hid ha
        clear ha
        by_cases h0 : a < 0
        · have d0 : decide (a < 0) = true := decide_eq_true h0
          have HC2 := Lib.hid (HC.out a HA.out (by unfold NumOk; omega))
          go_wp2
          go_ret
          exact ⟨by rw [HC2.out]; rfl, HB2.out⟩
        · have d0 : decide (a < 0) = false := decide_eq_false h0
          by_cases h1 : 1099511627776 < a
          · have HC2 := Lib.hid (HC.out a HA.out (by unfold NumOk; omega))
            go_wp2
            go_ret
            exact ⟨by rw [HC2.out]; rfl, HB2.out⟩
          · have HN2 := Lib.hid (HN.out a HA.out (by unfold NumOk; omega))
            have d1 : decide (1099511627776 < a) = false := decide_eq_false h1
            go_wp2
            go_round
            case rel => exact ⟨k + 1, by omega, by go_num, HN2.out⟩
            case measure => simp [intOf]; omega
      · obtain rfl : k = 5 := by omega
        clear HIX hlt hk5
        by_cases hi : 64 < ni
        · have HC := Lib.hid (check_long HK.out HOK.out (.inl (by rw [HI.out]; exact hi)))
          have d1 : decide ((64 : Int) < (ni : Int)) = true := decide_eq_true (by omega)
          go_wp2
          go_ret
          exact ⟨by rw [HC.out]; rfl, HB2.out⟩
        · have d1 : decide ((64 : Int) < (ni : Int)) = false := decide_eq_false (by omega)
          by_cases hl : 64 < nl
          · have HC := Lib.hid (check_long HK.out HOK.out (.inr (by rw [HL.out]; exact hl)))
            have d2 : (64 : Int) < (nl : Int) := by omega
            go_wp2
            go_ret
            exact ⟨by rw [HC.out]; rfl, HB2.out⟩
          · have d2 : decide ((64 : Int) < (nl : Int)) = false := decide_eq_false (by omega)
            have HC := Lib.hid (check_size HK.out HOK.out (by rw [HI.out]; omega) (by rw [HL.out]; omega))
            have HS := Lib.hid (sum_take_le r.list 140737488351232 (HP.out.each))
            have HSM : Hid (∀ k, k ≤ nl → ((r.list.take k).map List.length).sum ≤ (r.list.map List.length).sum) := Lib.hid fun k _ => by
              have e : (r.list.map List.length).sum = ((r.list.take k).map List.length).sum + ((r.list.drop k).map List.length).sum := by
                rw [← List.sum_append, ← List.map_append, List.take_append_drop]
              omega
            clear HK HOK
            go_wp2
            go_loop [5, 6] (fun s i => ∃ k : Nat, k ≤ nl ∧ i = .int .i64 (k : Int) ∧ s = .int .i64 (131072 - ((nd + ((r.list.take k).map List.length).sum : Nat) : Int))) (fun _ i => nl - (intOf i).toNat)
            case atStart => exact ⟨0, by omega, rfl, by simp⟩
            case round =>
              obtain ⟨k, hkn, rfl, rfl⟩ := hrel
              have hsk := HS.out k (by rw [HL.out]; exact hkn)
              have hsl : k * 140737488351232 ≤ 64 * 140737488351232 := Nat.mul_le_mul_right _ (by omega)
              by_cases hlt : k < nl
              · obtain ⟨ad, v, rfl, hok, hcell, A0, c0', rfl, hc0, hn0, hcs0⟩ := HP.out k (by rw [HL.out]; exact hlt)
                have HT := Lib.hid (sum_take_succ r.list k (by rw [HL.out]; exact hlt))
                have hmm := HSM.out k hkn
                have hsz : r.size = nd + (r.list.map List.length).sum := by unfold Raw.size; rw [HD.out]
                have HSZ : Hid (131072 < nd + ((r.list.take k).map List.length).sum → 131072 < r.size) := Lib.hid fun h => by omega
                obtain ⟨m, hm⟩ : ∃ m, (r.list.getD k []).length = m := ⟨_, rfl⟩
                rw [hm] at hcell hn0 HT
                obtain ⟨s, hs⟩ : ∃ s, ((r.list.take k).map List.length).sum = s := ⟨_, rfl⟩
                rw [hs] at hsk HT HSZ ⊢
                have hkl : (k : Int) < (nl : Int) := by omega
                obtain ⟨z, hz⟩ : ∃ z : Int, 131072 - ((nd + s : Nat) : Int) = z := ⟨_, rfl⟩
                have hz1 : z ≤ 131072 := by omega
                have hz2 : -9147936743096324 ≤ z := by omega
                rw [hz]
                have HZ := Lib.hid hz
                clear hcs0 hc0 hm hs hsk hz hmm hsz hsl
                by_cases hneg : z < 0
                · have HC2 : Hid (r.check = 2) := Lib.hid (by rw [HC.out, if_pos (HSZ.out (by have := HZ.out; omega))])
                  have d5 : decide (0 ≤ z) = false := decide_eq_false (by omega)
                  go_wp2
                  go_ret
                  exact ⟨by rw [HC2.out]; rfl, HB2.out⟩
                · have d5 : (0 : Int) ≤ z := by omega
                  go_wp2
                  go_round
                  case rel => exact ⟨k + 1, by omega, by go_num, by rw [HT.out]; congr 1; have := HZ.out; omega⟩
                  case measure => simp [intOf]; omega
              · obtain rfl : k = nl := by omega
                have e : r.list.take k = r.list := by rw [← HL.out]; simp
                have e2 : r.size = nd + (r.list.map List.length).sum := by unfold Raw.size; rw [HD.out]
                have HE := Lib.hid e2
                rw [e] at hsk ⊢
                obtain ⟨s, hs⟩ : ∃ s, (r.list.map List.length).sum = s := ⟨_, rfl⟩
                rw [hs] at hsk HE ⊢
                obtain ⟨z, hz⟩ : ∃ z : Int, 131072 - ((nd + s : Nat) : Int) = z := ⟨_, rfl⟩
                have hz1 : z ≤ 131072 := by omega
                have hz2 : -9147936743096324 ≤ z := by omega
                rw [hz]
                have HZ := Lib.hid hz
                clear e e2 hs hsk hz hsl
                by_cases hneg : z < 0
                · have hbig : 131072 < nd + s := by have := HZ.out; omega
                  go_wp2
                  go_ret
                  exact ⟨by rw [HC.out, HE.out, if_pos hbig]; rfl, HB2.out⟩
                · have hbig : ¬ 131072 < nd + s := by have := HZ.out; omega
                  have d3 : decide (z < 0) = false := decide_eq_false hneg
                  go_wp2
                  go_ret
                  exact ⟨by rw [HC.out, HE.out, if_neg hbig]; rfl, HB2.out⟩
  · have HC := Lib.hid (check_kind hk)
    unfold Raw.KindOk at hk
    obtain ⟨kk, hkk⟩ : ∃ kk, r.kind = kk := ⟨_, rfl⟩
    rw [hkk] at hk c0
    clear hkk
    by_cases h1 : kk < 1
    · have dk1 : decide (kk < 1) = true := decide_eq_true h1
      clear hk
      go_enter Try.func21, Try.ntmps21
      go_wp2
      go_ret
      exact ⟨by rw [HC.out]; rfl, HB.out⟩
    · have dk1 : decide (kk < 1) = false := decide_eq_false h1
      have dk2 : (31 : Int) < kk := by omega
      clear hk
      go_enter Try.func21, Try.ntmps21
      go_wp2
      go_ret
      exact ⟨by rw [HC.out]; rfl, HB.out⟩
end Go.Proofs.Ytjdgcciemlfapaa
