/-
  pack.check: for every message, in whatever memory: the error's number.
-/
import Derived.Test.YtkbdkeclbokhdaaDoorPackStr
import Derived.Test.YtkbdkeclbokhdaaDoorPackKit
namespace Go.Proofs.YtkbdkeclbokhdaaDoor
open Go Go.RowKit PackMath

def Raw.nums (r : Raw) : Nat → Int
  | 0 => r.who
  | 1 => r.height
  | 2 => r.round
  | 3 => r.valid
  | _ => r.num
def Raw.KindOk (r : Raw) : Prop := 1 ≤ r.kind ∧ r.kind ≤ 31
def NumOk (n : Int) : Prop := 0 ≤ n ∧ n ≤ 1099511627776
def Raw.size (r : Raw) : Nat := r.data.length + (r.list.map List.length).sum
theorem check_kind {r : Raw} (h : ¬ r.KindOk) : r.check = 21 := by
  unfold Raw.KindOk at h
  unfold Raw.check
  rw [if_pos (by omega)]
theorem check_num {r : Raw} (hk : r.KindOk) {k : Nat} (hk5 : k < 5) (h : ¬ NumOk (r.nums k)) : r.check = 1 := by
  unfold Raw.KindOk at hk
  unfold NumOk at h
  unfold Raw.check
  rw [if_neg (by omega), if_pos]
  have : k = 0 ∨ k = 1 ∨ k = 2 ∨ k = 3 ∨ k = 4 := by omega
  rcases this with rfl | rfl | rfl | rfl | rfl <;> simp only [Raw.nums] at h <;> omega
theorem nums_ok {r : Raw} (h : ∀ k, k < 5 → NumOk (r.nums k)) : ¬ (r.who < 0 ∨ 1099511627776 < r.who ∨ r.height < 0 ∨ 1099511627776 < r.height ∨ r.round < 0 ∨ 1099511627776 < r.round ∨ r.valid < 0 ∨ 1099511627776 < r.valid ∨ r.num < 0 ∨ 1099511627776 < r.num) := by
  have h0 := h 0 (by omega)
  have h1 := h 1 (by omega)
  have h2 := h 2 (by omega)
  have h3 := h 3 (by omega)
  have h4 := h 4 (by omega)
  simp only [NumOk, Raw.nums] at h0 h1 h2 h3 h4
  omega
theorem check_long {r : Raw} (hk : r.KindOk) (hn : ∀ k, k < 5 → NumOk (r.nums k)) (h : 64 < r.ids.length ∨ 64 < r.list.length) : r.check = 2 := by
  unfold Raw.KindOk at hk
  unfold Raw.check
  rw [if_neg (by omega), if_neg (nums_ok hn), if_pos h]
theorem check_size {r : Raw} (hk : r.KindOk) (hn : ∀ k, k < 5 → NumOk (r.nums k)) (hi : r.ids.length ≤ 64) (hl : r.list.length ≤ 64) : r.check = if 131072 < r.size then 2 else 0 := by
  unfold Raw.KindOk at hk
  unfold Raw.check
  rw [if_neg (by omega), if_neg (nums_ok hn), if_neg (by omega)]
  rfl
theorem sum_take_succ (ps : List (List UInt8)) (k : Nat) (h : k < ps.length) : ((ps.take (k + 1)).map List.length).sum = ((ps.take k).map List.length).sum + (ps.getD k []).length := by
  rw [List.take_succ_eq_append_getElem h, List.map_append, List.sum_append, List.getD_eq_getElem?_getD, List.getElem?_eq_getElem h]
  simp
theorem sum_take_le (ps : List (List UInt8)) (m : Nat) (hm : ∀ j, j < ps.length → (ps.getD j []).length ≤ m) : ∀ k, k ≤ ps.length → ((ps.take k).map List.length).sum ≤ k * m := by
  intro k
  induction k with
  | zero => intro _; simp
  | succ k ih =>
    intro hk
    rw [sum_take_succ ps k hk]
    have := ih (by omega)
    have := hm k hk
    rw [Nat.succ_mul]
    omega
theorem RdP.each {W : World} {ok : Nat → Prop} {A : Option Addr} {ps : List (List UInt8)} (h : RdP W ok A ps) : ∀ j, j < ps.length → (ps.getD j []).length ≤ 140737488351232 := fun j hj => by
  obtain ⟨_, _, _, _, _, A', c, _, _, h3, _⟩ := h j hj
  exact h3
/-- The cells of a message in a variable. -/
theorem msg_cells {w : World} {g : Nat} {r : Raw} {d i l : Value} (h : Blk w g 69 (msgA r d i l)) :
    w.cell? ⟨g, 0, none⟩ = some (.int .i64 r.kind) ∧ w.cell? ⟨g, 1, none⟩ = some (.int .i64 r.who) ∧ w.cell? ⟨g, 2, none⟩ = some (.int .i64 r.height) ∧ w.cell? ⟨g, 3, none⟩ = some (.int .i64 r.round) ∧ w.cell? ⟨g, 4, none⟩ = some (.int .i64 r.valid) ∧ w.cell? ⟨g, 5, none⟩ = some (.int .i64 r.num) ∧
      w.cell? ⟨g, 38, none⟩ = some d ∧ w.cell? ⟨g, 39, none⟩ = some i ∧ w.cell? ⟨g, 40, none⟩ = some l := by
  refine ⟨?_, ?_, ?_, ?_, ?_, ?_, ?_, ?_, ?_⟩ <;> (rw [h.cell, msgA, arr_get]; rfl)
theorem nums_built (r : Raw) : (#[.int .i64 r.who, .int .i64 r.height, .int .i64 r.round, .int .i64 r.valid, .int .i64 r.num] : Array Value) = arr 5 fun k => .int .i64 (r.nums k) := by rw [arr_list]; rfl
set_option maxRecDepth 100000 in
set_option maxHeartbeats 1000000 in
theorem check_any (r : Raw) (d i l : Value) (w : World) (hr : RdR w (fun b => b < w.heap.size) r d i l) :
    Calls Tryd.prog 49 #[.agg (msgA r d i l)] w fun e w' => e = .returned (.int .i64 (r.check : Int)) ∧ Below w.heap.size w w' := by
  have hb1 : Below w.heap.size w (w.alloc (.cells (msgA r d i l) 69)) := (Below.refl _ _).alloc (Nat.le_refl _) _
  obtain ⟨hd, ⟨Ai, ci, rfl, hni, _⟩, ⟨Al, cl, rfl, hnl, hpl⟩⟩ := hr
  have hd' := hd
  obtain ⟨Ad, cd, rfl, _, hnd, _⟩ := hd'
  have b0 : Blk (w.alloc (.cells (msgA r (.slice Ad r.data.length cd) (.slice Ai r.ids.length ci) (.slice Al r.list.length cl)) 69)) w.heap.size 69 (msgA r (.slice Ad r.data.length cd) (.slice Ai r.ids.length ci) (.slice Al r.list.length cl)) := Blk.new _ _ _
  obtain ⟨c0, c1, c2, c3, c4, c5, c38, c39, c40⟩ := msg_cells b0
  have HP := Lib.hid (hpl.kept (W' := w.alloc (.cells (msgA r (.slice Ad r.data.length cd) (.slice Ai r.ids.length ci) (.slice Al r.list.length cl)) 69)) fun a x ha h => (hb1.cell (p := a) ha).trans h)
  have HB := Lib.hid hb1
  clear hb1 hd b0 hpl
  obtain ⟨M, hM⟩ : ∃ M, msgA r (.slice Ad r.data.length cd) (.slice Ai r.ids.length ci) (.slice Al r.list.length cl) = M := ⟨_, rfl⟩
  rw [hM] at c0 c1 c2 c3 c4 c5 c38 c39 c40 HP HB ⊢
  clear hM
  obtain ⟨nd, hndd⟩ : ∃ nd, r.data.length = nd := ⟨_, rfl⟩
  obtain ⟨ni, hnid⟩ : ∃ ni, r.ids.length = ni := ⟨_, rfl⟩
  obtain ⟨nl, hnld⟩ : ∃ nl, r.list.length = nl := ⟨_, rfl⟩
  rw [hndd] at c38 hnd
  rw [hnid] at c39 hni
  rw [hnld] at c40 hnl
  have HD := Lib.hid hndd
  have HI := Lib.hid hnid
  have HL := Lib.hid hnld
  clear hndd hnid hnld
  by_cases hk : r.KindOk
  · have hdk : decide (1 ≤ r.kind ∧ r.kind ≤ 31) = true := decide_eq_true hk
    have HIX : Hid (∀ k : Nat, k < 5 → ∀ w', (Instr.index 111 (.agg #[.int .i64 r.who, .int .i64 r.height, .int .i64 r.round, .int .i64 r.valid, .int .i64 r.num]) (.int .i64 (k : Int))).run Tryd.prog w' = .ok (.int .i64 (r.nums k)) w') :=
      Lib.hid fun k hk w' => by rw [nums_built r]; exact run_index_arr 111 3 5 _ .i64 k hk .i64 Tryd.underlying111 Tryd.underlying3 (by kernel_rfl) w'
    have HK := Lib.hid hk
    clear hk
    go_enter Tryd.func49, Tryd.ntmps49
    go_wp2_with (go_at_call 52; refine (isKind_any _ _).mono ?_; rw [hdk]; rintro e w1 ⟨rfl, rfl⟩)
    go_loop [23] (fun i => ∃ k : Nat, k ≤ 5 ∧ i = .int .i64 (k : Int) ∧ ∀ j, j < k → NumOk (r.nums j)) (fun i => 5 - (intOf i).toNat)
    case atStart => exact ⟨0, by omega, rfl, fun j hj => absurd hj (by omega)⟩
    case round =>
      obtain ⟨k, hk5, rfl, hok⟩ := hrel
      have HOK := Lib.hid hok
      clear hok
      by_cases hlt : k < 5
      · have hix := HIX.out k hlt
        have HN : Hid (∀ a, r.nums k = a → NumOk a → ∀ j, j < k + 1 → NumOk (r.nums j)) := Lib.hid fun a ha hn j hj => by
          rcases Nat.lt_or_ge j k with h | h
          · exact HOK.out j h
          · obtain rfl : j = k := by omega
            rw [ha]; exact hn
        have HC : Hid (∀ a, r.nums k = a → ¬ NumOk a → r.check = 1) := Lib.hid fun a ha hn => check_num HK.out hlt (by rw [ha]; exact hn)
        have hkl : (k : Int) < 5 := by omega
        obtain ⟨a, ha⟩ : ∃ a, r.nums k = a := ⟨_, rfl⟩
        rw [ha] at hix
        have HA := Lib.hid ha
        clear ha
        by_cases h0 : a < 0
        · have d0 : decide (a < 0) = true := decide_eq_true h0
          have HC2 := Lib.hid (HC.out a HA.out (by unfold NumOk; omega))
          go_wp2
          go_ret
          exact ⟨by rw [HC2.out]; rfl, HB.out⟩
        · have d0 : decide (a < 0) = false := decide_eq_false h0
          by_cases h1 : 1099511627776 < a
          · have HC2 := Lib.hid (HC.out a HA.out (by unfold NumOk; omega))
            go_wp2
            go_ret
            exact ⟨by rw [HC2.out]; rfl, HB.out⟩
          · have HN2 := Lib.hid (HN.out a HA.out (by unfold NumOk; omega))
            have d1 : decide (1099511627776 < a) = false := decide_eq_false h1
            go_wp2
            go_round
            case rel => exact ⟨k + 1, by omega, by go_num, HN2.out⟩
            case measure => simp [intOf]; omega
      · obtain rfl : k = 5 := by omega
        clear HIX hlt hk5
        by_cases hi : 64 < ni
        · have HC := Lib.hid (check_long HK.out HOK.out (.inl (by rw [HI.out]; exact hi)))
          have d1 : decide ((64 : Int) < (ni : Int)) = true := decide_eq_true (by omega)
          go_wp2
          go_ret
          exact ⟨by rw [HC.out]; rfl, HB.out⟩
        · have d1 : decide ((64 : Int) < (ni : Int)) = false := decide_eq_false (by omega)
          by_cases hl : 64 < nl
          · have HC := Lib.hid (check_long HK.out HOK.out (.inr (by rw [HL.out]; exact hl)))
            have d2 : (64 : Int) < (nl : Int) := by omega
            go_wp2
            go_ret
            exact ⟨by rw [HC.out]; rfl, HB.out⟩
          · have d2 : decide ((64 : Int) < (nl : Int)) = false := decide_eq_false (by omega)
            have HC := Lib.hid (check_size HK.out HOK.out (by rw [HI.out]; omega) (by rw [HL.out]; omega))
            have HS := Lib.hid (sum_take_le r.list 140737488351232 (HP.out.each))
            clear HK HOK
            go_wp2
            go_loop [5, 49] (fun s i => ∃ k : Nat, k ≤ nl ∧ i = .int .i64 (k : Int) ∧ s = .int .i64 ((nd + ((r.list.take k).map List.length).sum : Nat) : Int)) (fun _ i => nl - (intOf i).toNat)
            case atStart => exact ⟨0, by omega, rfl, by simp⟩
            case round =>
              obtain ⟨k, hkn, rfl, rfl⟩ := hrel
              by_cases hlt : k < nl
              · obtain ⟨ad, v, rfl, hok, hcell, A0, c0', rfl, hc0, hn0, hcs0⟩ := HP.out k (by rw [HL.out]; exact hlt)
                have HT := Lib.hid (sum_take_succ r.list k (by rw [HL.out]; exact hlt))
                have hsk := HS.out k (by rw [HL.out]; exact hkn)
                obtain ⟨m, hm⟩ : ∃ m, (r.list.getD k []).length = m := ⟨_, rfl⟩
                rw [hm] at hcell hn0 HT
                obtain ⟨s, hs⟩ : ∃ s, ((r.list.take k).map List.length).sum = s := ⟨_, rfl⟩
                rw [hs] at hsk HT ⊢
                have hsl : s ≤ 9007199254740992 := by
                  have : k * 140737488351232 ≤ 64 * 140737488351232 := Nat.mul_le_mul_right _ (by omega)
                  omega
                have hkl : (k : Int) < (nl : Int) := by omega
                have e0 : ((nd + s : Nat) : Int) = (nd : Int) + (s : Int) := by omega
                rw [e0]
                clear hcs0 hc0 hm hs hsk e0
                go_wp2
                go_round
                case rel => exact ⟨k + 1, by omega, by go_num, by rw [HT.out]; congr 1; omega⟩
                case measure => simp [intOf]; omega
              · obtain rfl : k = nl := by omega
                have e : r.list.take k = r.list := by rw [← HL.out]; simp
                have e2 : r.size = nd + (r.list.map List.length).sum := by unfold Raw.size; rw [HD.out]
                have HE := Lib.hid e2
                rw [e]
                have hsk := HS.out k (by rw [HL.out]; omega)
                rw [e] at hsk
                obtain ⟨s, hs⟩ : ∃ s, (r.list.map List.length).sum = s := ⟨_, rfl⟩
                rw [hs] at hsk HE ⊢
                have hsl : s ≤ 9007199254740992 := by
                  have : k * 140737488351232 ≤ 64 * 140737488351232 := Nat.mul_le_mul_right _ (by omega)
                  omega
                have e0 : ((nd + s : Nat) : Int) = (nd : Int) + (s : Int) := by omega
                rw [e0]
                clear e e2 hs hsk e0
                by_cases hbig : 131072 < nd + s
                · have d3 : (131072 : Int) < (nd : Int) + (s : Int) := by omega
                  go_wp2
                  go_ret
                  exact ⟨by rw [HC.out, HE.out, if_pos hbig]; rfl, HB.out⟩
                · have d3 : decide ((131072 : Int) < (nd : Int) + (s : Int)) = false := decide_eq_false (by omega)
                  go_wp2
                  go_ret
                  exact ⟨by rw [HC.out, HE.out, if_neg hbig]; rfl, HB.out⟩
  · have hdk : decide (1 ≤ r.kind ∧ r.kind ≤ 31) = false := decide_eq_false hk
    have HC := Lib.hid (check_kind hk)
    clear hk
    go_enter Tryd.func49, Tryd.ntmps49
    go_wp2_with (go_at_call 52; refine (isKind_any _ _).mono ?_; rw [hdk]; rintro e w1 ⟨rfl, rfl⟩)
    go_ret
    exact ⟨by rw [HC.out]; rfl, HB.out⟩
end Go.Proofs.YtkbdkeclbokhdaaDoor
