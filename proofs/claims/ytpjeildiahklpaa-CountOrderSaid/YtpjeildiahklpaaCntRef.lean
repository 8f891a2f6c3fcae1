/-
  The reference's count: a list of votes: All, Get. No condition.
-/
import Derived.Test.YtpjeildiahklpaaCntVote
namespace Go.Proofs.Ytpjeildiahklpaa
open Go Go.RowKit Go.Maps

def isRK (r k : Int) (v : VoteT) : Bool := v.r == r && v.k == k
theorem take_countP {α : Type} {p : α → Bool} {l : List α} {j : Nat} {x : α} (h : l[j]? = some x) : (l.take (j + 1)).countP p = (l.take j).countP p + (if p x = true then 1 else 0) := by
  rw [List.take_add_one, h, List.countP_append]
  simp [List.countP_cons]
/-- A vote's fields, where it lies in a row. -/
theorem RdW.fields {W : World} {B : Nat} {v : Value} {l : List VoteT} (h : RdW W B v l) {k : Nat} {x : VoteT} (hk : l[k]? = some x) : ∃ ad c, v = .slice (some ad) l.length c ∧ VoteOk x ∧ ad.block < B ∧ ∀ W', Below B W W' →
    W'.cell? (ad.add (k * 35)) = some (.int .i64 x.r) ∧ W'.cell? ⟨(ad.add (k * 35)).block, (ad.add (k * 35)).off + 1, none⟩ = some (.int .i64 x.k) ∧ W'.cell? ⟨(ad.add (k * 35)).block, (ad.add (k * 35)).off + 2, none⟩ = some (.int .i64 x.s) ∧ (Instr.loadAt 24 (.pointer (some ⟨(ad.add (k * 35)).block, (ad.add (k * 35)).off + 3, none⟩))).run Try.prog W' = .ok (idv x.id) W' := by
  have hlt := (List.getElem?_eq_some_iff.1 hk).1
  obtain ⟨h0, A, c, rfl, h2, h3, h4⟩ := h
  obtain ⟨ad, rfl, q2, q3⟩ := h4 (by omega)
  have hv : VoteOk x := h0 _ (List.mem_of_getElem? hk)
  refine ⟨ad, c, rfl, hv, q2, fun W' hb => ?_⟩
  have key : ∀ i, i < 35 → W'.cell? ((ad.add (k * 35)).add i) = (voteC x)[i]? := fun i hi => by
    rw [add_add', Nat.mul_comm k 35]
    have h5 := q3 k x hk i hi
    have hx := voteC_length hv
    rw [List.getElem?_eq_getElem (by omega)] at h5 ⊢
    exact (hb.cell (p := ad.add (35 * k + i)) (by rw [block_add]; exact q2)).trans h5
  have k0 := key 0 (by omega)
  rw [add_add', Nat.add_zero] at k0
  refine ⟨k0, key 1 (by omega), key 2 (by omega), run_load_id W' _ _ hv.id fun i hi => ?_⟩
  have := key (3 + i) (by omega)
  rw [← add_add'] at this
  exact this.trans (voteC_id hv hi)
set_option maxRecDepth 100000 in
set_option maxHeartbeats 4000000 in
theorem refall_any (v : Value) (l : List VoteT) (r k : Int) (w : World) (hr : RdW w w.heap.size v l) : Calls Try.prog 25 #[v, .int .i64 r, .int .i64 k] w fun e w' => e = .returned (.int .i64 ((l.countP (isRK r k) : Nat) : Int)) ∧ w' = w := by
  have HR := Lib.hid hr
  obtain ⟨-, A, c, rfl, -, hn1, -⟩ := hr
  obtain ⟨n, hn⟩ : ∃ n, l.length = n := ⟨_, rfl⟩
  rw [hn] at HR hn1 ⊢
  have HN := Lib.hid hn
  clear hn
  go_enter Try.func25, Try.ntmps25
  go_upto_region 3 with fail
  go_loopw [7, 8] (fun q i wr => ∃ j : Nat, j ≤ n ∧ i = .int .i64 (j : Int) ∧ q = .int .i64 (((l.take j).countP (isRK r k) : Nat) : Int) ∧ wr = w) (fun _ i _ => n - (intOf i).toNat)
  case atStart => exact ⟨0, Nat.zero_le _, rfl, rfl, rfl⟩
  case round =>
    obtain ⟨j, hj, rfl, rfl, rfl⟩ := hrel
    by_cases hlt : j < n
    · have hkn : (j : Int) < (n : Int) := by omega
      have hk0 : (0 : Int) ≤ (j : Int) := by omega
      obtain ⟨x, hx⟩ : ∃ x, l[j]? = some x := ⟨_, List.getElem?_eq_getElem (by rw [HN.out]; exact hlt)⟩
      obtain ⟨ad, c', he, hok, hab, hf⟩ := HR.out.fields hx
      rw [HN.out] at he
      obtain ⟨rfl, -, rfl⟩ := Value.slice.inj he
      obtain ⟨f0, f1, f2, f3⟩ := hf _ (Below.refl _ _)
      have ht := take_countP (p := isRK r k) hx
      have HT := Lib.hid ht
      clear ht hf hx he hab f3
      cases h1 : x.r == r with
      | false =>
        have HK : Hid (isRK r k x = false) := Lib.hid (by unfold isRK; rw [h1]; rfl)
        go_wp2_with fail
        go_roundw
        case rel => exact ⟨j + 1, by omega, by go_num, by rw [HT.out, HK.out]; rfl, trivial⟩
        case measure => simp [intOf]; omega
      | true =>
        cases h2 : x.k == k with
        | false =>
          have HK : Hid (isRK r k x = false) := Lib.hid (by unfold isRK; rw [h1, h2]; rfl)
          go_wp2_with fail
          go_roundw
          case rel => exact ⟨j + 1, by omega, by go_num, by rw [HT.out, HK.out]; rfl, trivial⟩
          case measure => simp [intOf]; omega
        | true =>
          have HK : Hid (isRK r k x = true) := Lib.hid (by unfold isRK; rw [h1, h2]; rfl)
          obtain ⟨q, hq⟩ : ∃ q, (l.take j).countP (isRK r k) = q := ⟨_, rfl⟩
          have HQ : Hid (q ≤ j) := Lib.hid (by rw [← hq]; exact Nat.le_trans List.countP_le_length (by rw [List.length_take]; omega))
          rw [hq] at HT ⊢
          clear hq
          have hq0 : (0 : Int) ≤ (q : Int) := by omega
          have hq1 : (q : Int) ≤ 2513169434916 := by have := HQ.out; omega
          go_wp2_with fail
          go_roundw
          case rel => exact ⟨j + 1, by omega, by go_num, by rw [HT.out, HK.out]; go_num, trivial⟩
          case measure => simp [intOf]; omega
    · obtain rfl : j = n := by omega
      have hkn : ¬ (j : Int) < (j : Int) := by omega
      rw [List.take_of_length_le (by rw [HN.out]; exact Nat.le_refl _)]
      go_wp2_with fail
      go_ret
      exact ⟨rfl, rfl⟩
/-- Somebody's vote. -/
def isRKS (r k s : Int) (v : VoteT) : Bool := v.r == r && v.k == k && v.s == s
def refGet (l : List VoteT) (r k s : Int) : List UInt8 := match l.find? (isRKS r k s) with
  | some v => v.id
  | none => zeroId
theorem find_take {α : Type} {p : α → Bool} {l : List α} {j : Nat} {x : α} (h : l[j]? = some x) (hp : p x = false) (hn : (l.take j).find? p = none) : (l.take (j + 1)).find? p = none := by
  rw [List.take_add_one, h, List.find?_append, hn]
  simp [hp]
theorem find_here {α : Type} {p : α → Bool} {l : List α} {j : Nat} {x : α} (h : l[j]? = some x) (hp : p x = true) (hn : (l.take j).find? p = none) : l.find? p = some x := by
  have hj := (List.getElem?_eq_some_iff.1 h).1
  rw [← List.take_append_drop j l, List.find?_append, hn, List.drop_eq_getElem_cons hj]
  have hx : l[j] = x := (List.getElem?_eq_some_iff.1 h).2
  rw [hx]
  simp [hp]
set_option maxRecDepth 100000 in
set_option maxHeartbeats 4000000 in
theorem refget_any (v : Value) (l : List VoteT) (r k s : Int) (w : World) (hr : RdW w w.heap.size v l) : Calls Try.prog 31 #[v, .int .i64 r, .int .i64 k, .int .i64 s] w fun e w' => e = .returned (idv (refGet l r k s)) ∧ Below w.heap.size w w' := by
  have HR := Lib.hid hr
  obtain ⟨-, A, c, rfl, -, hn1, -⟩ := hr
  obtain ⟨n, hn⟩ : ∃ n, l.length = n := ⟨_, rfl⟩
  rw [hn] at HR hn1 ⊢
  have HN := Lib.hid hn
  clear hn
  go_enter Try.func31, Try.ntmps31
  go_upto_region 1 with fail
  generalize hW : World.alloc w _ = W1
  have hb1 : Below w.heap.size w W1 := by rw [← hW]; exact (Below.refl _ _).alloc (Nat.le_refl _) _
  have k0 : ∃ old, Blk W1 w.heap.size 24 old ∧ old.size = 32 := by rw [← hW]; exact ⟨_, Blk.newAt _ _ rfl rfl, rfl⟩
  have HB1 := Lib.hid hb1
  have HK0 := Lib.hid k0
  clear hW hb1 k0
  go_upto_region 2 with fail
  go_loopw [9] (fun i wr => ∃ j : Nat, j ≤ n ∧ i = .int .i64 (j : Int) ∧ (l.take j).find? (isRKS r k s) = none ∧ wr = W1) (fun i _ => n - (intOf i).toNat)
  case atStart => exact ⟨0, Nat.zero_le _, rfl, rfl, rfl⟩
  case round =>
    obtain ⟨j, hj, rfl, hno, rfl⟩ := hrel
    by_cases hlt : j < n
    · have hkn : (j : Int) < (n : Int) := by omega
      have hk0 : (0 : Int) ≤ (j : Int) := by omega
      obtain ⟨x, hx⟩ : ∃ x, l[j]? = some x := ⟨_, List.getElem?_eq_getElem (by rw [HN.out]; exact hlt)⟩
      obtain ⟨ad, c', he, hok, hab, hf⟩ := HR.out.fields hx
      rw [HN.out] at he
      obtain ⟨rfl, -, rfl⟩ := Value.slice.inj he
      obtain ⟨f0, f1, f2, f3⟩ := hf _ HB1.out
      have HF3 := Lib.hid f3
      have HOK := Lib.hid hok
      have HNO : Hid (isRKS r k s x = false → (l.take (j + 1)).find? (isRKS r k s) = none) := Lib.hid fun h => find_take hx h hno
      have HYES : Hid (isRKS r k s x = true → refGet l r k s = x.id) := Lib.hid fun h => by
        unfold refGet
        rw [find_here hx h hno]
      clear hf hx he hab f3 hno hok
      cases h1 : x.r == r with
      | false =>
        have HT := Lib.hid (HNO.out (by unfold isRKS; rw [h1]; rfl))
        go_wp2_with fail
        go_roundw
        case rel => exact ⟨j + 1, by omega, by go_num, HT.out, trivial⟩
        case measure => simp [intOf]; omega
      | true =>
        cases h2 : x.k == k with
        | false =>
          have HT := Lib.hid (HNO.out (by unfold isRKS; rw [h1, h2]; rfl))
          go_wp2_with fail
          go_roundw
          case rel => exact ⟨j + 1, by omega, by go_num, HT.out, trivial⟩
          case measure => simp [intOf]; omega
        | true =>
          cases h3 : x.s == s with
          | false =>
            have HT := Lib.hid (HNO.out (by unfold isRKS; rw [h1, h2, h3]; rfl))
            go_wp2_with fail
            go_roundw
            case rel => exact ⟨j + 1, by omega, by go_num, HT.out, trivial⟩
            case measure => simp [intOf]; omega
          | true =>
            have HT := Lib.hid (HYES.out (by unfold isRKS; rw [h1, h2, h3]; rfl))
            obtain ⟨old, hk0, hs0⟩ := HK0.out
            have HKO := Lib.hid (And.intro hk0 hs0)
            clear hk0 hs0
            go_wp2_with (first
              | (guard_target = wpList _ _ _ (Oper.mk _ (.load 24 _) _ _ _ _ :: _) _ _; refine wpList_load_runS (by rfl) 24 _ rfl _ _ rfl HF3.out ?_)
              | (guard_target = wpList _ _ _ (Oper.mk _ (.store 24 _ _) _ _ _ _ :: _) _ _; refine wpList_store_idv rfl _ _ rfl w.heap.size x.id rfl rfl HOK.out.id 24 old HKO.out.1 HKO.out.2 ?_; intro W9 hS9 hz9 hb9 hk9))
            refine bodyPost_ret (results_idv rfl _ _ w.heap.size 24 x.id HOK.out.id rfl hS9) rfl ?_
            exact ⟨by rw [HT.out], HB1.out.trans hb9⟩
    · obtain rfl : j = n := by omega
      have hkn : ¬ (j : Int) < (j : Int) := by omega
      have hz : refGet l r k s = zeroId := by
        rw [List.take_of_length_le (by rw [HN.out]; exact Nat.le_refl _)] at hno
        unfold refGet
        rw [hno]
      have HZ := Lib.hid hz
      clear hno hz
      obtain ⟨old, hk0, hs0⟩ := HK0.out
      have HKO := Lib.hid (And.intro hk0 hs0)
      clear hk0 hs0
      go_wp2_with (first
        | (guard_target = wpList _ _ _ (Oper.mk _ (.build 24 _) _ _ _ _ :: _) _ _; refine wpList_build_zero rfl rfl ?_)
        | (guard_target = wpList _ _ _ (Oper.mk _ (.store 24 _ _) _ _ _ _ :: _) _ _; refine wpList_store_idv rfl _ _ rfl w.heap.size zeroId rfl rfl zeroId_ok 24 old HKO.out.1 HKO.out.2 ?_; intro W9 hS9 hz9 hb9 hk9))
      refine bodyPost_ret (results_idv rfl _ _ w.heap.size 24 zeroId zeroId_ok rfl hS9) rfl ?_
      exact ⟨by rw [HZ.out], HB1.out.trans hb9⟩
set_option maxRecDepth 100000 in
set_option maxHeartbeats 4000000 in
theorem right_any (n r k s : Int) (w : World) : Calls Try.prog 51 #[.int .i64 n, .int .i64 r, .int .i64 k, .int .i64 s] w fun e w' => e = .returned (.bool (decide (0 ≤ r) && decide (r < 12) && (decide (k = 0) || decide (k = 1)) && decide (0 ≤ s) && decide (s < n))) ∧ w' = w := by
  have hk : (decide (k = 0) || decide (k = 1)) = (decide (0 ≤ k) && decide (k < 2)) := by
    rw [Bool.eq_iff_iff]
    simp only [Bool.or_eq_true, Bool.and_eq_true, decide_eq_true_eq]
    omega
  rw [hk]
  clear hk
  by_cases h0 : 0 ≤ r
  case neg =>
    have g0 : ¬ 0 ≤ r := h0
    have HB : ((decide (0 ≤ r) && decide (r < 12) && (decide (0 ≤ k) && decide (k < 2)) && decide (0 ≤ s) && decide (s < n)) = false) := (by rw [← Bool.not_eq_true]; simp only [Bool.and_eq_true, decide_eq_true_eq]; omega)
    rw [HB]
    clear HB
    go_enter Try.func51, Try.ntmps51
    go_wp2_with fail
    go_ret
    exact ⟨rfl, rfl⟩
  by_cases h1 : r < 12
  case neg =>
    have g1 : ¬ r < 12 := h1
    have HB : ((decide (0 ≤ r) && decide (r < 12) && (decide (0 ≤ k) && decide (k < 2)) && decide (0 ≤ s) && decide (s < n)) = false) := (by rw [← Bool.not_eq_true]; simp only [Bool.and_eq_true, decide_eq_true_eq]; omega)
    rw [HB]
    clear HB
    go_enter Try.func51, Try.ntmps51
    go_wp2_with fail
    go_ret
    exact ⟨rfl, rfl⟩
  by_cases h2 : 0 ≤ k
  case neg =>
    have g2 : ¬ 0 ≤ k := h2
    have HB : ((decide (0 ≤ r) && decide (r < 12) && (decide (0 ≤ k) && decide (k < 2)) && decide (0 ≤ s) && decide (s < n)) = false) := (by rw [← Bool.not_eq_true]; simp only [Bool.and_eq_true, decide_eq_true_eq]; omega)
    rw [HB]
    clear HB
    go_enter Try.func51, Try.ntmps51
    go_wp2_with fail
    go_ret
    exact ⟨rfl, rfl⟩
  by_cases h3 : k < 2
  case neg =>
    have g3 : ¬ k < 2 := h3
    have HB : ((decide (0 ≤ r) && decide (r < 12) && (decide (0 ≤ k) && decide (k < 2)) && decide (0 ≤ s) && decide (s < n)) = false) := (by rw [← Bool.not_eq_true]; simp only [Bool.and_eq_true, decide_eq_true_eq]; omega)
    rw [HB]
    clear HB
    go_enter Try.func51, Try.ntmps51
    go_wp2_with fail
    go_ret
    exact ⟨rfl, rfl⟩
  by_cases h4 : 0 ≤ s
  case neg =>
    have g4 : ¬ 0 ≤ s := h4
    have HB : ((decide (0 ≤ r) && decide (r < 12) && (decide (0 ≤ k) && decide (k < 2)) && decide (0 ≤ s) && decide (s < n)) = false) := (by rw [← Bool.not_eq_true]; simp only [Bool.and_eq_true, decide_eq_true_eq]; omega)
    rw [HB]
    clear HB
    go_enter Try.func51, Try.ntmps51
    go_wp2_with fail
    go_ret
    exact ⟨rfl, rfl⟩
  by_cases h5 : s < n
  case neg =>
    have g5 : ¬ s < n := h5
    have HB : ((decide (0 ≤ r) && decide (r < 12) && (decide (0 ≤ k) && decide (k < 2)) && decide (0 ≤ s) && decide (s < n)) = false) := (by rw [← Bool.not_eq_true]; simp only [Bool.and_eq_true, decide_eq_true_eq]; omega)
    rw [HB]
    clear HB
    go_enter Try.func51, Try.ntmps51
    go_wp2_with fail
    go_ret
    exact ⟨rfl, rfl⟩
  have HB : ((decide (0 ≤ r) && decide (r < 12) && (decide (0 ≤ k) && decide (k < 2)) && decide (0 ≤ s) && decide (s < n)) = true) := (by simp only [Bool.and_eq_true, decide_eq_true_eq]; omega)
  rw [HB]
  clear HB
  go_enter Try.func51, Try.ntmps51
  go_wp2_with fail
  go_ret
  exact ⟨rfl, rfl⟩
end Go.Proofs.Ytpjeildiahklpaa
