/-
  The reference's count: Ahead. No condition.
-/
import Derived.Test.YtpjeildiahklpaaCntRefS
namespace Go.Proofs.Ytpjeildiahklpaa
open Go Go.RowKit Go.Maps

theorem idv_eq (l : List UInt8) : idv l = .agg (idC l) := rfl
set_option maxRecDepth 100000 in
theorem wpList_build_zeroG {ops : Array Oper} {rest : List Oper} {o : Oper} {a : Act} {w : World} {Q : Exit → Act → World → Prop} (hw : Region.wanted o (yielded ops a.tmps) = true) (ho : o.op = .build 24 #[]) (h : wpList Try.prog ops Q rest (a.put o.dst (idv zeroId)) w) : wpList Try.prog ops Q (o :: rest) a w := by
  rw [idv_eq] at h
  have hp : ((#[] : Array (Nat × Operand)).map fun (i, x) => (i, a.eval x)).toList = [] := by simp
  exact wpList_buildTo hw 24 _ ho (idC zeroId) (by rw [hp]; exact zero_built') h
/-- The greatest below m. -/
def lastQ (Q : Nat → Bool) (m : Nat) : Option Nat := ((List.range m).filter Q).getLast?
theorem lastQ_succ (Q : Nat → Bool) (m : Nat) : lastQ Q (m + 1) = if Q m = true then some m else lastQ Q m := by
  unfold lastQ
  rw [List.range_succ, List.filter_append, List.getLast?_append]
  split
  · rename_i h; simp [h]
  · rename_i h; simp [h]
theorem lastQ_none (Q : Nat → Bool) (m : Nat) (h : ∀ i, i < m → Q i = false) : lastQ Q m = none := by
  unfold lastQ
  rw [List.filter_eq_nil_iff.2 (fun i hi => by rw [h i (List.mem_range.1 hi)]; simp)]
  rfl
def hereB (l : List VoteT) (r : Int) (s : Nat) : Bool := !(refGet l r 0 s == zeroId) || !(refGet l r 1 s == zeroId)
def hereN (N : Nat) (l : List VoteT) (r : Int) : Nat := (List.range N).countP (hereB l r)
def aheadQ (N : Nat) (l : List VoteT) (r : Int) (m : Nat) : Bool := decide (r < (m : Int)) && decide (faults N < (hereN N l m : Int))
theorem refGet_ok {l : List VoteT} (h : ∀ x ∈ l, VoteOk x) (r k s : Int) : IdOk (refGet l r k s) := by
  unfold refGet
  split
  · rename_i v hv
    exact (h v (List.mem_of_find?_eq_some hv)).id
  · exact zeroId_ok
theorem range_countP_succ (p : Nat → Bool) (k : Nat) : (List.range (k + 1)).countP p = (List.range k).countP p + (if p k = true then 1 else 0) := by
  rw [List.range_succ, List.countP_append]
  simp [List.countP_cons]
set_option maxRecDepth 100000 in
set_option maxHeartbeats 8000000 in
theorem refahead_any (N : Nat) (hN : N ≤ 1000) (v : Value) (l : List VoteT) (r : Int) (w : World) (hr : RdW w w.heap.size v l) : Calls Try.prog 29 #[.int .i64 N, v, .int .i64 r] w fun e w' => e = .returned (.tuple #[.int .i64 (((lastQ (aheadQ N l r) 12).getD 0 : Nat) : Int), .bool (lastQ (aheadQ N l r) 12).isSome]) ∧ Below w.heap.size w w' := by
  have HR := Lib.hid hr
  obtain ⟨-, A, c, rfl, -, hn1, -⟩ := hr
  obtain ⟨m, hm⟩ : ∃ m, l.length = m := ⟨_, rfl⟩
  rw [hm] at HR hn1 ⊢
  obtain ⟨o, ho⟩ : ∃ o, lastQ (aheadQ N l r) 12 = o := ⟨_, rfl⟩
  rw [ho]
  have HO := Lib.hid ho
  have HFA := Lib.hid fun W => reffaults_any (N : Int) W
  obtain ⟨g, hg⟩ : ∃ g, faults (N : Int) = g := ⟨_, rfl⟩
  have hg1 : -1 ≤ g := by rw [← hg]; exact faults_ge _
  have hg2 : g ≤ 2 := by rw [← hg]; exact faults_le _
  have HG := Lib.hid hg
  rw [hg] at HFA
  have HOK := Lib.hid fun (r k s : Int) => refGet_ok HR.out.1 r k s
  have HGE := Lib.hid fun (W : World) (hb : Below w.heap.size w W) (r k s : Int) => refget_any _ l r k s W ((HR.out.old hb).mono hb.size)
  clear hm ho hg
  go_enter Try.func29, Try.ntmps29
  go_upto_region 2 with fail
  go_loopw [8] (fun s8 wr => ∃ t : Nat, t ≤ 12 ∧ s8 = .int .i64 ((t : Int) - 1) ∧ lastQ (aheadQ N l r) t = o ∧ Below w.heap.size w wr) (fun s8 _ => (intOf s8 + 1).toNat)
  case atStart => exact ⟨12, Nat.le_refl _, by go_num, HO.out, Below.refl _ _⟩
  case round =>
    obtain ⟨t, ht, rfl, ho, hb⟩ := hrel
    have HX := Lib.hid hb
    have HLO := Lib.hid ho
    clear hb ho
    by_cases hlt : r < (t : Int) - 1 ∧ 0 ≤ (t : Int) - 1
    · obtain ⟨hc1, hc2⟩ := hlt
      obtain ⟨u, rfl⟩ : ∃ u, t = u + 1 := ⟨t - 1, by omega⟩
      have hu : (((u + 1 : Nat) : Int) - 1) = (u : Int) := by omega
      rw [hu] at hc1 hc2 ⊢
      have hu12 : (u : Int) < 12 := by omega
      go_upto_region 6 with fail
      go_loopw [9, 10] (fun q i wx => ∃ k : Nat, k ≤ N ∧ i = .int .i64 (k : Int) ∧ q = .int .i64 (((List.range k).countP (hereB l u) : Nat) : Int) ∧ Below w.heap.size w wx) (fun _ i _ => N - (intOf i).toNat)
      case atStart => exact ⟨0, Nat.zero_le _, rfl, rfl, HX.out⟩
      case round =>
        obtain ⟨k, hk, rfl, rfl, hb⟩ := hrel
        have HY := Lib.hid hb
        by_cases hkl : k < N
        · have hkn : (k : Int) < (N : Int) := by omega
          have hk0 : (0 : Int) ≤ (k : Int) := by omega
          have HT := Lib.hid (range_countP_succ (hereB l u) k)
          obtain ⟨q, hq⟩ : ∃ q, (List.range k).countP (hereB l u) = q := ⟨_, rfl⟩
          have HQ : Hid (q ≤ k) := Lib.hid (by rw [← hq]; exact Nat.le_trans List.countP_le_length (by rw [List.length_range]; omega))
          rw [hq] at HT ⊢
          have hq0 : (0 : Int) ≤ (q : Int) := by omega
          have hq1 : (q : Int) ≤ 1000 := by have := HQ.out; omega
          obtain ⟨g0, hg0⟩ : ∃ x, refGet l u 0 k = x := ⟨_, rfl⟩
          obtain ⟨g1, hg1'⟩ : ∃ x, refGet l u 1 k = x := ⟨_, rfl⟩
          have HC1 := Lib.hid fun W hb => HGE.out W hb u 0 k
          have HC2 := Lib.hid fun W hb => HGE.out W hb u 1 k
          rw [hg0] at HC1
          rw [hg1'] at HC2
          have ok0 : IdOk g0 := by rw [← hg0]; exact HOK.out _ _ _
          have ok1 : IdOk g1 := by rw [← hg1']; exact HOK.out _ _ _
          have HB : Hid (hereB l u k = (!(g0 == zeroId) || !(g1 == zeroId))) := Lib.hid (by unfold hereB; rw [hg0, hg1'])
          have he0 := fun W => neq_idv ok0 zeroId_ok W
          have he1 := fun W => neq_idv ok1 zeroId_ok W
          have hx0 := fun y z W => guardn_idv y z g0 zeroId W
          have hx1 := fun y z W => guardn_idv y z g1 zeroId W
          clear hg0 hg1' ok0 ok1 hb hq
          cases b0 : g0 == zeroId with
          | false =>
            rw [b0] at he0
            have HK : Hid (hereB l u k = true) := Lib.hid (by rw [HB.out, b0]; rfl)
            simp only [Bool.not_false] at he0
            go_wp2_with (first
              | (go_at_call 31; refine (HC1.out _ HY.out).mono ?_; rintro e W2 ⟨rfl, hb2⟩; have HB2 := Lib.hid hb2; clear hb2)
              | (guard_target = wpList _ _ _ (Oper.mk _ (.build 24 _) _ _ _ _ :: _) _ _; refine wpList_build_zeroG (by rfl) rfl ?_))
            go_roundw
            case rel => exact ⟨k + 1, by omega, by go_num, by rw [HT.out, HK.out]; go_num, HY.out.trans (HB2.out.mono HY.out.size)⟩
            case measure => simp [intOf]; omega
          | true =>
            rw [b0] at he0
            simp only [Bool.not_true] at he0
            cases b1 : g1 == zeroId with
            | false =>
              rw [b1] at he1
              simp only [Bool.not_false] at he1
              have HK : Hid (hereB l u k = true) := Lib.hid (by rw [HB.out, b1]; simp)
              go_upto_region 9 with (first
                | (go_at_call 31; first | (refine (HC1.out _ HY.out).mono ?_; rintro e W2 ⟨rfl, hb2⟩; have HB2 := Lib.hid (HY.out.trans (hb2.mono HY.out.size)); clear hb2; clear HC1) | (refine (HC2.out _ HB2.out).mono ?_; rintro e W3 ⟨rfl, hb3⟩; have HB3 := Lib.hid (HB2.out.trans (hb3.mono HB2.out.size)); clear hb3))
                | (guard_target = wpList _ _ _ (Oper.mk _ (.build 24 _) _ _ _ _ :: _) _ _; refine wpList_build_zeroG (by rfl) rfl ?_))
              go_wp2_with fail
              go_roundw
              case rel => exact ⟨k + 1, by omega, by go_num, by rw [HT.out, HK.out]; go_num, HB3.out⟩
              case measure => simp [intOf]; omega
            | true =>
              rw [b1] at he1
              simp only [Bool.not_true] at he1
              have HK : Hid (hereB l u k = false) := Lib.hid (by rw [HB.out, b0, b1]; rfl)
              go_wp2_with (first
                | (go_at_call 31; first | (refine (HC1.out _ HY.out).mono ?_; rintro e W2 ⟨rfl, hb2⟩; have HB2 := Lib.hid (HY.out.trans (hb2.mono HY.out.size)); clear hb2; clear HC1) | (refine (HC2.out _ HB2.out).mono ?_; rintro e W3 ⟨rfl, hb3⟩; have HB3 := Lib.hid (HB2.out.trans (hb3.mono HB2.out.size)); clear hb3))
                | (guard_target = wpList _ _ _ (Oper.mk _ (.build 24 _) _ _ _ _ :: _) _ _; refine wpList_build_zeroG (by rfl) rfl ?_))
              go_roundw
              case rel => exact ⟨k + 1, by omega, by go_num, by rw [HT.out, HK.out]; rfl, HB3.out⟩
              case measure => simp [intOf]; omega
        · obtain rfl : k = N := by omega
          have hkn : ¬ (k : Int) < (k : Int) := by omega
          obtain ⟨q, hq⟩ : ∃ q, hereN k l u = q := ⟨_, rfl⟩
          have hq' : (List.range k).countP (hereB l u) = q := hq
          rw [hq'] 
          have HS := Lib.hid (lastQ_succ (aheadQ k l r) u)
          clear hb hq'
          by_cases hgq : g < (q : Int)
          · have HSO : Hid (o = some u) := Lib.hid (by
              rw [← HLO.out, HS.out, if_pos (by unfold aheadQ; rw [HG.out, hq]; simp only [Bool.and_eq_true, decide_eq_true_eq]; exact ⟨by omega, hgq⟩)])
            clear hq
            go_wp2_with (first
              | (go_at_call 17; refine (HFA.out _).mono ?_; rintro e W3 ⟨rfl, h3⟩; obtain rfl := h3.symm))
            go_ret2
            exact ⟨by rw [HSO.out]; rfl, HY.out⟩
          · have HSO : Hid (lastQ (aheadQ k l r) u = o) := Lib.hid (by
              rw [← HLO.out, HS.out, if_neg (by unfold aheadQ; rw [HG.out, hq]; simp only [Bool.and_eq_true, decide_eq_true_eq]; rintro ⟨_, h⟩; exact hgq h)])
            clear hq
            go_wp2_with (first
              | (go_at_call 17; refine (HFA.out _).mono ?_; rintro e W3 ⟨rfl, h3⟩; obtain rfl := h3.symm))
            go_roundw
            case rel => exact ⟨u, by omega, by go_num, HSO.out, HY.out⟩
            case measure => simp [intOf]
    · have HZ : Hid (o = none) := Lib.hid (by
        rw [← HLO.out]
        refine lastQ_none _ _ fun i hi => ?_
        unfold aheadQ
        rw [show decide (r < (i : Int)) = false from decide_eq_false (by omega)]
        rfl)
      by_cases hc1 : r < (t : Int) - 1
      · have hc2 : ¬ 0 ≤ (t : Int) - 1 := fun h => hlt ⟨hc1, h⟩
        clear hlt
        go_wp2_with fail
        go_ret2
        exact ⟨by rw [HZ.out]; rfl, HX.out⟩
      · clear hlt
        go_wp2_with fail
        go_ret2
        exact ⟨by rw [HZ.out]; rfl, HX.out⟩
end Go.Proofs.Ytpjeildiahklpaa
