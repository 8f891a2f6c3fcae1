/-
  tree.Peaks: the whole trees of a list of any size of not more than 2^40, as an iterator; whoever wants no more of them. No condition.
-/
import Derived.Test.YtkkanaefngggoaaDoorTreeBits
import Derived.Test.YtkkanaefngggoaaDoorTreeRoot
namespace Go.Proofs.YtkkanaefngggoaaDoor
open Go Go.RowKit Go.Shelf TreeM
attribute [local go_sem] Oper.semAt_some

def encPk (x : Nat × Nat) : Array Value := #[.int .i64 (x.1 : Int), .int .i64 (x.2 : Int)]
set_option maxRecDepth 100000 in
set_option maxHeartbeats 1000000 in
theorem peaks_any (n : Nat) (w : World) : CallsIn Fence.wide 0 Tryd.prog 29 #[.int .i64 (n : Int)] w fun e w' => e = .returned (.func (.func 50) #[] #[.pointer (some ⟨w.heap.size, 0, none⟩)]) ∧ w' = w.alloc (.cells #[.int .i64 (n : Int)] 3) := by
  refine callsIn_of_wp Tryd.func29 rfl trivial ?_ rfl
  simp only [Tryd.ntmps29, List.size_toArray, List.length_cons, List.length_nil, Nat.reduceAdd, Nat.reduceSub, Array.replicate_succ, Array.replicate_zero, List.push_toArray, List.append_toArray, List.nil_append, List.cons_append]
  gi_wp2
  go_ret
  exact ⟨rfl, rfl⟩
set_option maxRecDepth 100000 in
set_option maxHeartbeats 1000000 in
theorem peaks_iter (j B : Nat) (own : Nat → Prop) (J Jx : List (Nat × Nat) → World → Prop) (Bp n : Nat) (hn : n ≤ 1099511627776)
    (W : World) (_hB : B = W.heap.size) (hbox : W.cell? ⟨Bp, 0, none⟩ = some (.int .i64 (n : Int))) (hbo : ¬ own Bp)
    (hY : ∀ q x W1, (q ++ [x]) <+: pk 0 n → J q W1 → YieldAt Fence.wide 0 Tryd.prog j (encPk x) W1 fun e W' => (e = .returned (.bool true) ∧ J (q ++ [x]) W' ∧ Keep own W1 W') ∨ (e = .returned (.bool false) ∧ Jx (q ++ [x]) W'))
    (h0 : J [] W) :
    CallsIn Fence.wide 0 Tryd.prog 50 #[.func (.yield j) #[] #[], .pointer (some ⟨Bp, 0, none⟩)] W fun e W' => (∃ v, e = .returned v) ∧ (J (pk 0 n) W' ∨ ∃ q, q <+: pk 0 n ∧ q ≠ [] ∧ Jx q W') := by
  have HY := Lib.hid hY
  have H0 := Lib.hid h0
  have HBo := Lib.hid hbo
  clear hY h0
  refine callsIn_of_wp Tryd.func50 rfl trivial ?_ rfl
  simp only [Tryd.ntmps50, List.size_toArray, List.length_cons, List.length_nil, Nat.reduceAdd, Nat.reduceSub, Array.replicate_succ, Array.replicate_zero, List.push_toArray, List.append_toArray, List.nil_append, List.cons_append]
  gi_wp2
  gi_loopw [3] (fun i wr => ∃ (k : Nat) (pre : List (Nat × Nat)), k ≤ n ∧ i = .int .i64 (k : Int) ∧ pre ++ pk k (n - k) = pk 0 n ∧ J pre wr ∧ wr.cell? ⟨Bp, 0, none⟩ = some (.int .i64 (n : Int))) (fun i _ => n - (intOf i).toNat)
  case atStart => exact ⟨0, [], Nat.zero_le _, rfl, by rw [List.nil_append, Nat.sub_zero], H0.out, hbox⟩
  case round =>
    clear hbox
    obtain ⟨k, pre, hk, rfl, hpre, hJ, hbox⟩ := hrel
    by_cases hlt : k < n
    · have hkn : (k : Int) < (n : Int) := by omega
      have hn1 : (n : Int) ≤ 1099511627776 := by omega
      have hk1 : (k : Int) ≤ 1099511627776 := by omega
      have hst := pk_cons k (r := n - k) (by omega)
      have hgr := greatest_any (n - k) (by omega) (by omega)
      have hle := top2_le (n := n - k) (by omega)
      have hpos := top2_pos (n - k)
      obtain ⟨t, ht⟩ : ∃ t, top2 (n - k) = t := ⟨_, rfl⟩
      rw [ht] at hst hgr hle hpos
      have hsub : (((n - k : Nat)) : Int) = (n : Int) - (k : Int) := by omega
      rw [hsub] at hgr
      have HGR : Hid (∀ W, CallsIn Fence.wide 0 Tryd.prog 51 #[.int .i64 ((n : Int) - (k : Int))] W fun e w' => e = .returned (.int .i64 (t : Int)) ∧ w' = W) := Lib.hid fun W => callsIn_wide.2 (hgr W)
      have hpx : (pre ++ [(k, t)]) <+: pk 0 n := ⟨pk (k + t) (n - k - t), by rw [← hpre, hst, List.append_assoc]; rfl⟩
      have HNX : Hid ((pre ++ [(k, t)]) ++ pk (k + t) (n - (k + t)) = pk 0 n) := Lib.hid (by rw [← hpre, hst, List.append_assoc, show n - (k + t) = n - k - t from by omega]; rfl)
      have hR1 := HY.out pre (k, t) wr hpx hJ
      unfold encPk at hR1
      obtain ⟨fn, tmps, assign, body, hy, hR1⟩ := hR1
      have HBOX := Lib.hid hbox
      have HPX := Lib.hid hpx
      have ht1 : (t : Int) ≤ 1099511627776 := by omega
      clear hgr hst ht hpre hJ hpx
      gi_wp2_with (first
        | (refine ⟨trivial, rfl, ?_⟩; gi_at_call 51; refine (HGR.out _).mono ?_; rintro e W2 ⟨rfl, rfl⟩)
        | (refine ⟨rfl, ?_⟩; refine hR1.mono ?_; clear hR1; rintro e W' (⟨rfl, hJ', hk'⟩ | ⟨rfl, hJx'⟩)))
      · exact ⟨⟨k + t, pre ++ [(k, t)], by omega, by go_num, HNX.out, hJ', cell_keep hk' HBo.out HBOX.out⟩, by simp [intOf]; omega⟩
      · refine bodyPost_ret (results_none rfl _ _ _) rfl ?_
        exact ⟨⟨_, rfl⟩, .inr ⟨_, HPX.out, by simp, hJx'⟩⟩
    · obtain rfl : k = n := by omega
      rw [Nat.sub_self, pk_zero, List.append_nil] at hpre
      subst hpre
      have HJ0 := Lib.hid hJ
      clear hJ
      gi_wp2
      go_end0
      exact ⟨⟨_, rfl⟩, .inl HJ0.out⟩
theorem peaks_seq (own : Nat → Prop) (Bp n : Nat) (hn : n ≤ 1099511627776) (w : World) (hbox : w.cell? ⟨Bp, 0, none⟩ = some (.int .i64 (n : Int))) (hbo : ¬ own Bp) :
    SeqC Tryd.prog 50 #[.pointer (some ⟨Bp, 0, none⟩)] encPk own (pk 0 n) w := by
  intro j J Jx W hW _ _ hY h0
  have hBp : Bp < w.heap.size := block_lt_of_cell hbox
  exact peaks_iter j W.heap.size own J Jx Bp n hn W rfl ((hW.cell (p := ⟨Bp, 0, none⟩) hBp).trans hbox) hbo hY h0
end Go.Proofs.YtkkanaefngggoaaDoor
