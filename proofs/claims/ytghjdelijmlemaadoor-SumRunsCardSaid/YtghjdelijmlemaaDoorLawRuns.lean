/-
  SumRuns, the walk: for every byte and every number.
-/
import Derived.Test.YtghjdelijmlemaaDoorRefOf
import Derived.Test.YtghjdelijmlemaaDoorStr
import Derived.Test.YtghjdelijmlemaaDoorLawKnown
import Derived.Deep.RegionWith
import Derived.RegionTactic
namespace Go.Proofs.YtghjdelijmlemaaDoor
open Go Go.RowKit

set_option maxRecDepth 100000 in
set_option maxHeartbeats 1000000 in
theorem runs_in (x : UInt8) (n : Nat) (hn : n ≤ 300) (w : World) (hT : Tables w) :
    Calls Tryd.prog 7 #[bv x, .int .i64 (n : Int)] w fun e w' => e = .returned (.bool true) ∧ Below w.heap.size w w' := by
  have HT := Lib.hid hT
  clear hT
  have hmk := fun w' => run_make_bytes n (by omega) w'
  have h1 : decide ((n : Int) < 0) = false := by simp
  have h2 : decide ((300 : Int) < (n : Int)) = false := by simp; omega
  unfold bv
  go_enter Tryd.func7, Tryd.ntmps7
  go_wp2_with (go_at_call 9; refine (callsIn_wide.1 (known_any w HT.out)).mono ?_; rintro e w1 ⟨rfl, hb1⟩)
  clear hmk
  have hs1 := hb1.size
  have hB0 : Blk (w1.alloc (Obj.cells (arr n fun _ => bv 0) 5)) w1.heap.size 5 (upto n 0 (fun _ => bv x) (bv 0)) := (Blk.new w1 _ _).same (arr_congr fun i _ => by simp)
  have hW0 : Below w.heap.size w (w1.alloc (Obj.cells (arr n fun _ => bv 0) 5)) := hb1.alloc hs1 _
  have HB1 := Lib.hid hb1
  clear hb1
  generalize w1.alloc (Obj.cells (arr n fun _ => bv 0) 5) = W2 at *
  go_loopw [19] (fun i wr => ∃ k : Nat, k ≤ n ∧ i = .int .i64 (k : Int) ∧ Blk wr w1.heap.size 5 (upto n k (fun _ => bv x) (bv 0)) ∧ Below w.heap.size w wr) (fun i _ => n - (intOf i).toNat)
  case atStart => exact ⟨0, by omega, rfl, hB0, hW0⟩
  case round =>
    clear hB0 hW0
    obtain ⟨k, hk, rfl, hB, hW⟩ := hrel
    by_cases hlt : k < n
    · have c1 := hB.cell k
      have f1 := hB.frozen k
      rw [upto_get_any _ _ _ _ _ hlt, if_neg (by omega)] at c1
      have HB := Lib.hid hB
      have HW := Lib.hid hW
      clear hB hW
      go_wp2
      go_roundw
      case rel => exact ⟨k + 1, by omega, by go_num, (HB.out.store k (bv x)).same (upto_set n k (fun _ => bv x) (bv 0) hlt), HW.out.setCell (by simpa using hs1) _⟩
      case measure => simp [intOf]; omega
    · obtain rfl : k = n := by omega
      rw [upto_full] at hB
      have HB := Lib.hid hB
      have HW := Lib.hid hW
      clear hB hW
      go_wp2
      have hrb : ∀ W, Below wr.heap.size wr W → RdB W (fun b => b < wr.heap.size) (.slice (some ⟨w1.heap.size, 0, none⟩) k k) (List.replicate k x) := fun W hb => rdB_blk (HB.out.below hb HB.out.lt) (fun i hi => by simp [List.getD_eq_getElem?_getD, hi]) (by simp) (Nat.le_refl _) (Nat.le_refl _) (by omega) HB.out.lt
      have OF : Hid (∀ W g, Below wr.heap.size wr W → Blk W g 24 #[.slice (some ⟨w1.heap.size, 0, none⟩) k k] → Calls Tryd.prog 10 #[.slice (some ⟨g, 0, none⟩) 1 1] W fun e w' => e = .returned (shaV (List.replicate k x)) ∧ Below W.heap.size W w') := Lib.hid fun W g hb hg => by
        have hz := hb.size
        have hzw := HW.out.size
        have := callsIn_wide.1 (of_any (some ⟨g, 0, none⟩) 1 [List.replicate k x] (by simp) (by simp; omega) W (HT.out.below (HW.out.trans (hb.mono hzw))) (fun i hi => by
          obtain rfl : i = 0 := by simp at hi; omega
          exact ⟨_, _, rfl, hg.lt, by rw [add_zero_block, hg.cell]; rfl, (hrb W hb).mono fun b hb => Nat.lt_of_lt_of_le hb hz⟩))
        simpa using this
      have RO : Hid (∀ W, Calls Tryd.prog 11 #[.string ⟨(List.replicate k x).toArray⟩] W fun e w' => e = .returned (shaV (List.replicate k x)) ∧ Below W.heap.size W w') := Lib.hid fun W => refOf_any _ (by simp; omega) W
      have CV : Hid (∀ W, Below wr.heap.size wr W → (convert 24 9 (.slice (some ⟨w1.heap.size, 0, none⟩) k k)).run Tryd.prog W = .ok (.string ⟨(List.replicate k x).toArray⟩) W) := Lib.hid fun W hb => str_rd (hrb W hb)
      have kd : Below wr.heap.size wr wr.drew := (Below.refl _ _).drew
      have ka : Below wr.heap.size wr (wr.alloc (.cells #[.slice (some ⟨w1.heap.size, 0, none⟩) k k] 24)).drew := ((Below.refl _ _).alloc (Nat.le_refl _) _).drew
      have cv1 := CV.out _ kd
      have cv2 := CV.out _ ka
      have eq := eql_sha (List.replicate k x) _ rfl
      have hk2 : Hid (Below w.heap.size w wr) := HW
      clear hrb hk hn h1 h2
      generalize hSS : (⟨(List.replicate k x).toArray⟩ : ByteArray) = SS at *
      obtain ⟨vv, hvv⟩ : ∃ vv, shaV (List.replicate k x) = .agg vv := ⟨_, rfl⟩
      rw [hvv] at OF RO eq
      go_region_with (first
        | (go_at_call 10; refine (OF.out _ _ ?_ ?_).mono ?_; (first | exact ka); (first | exact (Blk.new wr _ _).drew); rintro e w5 ⟨rfl, hb5⟩; have cv5 := CV.out w5 (ka.trans (hb5.mono ka.size)))
        | (go_at_call 11; refine (RO.out _).mono ?_; rintro e w6 ⟨rfl, hb6⟩))
      all_goals
        have q5 : Below wr.heap.size wr w5 := ka.trans (hb5.mono ka.size)
        have q6 : Below w.heap.size w w6 := HW.out.trans ((q5.trans (hb6.mono q5.size)).mono HW.out.size)
        have Q6 := Lib.hid q6
        clear q5 q6 hb5 hb6 ka kd cv1 cv2 cv5 eq OF RO CV hk2
        go_wp2
        go_ret
        exact ⟨rfl, Q6.out⟩
theorem runs_out (x : UInt8) (n : Int) (hn : n < 0 ∨ 300 < n) (w : World) (hT : Tables w) :
    Calls Tryd.prog 7 #[bv x, .int .i64 n] w fun e w' => e = .returned (.bool true) ∧ Below w.heap.size w w' := by
  have HT := Lib.hid hT
  clear hT
  by_cases h0 : n < 0
  · have h1 : decide (n < 0) = true := by simpa using h0
    go_enter Tryd.func7, Tryd.ntmps7
    go_wp2_with (go_at_call 9; refine (callsIn_wide.1 (known_any w HT.out)).mono ?_; rintro e w1 ⟨rfl, hb1⟩)
    go_ret
    exact ⟨rfl, hb1⟩
  · have h1 : decide (n < 0) = false := by simpa using h0
    have h2 : decide ((300 : Int) < n) = true := by simp; omega
    go_enter Tryd.func7, Tryd.ntmps7
    go_wp2_with (go_at_call 9; refine (callsIn_wide.1 (known_any w HT.out)).mono ?_; rintro e w1 ⟨rfl, hb1⟩)
    go_ret
    exact ⟨rfl, hb1⟩
theorem runs_any (x : UInt8) (n : Int) (w : World) (hT : Tables w) :
    Calls Tryd.prog 7 #[bv x, .int .i64 n] w fun e w' => e = .returned (.bool true) ∧ Below w.heap.size w w' := by
  by_cases h : 0 ≤ n ∧ n ≤ 300
  · obtain ⟨k, rfl⟩ := Int.eq_ofNat_of_zero_le h.1
    exact runs_in x k (by omega) w hT
  · exact runs_out x n (by omega) w hT
end Go.Proofs.YtghjdelijmlemaaDoor
