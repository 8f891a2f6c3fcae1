/-
  pack.writeList: for every list of entries together shorter than 2^24: the runs one behind the other. In whatever memory.
-/
import Derived.Test.YtekakelkjnhehaaPackRun
namespace Go.Proofs.Ytekakelkjnhehaa
open Go Go.RowKit PackMath

theorem take_runs (ps : List (List UInt8)) (k : Nat) (h : k < ps.length) : ((ps.take (k + 1)).map run).flatten = ((ps.take k).map run).flatten ++ run (ps.getD k []) := by
  rw [List.take_succ_eq_append_getElem h, List.map_append, List.flatten_append, List.getD_eq_getElem?_getD, List.getElem?_eq_getElem h]
  simp
theorem take_runs_length (ps : List (List UInt8)) (k : Nat) : ((ps.take k).map run).flatten.length ≤ 3 * ps.length + (ps.map List.length).sum := by
  rw [runs_length]
  have h1 : (ps.take k).length ≤ ps.length := by rw [List.length_take]; omega
  have h2 : ((ps.take k).map List.length).sum ≤ (ps.map List.length).sum := by
    have := List.take_append_drop k ps
    have e : (ps.map List.length).sum = ((ps.take k).map List.length).sum + ((ps.drop k).map List.length).sum := by
      rw [← List.sum_append, ← List.map_append, this]
    omega
  omega
set_option maxRecDepth 100000 in
set_option maxHeartbeats 1000000 in
theorem writeList_any (A : Option Addr) (n c : Nat) (ps : List (List UInt8)) (hn : ps.length = n) (hn2 : n ≤ 1048576) (hs : (ps.map List.length).sum < 16777216) (w : World) (hr : RdP w (fun b => b < w.heap.size) A ps) :
    Calls Try.prog 43 #[.slice A n c] w fun e w' => ∃ v, e = .returned v ∧ w'.ownsRow w.heap.size 5 1 v (ps.map run).flatten.length ((ps.map run).flatten.map bv) ∧ Below w.heap.size w w' := by
  have HR := Lib.hid hr
  have HN := Lib.hid hn
  have hlong := Lib.hid (fun k => take_runs_length ps k)
  clear hr
  go_enter Try.func43, Try.ntmps43
  go_wp2
  go_loopw [3, 8] (fun v i wr => ∃ k : Nat, k ≤ n ∧ i = .int .i64 (k : Int) ∧ wr.ownsRow w.heap.size 5 1 v ((ps.take k).map run).flatten.length (((ps.take k).map run).flatten.map bv) ∧ Below w.heap.size w wr) (fun _ i _ => n - (intOf i).toNat)
  case atStart => exact ⟨0, by omega, rfl, World.ownsRow_nil _ _ _ _, Below.refl _ _⟩
  case round =>
    obtain ⟨k, hk, rfl, hown, hb⟩ := hrel
    by_cases hlt : k < n
    · obtain ⟨ad, v, rfl, hok, hcell, hread⟩ := (HR.out.kept (W' := wr) fun a x ha h => (hb.cell (p := a) ha).trans h) k (by rw [HN.out]; exact hlt)
      have hkn : (k : Int) < (n : Int) := by omega
      have htr := take_runs ps k (by omega)
      have hm24 : (ps.getD k []).length < 16777216 := by
        have := sum_le ps (ps.getD k []) (by rw [List.getD_eq_getElem?_getD, List.getElem?_eq_getElem (show k < ps.length by omega)]; simp)
        omega
      have h40 := hlong.out k
      obtain ⟨q, hq⟩ : ∃ q, ps.getD k [] = q := ⟨_, rfl⟩
      rw [hq] at htr hread hm24
      have hread' := hread
      obtain ⟨A0, c0, rfl, hc0, hn0, hcs0⟩ := hread'
      obtain ⟨m, hm⟩ : ∃ m, q.length = m := ⟨_, rfl⟩
      rw [hm] at hread hcell hm24
      obtain ⟨N, hNN⟩ : ∃ N, ((ps.take k).map run).flatten.length = N := ⟨_, rfl⟩
      rw [hNN] at hown h40
      have HNN := Lib.hid hNN
      have AR := Lib.hid (appendRun_any hb.size hown (by omega) (fun b h => h) hread hm hm24)
      have HT := Lib.hid htr
      have HB := Lib.hid hb
      have HM : Hid ((run q).length = 3 + m) := Lib.hid (by rw [run, List.length_append, hm]; rfl)
      clear hNN hown hb hread htr hq hm hc0 hn0 hcs0 h40 hm24 hok
      go_wp2_with (go_at_call 34; refine AR.out.mono ?_; rintro e w2 ⟨g2, cap2, rfl, hown2, hb2⟩)
      go_roundw
      case rel =>
        refine ⟨k + 1, by omega, by go_num, ?_, HB.out.trans hb2⟩
        have e : N + 3 + m = ((ps.take (k + 1)).map run).flatten.length := by rw [HT.out, List.length_append, HM.out, HNN.out]; omega
        rw [← e, HT.out]
        exact hown2
      case measure => simp [intOf]; omega
    · obtain rfl : k = n := by omega
      have e : ps.take k = ps := by rw [← HN.out]; simp
      rw [e] at hown
      have HO := Lib.hid hown
      have HB := Lib.hid hb
      clear hown hb
      go_wp2
      go_ret
      exact ⟨_, rfl, HO.out, HB.out⟩
end Go.Proofs.Ytekakelkjnhehaa
