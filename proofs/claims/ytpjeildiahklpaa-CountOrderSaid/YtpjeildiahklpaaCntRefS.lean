/-
  The reference's count: Sure. No condition.
-/
import Derived.Test.YtpjeildiahklpaaCntFor
import Derived.Laws.ResultCell
namespace Go.Proofs.Ytpjeildiahklpaa
open Go Go.RowKit Go.Maps

/-- An ID in a cell, and a slot. -/
theorem results_idvb {fn : Func} {p u : Tmp} (h : fn.results = #[.cell p 24, .tmp u]) (tmps : Array Value) (w : World) (g : Nat) (t : TypeId) (l : List UInt8) (hl : IdOk l) (hp : tmps.getD p undef = .pointer (some ⟨g, 0, none⟩)) (hg : Blk w g t (idC l)) :
    (results fn tmps).run Try.prog w = .ok (.tuple #[idv l, tmps.getD u undef]) w := by
  have hx := run_loadVar_idv hl hg
  rw [_root_.Go.results_cell_tmp h, hp]
  simp [asAddr, Result.andThen, hx]
def isSure (n : Int) (l : List VoteT) (r k : Int) (v : VoteT) : Bool := isRK r k v && decide (2 * faults n + 1 ≤ ((l.countP (isFor r k v.id) : Nat) : Int))
def refSure (n : Int) (l : List VoteT) (r k : Int) : Option (List UInt8) := (l.find? (isSure n l r k)).map (·.id)
theorem faults_ge (n : Int) : -1 ≤ faults n := by
  unfold faults
  repeat' split
  all_goals omega
set_option maxRecDepth 100000 in
set_option maxHeartbeats 8000000 in
theorem refsure_any (n : Int) (v : Value) (l : List VoteT) (r k : Int) (w : World) (hr : RdW w w.heap.size v l) : Calls Try.prog 23 #[.int .i64 n, v, .int .i64 r, .int .i64 k] w fun e w' => e = .returned (.tuple #[idv ((refSure n l r k).getD zeroId), .bool (refSure n l r k).isSome]) ∧ Below w.heap.size w w' := by
  have HR := Lib.hid hr
  obtain ⟨-, A, c, rfl, -, hn1, -⟩ := hr
  obtain ⟨m, hm⟩ : ∃ m, l.length = m := ⟨_, rfl⟩
  rw [hm] at HR hn1 ⊢
  have HN := Lib.hid hm
  obtain ⟨o, ho⟩ : ∃ o, refSure n l r k = o := ⟨_, rfl⟩
  rw [ho]
  have HO := Lib.hid ho
  clear hm ho
  go_enter Try.func23, Try.ntmps23
  go_upto_region 1 with fail
  generalize hW : World.alloc w _ = W1
  have hb1 : Below w.heap.size w W1 := by rw [← hW]; exact (Below.refl _ _).alloc (Nat.le_refl _) _
  have k0 : ∃ old, Blk W1 w.heap.size 24 old ∧ old.size = 32 := by rw [← hW]; exact ⟨_, Blk.newAt _ _ rfl rfl, rfl⟩
  have HB1 := Lib.hid hb1
  have HK0 := Lib.hid k0
  clear hW hb1 k0
  go_upto_region 2 with fail
  go_loopw [10] (fun i wr => ∃ j : Nat, j ≤ m ∧ i = .int .i64 (j : Int) ∧ (l.take j).find? (isSure n l r k) = none ∧ Below W1.heap.size W1 wr) (fun i _ => m - (intOf i).toNat)
  case atStart => exact ⟨0, Nat.zero_le _, rfl, rfl, Below.refl _ _⟩
  case round =>
    obtain ⟨j, hj, rfl, hno, hb⟩ := hrel
    have HX := Lib.hid hb
    obtain ⟨old, hk0, hs0⟩ := HK0.out
    have HKO := Lib.hid (And.intro (hk0.below hb hk0.lt) hs0)
    clear hk0 hs0 hb
    by_cases hlt : j < m
    · have hkn : (j : Int) < (m : Int) := by omega
      have hk0 : (0 : Int) ≤ (j : Int) := by omega
      obtain ⟨x, hx⟩ : ∃ x, l[j]? = some x := ⟨_, List.getElem?_eq_getElem (by rw [HN.out]; exact hlt)⟩
      obtain ⟨ad, c', he, hok, hab, hf⟩ := HR.out.fields hx
      rw [HN.out] at he
      obtain ⟨rfl, -, rfl⟩ := Value.slice.inj he
      obtain ⟨f0, f1, f2, f3⟩ := hf _ (HB1.out.trans (HX.out.mono HB1.out.size))
      have HF := Lib.hid hf
      have HF3 := Lib.hid f3
      have HOK := Lib.hid hok
      have HNO : Hid (isSure n l r k x = false → (l.take (j + 1)).find? (isSure n l r k) = none) := Lib.hid fun h => find_take hx h hno
      have HYES : Hid (isSure n l r k x = true → o = some x.id) := Lib.hid fun h => by
        rw [← HO.out]
        unfold refSure
        rw [find_here hx h hno]
        rfl
      have HRW : Hid (RdW wr wr.heap.size (.slice (some ad) m c) l) := Lib.hid ((HR.out.old (HB1.out.trans (HX.out.mono HB1.out.size))).mono (HB1.out.trans (HX.out.mono HB1.out.size)).size)
      obtain ⟨q, hq⟩ : ∃ q, l.countP (isFor r k x.id) = q := ⟨_, rfl⟩
      have HFO := Lib.hid (reffor_any _ l r k x.id hok.id wr HRW.out)
      rw [hq] at HFO
      have HFA := Lib.hid fun W => reffaults_any n W
      obtain ⟨g, hg⟩ : ∃ g, faults n = g := ⟨_, rfl⟩
      rw [hg] at HFA
      have hg1 : -1 ≤ g := by rw [← hg]; exact faults_ge n
      have hg2 : g ≤ 2 := by rw [← hg]; exact faults_le n
      have HSU : Hid (isSure n l r k x = (isRK r k x && decide (2 * g + 1 ≤ (q : Int)))) := Lib.hid (by unfold isSure; rw [hq, hg])
      clear hf hx he hab f2 f3 hno hok hq hg
      cases h1 : x.r == r with
      | false =>
        have HT := Lib.hid (HNO.out (by rw [HSU.out]; unfold isRK; rw [h1]; rfl))
        go_wp2_with fail
        go_roundw
        case rel => exact ⟨j + 1, by omega, by go_num, HT.out, HX.out⟩
        case measure => simp [intOf]; omega
      | true =>
        cases h2 : x.k == k with
        | false =>
          have HT := Lib.hid (HNO.out (by rw [HSU.out]; unfold isRK; rw [h1, h2]; rfl))
          go_wp2_with fail
          go_roundw
          case rel => exact ⟨j + 1, by omega, by go_num, HT.out, HX.out⟩
          case measure => simp [intOf]; omega
        | true =>
          by_cases h3 : 2 * g + 1 ≤ (q : Int)
          · have HT := Lib.hid (HYES.out (by rw [HSU.out]; unfold isRK; rw [h1, h2]; simp [h3]))
            go_upto_region 5 with (first
              | (guard_target = wpList _ _ _ (Oper.mk _ (.load 24 _) _ _ _ _ :: _) _ _; refine wpList_load_runS (by rfl) 24 _ rfl _ _ rfl HF3.out ?_)
              | (go_at_call 27; refine HFO.out.mono ?_; rintro e W2 ⟨rfl, hb2⟩; have HB2 := Lib.hid hb2; clear hb2)
              | (go_at_call 17; refine (HFA.out _).mono ?_; rintro e W3 ⟨rfl, h3⟩; obtain rfl := h3.symm))
            have HFF := Lib.hid (HF.out _ ((HB1.out.trans (HX.out.mono HB1.out.size)).trans (HB2.out.mono (HB1.out.trans (HX.out.mono HB1.out.size)).size))).2.2.2
            have HKP := Lib.hid (HKO.out.1.below HB2.out HKO.out.1.lt)
            go_wp2_with (first
              | (guard_target = wpList _ _ _ (Oper.mk _ (.load 24 _) _ _ _ _ :: _) _ _; refine wpList_load_runS (by rfl) 24 _ rfl _ _ rfl HFF.out ?_)
              | (guard_target = wpList _ _ _ (Oper.mk _ (.store 24 _ _) _ _ _ _ :: _) _ _; refine wpList_store_idv rfl _ _ rfl w.heap.size x.id rfl rfl HOK.out.id 24 old HKP.out HKO.out.2 ?_; intro W9 hS9 hz9 hb9 hk9))
            refine bodyPost_ret (results_idvb rfl _ _ w.heap.size 24 x.id HOK.out.id rfl hS9) rfl ?_
            exact ⟨by rw [HT.out]; rfl, ((HB1.out.trans (HX.out.mono HB1.out.size)).trans (HB2.out.mono (HB1.out.trans (HX.out.mono HB1.out.size)).size)).trans hb9⟩
          · have HT := Lib.hid (HNO.out (by rw [HSU.out]; unfold isRK; rw [h1, h2]; simp [h3]))
            go_wp2_with (first
              | (guard_target = wpList _ _ _ (Oper.mk _ (.load 24 _) _ _ _ _ :: _) _ _; refine wpList_load_runS (by rfl) 24 _ rfl _ _ rfl HF3.out ?_)
              | (go_at_call 27; refine HFO.out.mono ?_; rintro e W2 ⟨rfl, hb2⟩; have HB2 := Lib.hid hb2; clear hb2)
              | (go_at_call 17; refine (HFA.out _).mono ?_; rintro e W3 ⟨rfl, h3⟩; obtain rfl := h3.symm))
            go_roundw
            case rel => exact ⟨j + 1, by omega, by go_num, HT.out, HX.out.trans (HB2.out.mono HX.out.size)⟩
            case measure => simp [intOf]; omega
    · obtain rfl : j = m := by omega
      have hkn : ¬ (j : Int) < (j : Int) := by omega
      have ho : o = none := by
        rw [List.take_of_length_le (by rw [HN.out]; exact Nat.le_refl _)] at hno
        rw [← HO.out]
        unfold refSure
        rw [hno]
        rfl
      have HZ := Lib.hid ho
      clear hno ho
      go_wp2_with (first
        | (guard_target = wpList _ _ _ (Oper.mk _ (.build 24 _) _ _ _ _ :: _) _ _; refine wpList_build_zero rfl rfl ?_)
        | (guard_target = wpList _ _ _ (Oper.mk _ (.store 24 _ _) _ _ _ _ :: _) _ _; refine wpList_store_idv rfl _ _ rfl w.heap.size zeroId rfl rfl zeroId_ok 24 old HKO.out.1 HKO.out.2 ?_; intro W9 hS9 hz9 hb9 hk9))
      refine bodyPost_ret (results_idvb rfl _ _ w.heap.size 24 zeroId zeroId_ok rfl hS9) rfl ?_
      exact ⟨by rw [HZ.out]; rfl, (HB1.out.trans (HX.out.mono HB1.out.size)).trans hb9⟩
end Go.Proofs.Ytpjeildiahklpaa
